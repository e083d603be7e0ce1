/-
  A part of the proof.
-/
import Derived.RangeFuncRecord
import Derived.RangeFuncSeq
import Derived.RangeFuncOwn
import Derived.Below
import Derived.RangeFuncBound
import Derived.RangeFuncBox
import Derived.RangeFuncCalls
import Derived.RangeFuncLeaves
import Derived.Shelf.Abstract
import Derived.Shelf.RegionOpen
import Derived.WalkKit
import Derived.OwnWalkIn
import Derived.TacticsInMore
import Derived.LoopNIn
import Derived.LoopIn
import Derived.Maps.AppendAt
import Derived.OrdersIn
import Derived.Deep.RegionHeld
import Derived.Lib.Hide
import Derived.Test.YtnkejjlidgnkkaaGreatDoorClRZG
set_option maxRecDepth 100000
set_option maxHeartbeats 40000000
namespace Go.Proofs.YtnkejjlidgnkkaaGreatDoor.Nd

open Go.Lib renaming hid → qh
open Go Go.RowKit Go.ChangeShapes Go.WideShapes Go.Shelf
def NdV (w : World) (v : Value) (n : Nd) : Prop :=
 ∃ an cn ak ck, v = .agg #[.int .u8 (n.k : Int), .int .i64 n.n, .string n.name, .slice an n.names.length cn, .slice ak n.kids.length ck, .int .i64 n.line] /\ Lst w (.slice an n.names.length cn) (n.names.map .string) /\ Lst w (.slice ak n.kids.length ck) (n.kids.map (.int .i64)) /\ Fine n
theorem NdV.below {w w' : World} {v : Value} {n : Nd} (h : NdV w v n) (hb : Below w.heap.size w w') : NdV w' v n := by
 obtain ⟨an, cn, ak, ck, e, h1, h2, h3⟩ := h;exact ⟨an, cn, ak, ck, e, h1.below hb, h2.below hb, h3⟩
theorem Lst.slice {w : World} {v : Value} {vs : List Value} {n : Nat} (h : Lst w v vs) (hn : vs.length = n) : ∃ ao c, v = .slice ao n c := by
 obtain ⟨ao, c, e, _⟩ := h;exact ⟨ao, c, by rw [e, hn]⟩
theorem Lst.at {w : World} {ao : Option Addr} {n c : Nat} {vs : List Value} (h : Lst w (.slice ao n c) vs) {j : Nat} (hj : j < vs.length) : ∃ g off, ao = some ⟨g, off, none⟩ /\ w.cell? ⟨g, off + j, none⟩ = some vs[j] := by
 obtain ⟨ao', c', e, _, hc⟩ := h;cases e;obtain ⟨g, off, _, rfl, hx⟩ := hc (fun h => by rw [h] at hj; cases hj);exact ⟨g, off, rfl, hx j hj⟩
theorem Lst.int {w : World} {ao : Option Addr} {n c : Nat} {zs : List Int} (h : Lst w (.slice ao n c) (zs.map (.int .i64))) {j : Nat} (hj : j < zs.length) : ∃ g off, ao = some ⟨g, off, none⟩ /\ w.cell? ⟨g, off + j, none⟩ = some (.int .i64 zs[j]) := by
 obtain ⟨g, off, e, hc⟩ := h.at (j := j) (by rw [List.length_map]; exact hj);exact ⟨g, off, e, by rw [hc, List.getElem_map]⟩
theorem Lst.text {w : World} {ao : Option Addr} {n c : Nat} {zs : List ByteArray} (h : Lst w (.slice ao n c) (zs.map .string)) {j : Nat} (hj : j < zs.length) : ∃ g off, ao = some ⟨g, off, none⟩ /\ w.cell? ⟨g, off + j, none⟩ = some (.string zs[j]) := by
 obtain ⟨g, off, e, hc⟩ := h.at (j := j) (by rw [List.length_map]; exact hj);exact ⟨g, off, e, by rw [hc, List.getElem_map]⟩
theorem NdAt.open {w : World} {g o : Nat} {n : Nd} (h : NdAt w g o n) : ∃ an cn ak ck, w.cell? ⟨g, o, none⟩ = some (.int .u8 (n.k : Int)) /\ w.cell? ⟨g, o + 1, none⟩ = some (.int .i64 n.n) /\ w.cell? ⟨g, o + 2, none⟩ = some (.string n.name) /\ w.cell? ⟨g, o + 3, none⟩ = some (.slice an n.names.length cn) /\ w.cell? ⟨g, o + 4, none⟩ = some (.slice ak n.kids.length ck) /\ w.cell? ⟨g, o + 5, none⟩ = some (.int .i64 n.line) /\
  NdV w (.agg #[.int .u8 (n.k : Int), .int .i64 n.n, .string n.name, .slice an n.names.length cn, .slice ak n.kids.length ck, .int .i64 n.line]) n := by
 obtain ⟨vn, vk, c0, c1, c2, c3, c4, c5, hn, hk, hrest⟩ := h;obtain ⟨an, cn, rfl⟩ := hn.slice (n := n.names.length) (by rw [List.length_map]);obtain ⟨ak, ck, rfl⟩ := hk.slice (n := n.kids.length) (by rw [List.length_map]);exact ⟨an, cn, ak, ck, c0, c1, c2, c3, c4, c5, an, cn, ak, ck, rfl, hn, hk, hrest⟩
theorem NodesAt.at {w : World} {ao : Option Addr} {n c : Nat} {l : List Nd} (h : NodesAt w (.slice ao n c) l) {j : Nat} (hj : j < l.length) : ∃ g off, g < w.heap.size /\ ao = some ⟨g, off, none⟩ /\ NdAt w g (off + j * 6) (at' l (j : Int)) := by
 obtain ⟨ao', c', e, _, hc⟩ := h;cases e;obtain ⟨g, off, hg, rfl, hx⟩ := hc (fun h => by rw [h] at hj; cases hj);exact ⟨g, off, hg, rfl, by rw [at_nat hj]; exact hx j hj⟩
theorem SynAt.open {w : World} {v : Value} {l : List Nd} {root : Int} (h : SynAt w v l root) : ∃ ao c, v = .agg #[.slice ao l.length c, .int .i64 root] /\ NodesAt w (.slice ao l.length c) l /\ In64 root := by
 obtain ⟨v0, rfl, ⟨ao, c, rfl, h1, h2⟩, h3⟩ := h;exact ⟨ao, c, rfl, ⟨ao, c, rfl, h1, h2⟩, h3⟩
theorem infoKind : (Tryz.prog.info? 23).map (fun i => (i.zero, i.size, i.bytes)) = some (some (.int .u8 0), 1, 1) := by kernel_rfl
theorem kl_own {w : World} {b : Nat} {v : Value} {ks : List Nat} (h : w.ownsRow b 23 1 v ks.length (ks.map fun (k : Nat) => Value.int .u8 (k : Int))) (hl : ks.length <= 1000000000) (h256 : ∀ k ∈ ks, k < 256) : Kl w v ks := by
 rcases h.2 with ⟨rfl, h0⟩ | ⟨g, cap, cur, rfl, _, hh, hcap, _, hsz, htk⟩
 ·have : ks = [] := List.eq_nil_of_length_eq_zero h0;subst this;exact ⟨none, 0, rfl, Nat.le_refl _, by decide, (fun k hk => by cases hk), fun h => absurd rfl h⟩
 ·refine ⟨_, cap, rfl, hcap, hl, h256, fun _ => ⟨g, 0, ?_, rfl, fun j hj => ?_⟩⟩
  ·exact (Array.getElem?_eq_some_iff.1 hh).1
  ·rw [Nat.zero_add, cell_of hh j (.int .u8 (ks[j] : Int))];have := congrArg (fun (l : List Value) => l[j]?) htk;rw [Nat.mul_one] at this;have this : (cur.toList.take ks.length)[j]? = (ks.map fun (k : Nat) => Value.int .u8 (k : Int))[j]? := this;rw [List.getElem?_take, if_pos hj, Array.getElem?_toList, List.getElem?_map, List.getElem?_eq_getElem hj] at this;exact this
theorem own_kindsOf (v vn : Value) (l : List Nd) (root : Int) (n : Nd) (w : World) (hS : SynAt w v l root) (hN : NdV w vn n) (hin : ∀ c ∈ n.kids, inR l c) (hl : n.kids.length <= 1000000) :
  Calls Tryz.prog 27 #[v, vn] w fun e w' => ∃ u, e = .returned u /\ Kl w' u ((kinds l n).map (·.1)) /\ Below w.heap.size w w' := by
 have HS0 := qh hS;obtain ⟨ao, c, rfl, hNd, hr⟩ := hS.open;obtain ⟨an, cn, ak, ck, rfl, hLn, hLk, hF⟩ := hN;have HND := qh hNd;have HLK := qh hLk;have HIN := qh hin;clear hS hNd hLn hLk hF hin hr HS0;obtain ⟨m, hm⟩ : ∃ m, m = n.kids.length := ⟨_, rfl⟩;obtain ⟨N, hN⟩ : ∃ N, N = l.length := ⟨_, rfl⟩;rw [<- hm] at hl;rw [<- hm] at HLK ⊢;rw [<- hN] at HND ⊢;have HM := qh hm;have HN := qh hN;clear hm hN;obtain ⟨S, hS⟩ : ∃ S : List Value, S = [] := ⟨_, rfl⟩;go_enter Tryz.func27, Tryz.ntmps27;go_wp2_with fail;obtain ⟨w2, hw2⟩ : ∃ w2, w2 = (w.alloc (.cells #[.slice ao N c, .int .i64 root] 27)).alloc (.cells #[.int .u8 (n.k : Int), .int .i64 n.n, .string n.name, .slice an n.names.length cn, .slice ak m ck, .int .i64 n.line] 35) := ⟨_, rfl⟩;rw [<- hw2];have hB : Below w.heap.size w w2 := by rw [hw2]; exact ((Below.refl _ _).alloc (Nat.le_refl _) _).alloc (by simp) _
 have hbox : w2.heap[w.heap.size]? = some (.cells #[.slice ao N c, .int .i64 root] 27 (0, 0)) := by
  rw [hw2]; exact (Below.heap_alloc _ _ _ (by simp)).trans (new_block w _)
 have HB := qh hB;have HBOX := qh hbox;clear hw2 hB hbox hS S;go_loopg [5, 11] m (fun r out i wr => ∃ k : Nat, r = m - k /\ i = .int .i64 (k : Int) /\ k <= m /\ Below w2.heap.size w2 wr /\ wr.ownsRow w2.heap.size 23 1 out k (((kinds l n).take k).map fun x => Value.int .u8 (x.1 : Int)))
 case atStart => exact ⟨0, rfl, rfl, Nat.zero_le _, Below.refl _ _, World.ownsRow_nil _ _ _ _⟩
 case round =>
  obtain ⟨k, rfl, rfl, hk, hb, hown⟩ := hrel;have HO := qh hown;have HBr := qh hb;have hB2 := HB.out.trans (hb.mono HB.out.size);have HB2 := qh hB2;have hbox := (hb.block _ (lt_of_get HBOX.out)).trans HBOX.out;have c00 := cell_of hbox 0 (.slice ao N c) rfl;obtain ⟨au, cu, rfl⟩ := own_slice hown;clear hb hown hbox hB2;by_cases hlt : k < m
  ·have hlt' : (k : Int) < m := by omega
   have hkk : k < n.kids.length := by have := HM.out; omega
   obtain ⟨gk, offk, rfl, hck⟩ := (HLK.out.below HB2.out).int hkk;obtain ⟨z, hz⟩ : ∃ z, n.kids[k] = z := ⟨_, rfl⟩;rw [hz] at hck;have hzin := HIN.out z (by rw [<- hz]; exact List.getElem_mem hkk);obtain ⟨d, rfl, hd⟩ := of_inR hzin;obtain ⟨g, off, hg, rfl, hnd⟩ := (HND.out.below HB2.out).at hd;obtain ⟨_, _, _, _, e0, _⟩ := hnd.open;have hdN : (d : Int) < N := by have := HN.out; omega
   have hd0 : (0 : Int) <= d := Int.natCast_nonneg d;have hkind : (kinds l n).take (k + 1) = (kinds l n).take k ++ [((at' l (d : Int)).k, (at' l (d : Int)).n)] := by
    rw [List.take_add_one];unfold kinds;rw [List.getElem?_map, List.getElem?_eq_getElem hkk, hz]
    rfl
   have HK := qh hkind;clear hkind hzin hz hnd hd;generalize (at' l (d : Int)).k = q at *;go_wp2_with (at_builtin; refine wpList_append_one rfl (.tmp 15) (.tmp 22) 61 rfl w2.heap.size 23 (.int .u8 0) 1 Tryz.underlying61 infoKind rfl (.slice au k cu) k _ rfl HO.out (.int .u8 (q : Int)) rfl rfl ?_ ?_ HBr.out.size ?_)
   ·unfold maxLen; omega
   ·omega
   intro v' w' ho hgr;have HO2 := qh ho;have HB3 := qh (HBr.out.trans (below_appended HO.out hgr HBr.out.size));clear ho hgr;go_wp2_with fail;go_roundg (m - (k + 1))
   case measure => omega
   case rel => exact ⟨k + 1, rfl, by go_num, by omega, HB3.out, by rw [HK.out, List.map_append, List.map_take]; exact HO2.out⟩
  ·obtain rfl : k = m := by omega
   have hlt' : ¬ (k : Int) < k := by omega
   go_wp2_with fail;go_ret;have hlen : ((kinds l n).map (·.1)).length = k := by unfold kinds; rw [List.length_map, List.length_map]; exact HM.out.symm
   have ho := HO.out;rw [List.take_of_length_le (by rw [List.length_map] at hlen; omega)] at ho;refine ⟨_, rfl, kl_own (b := w2.heap.size) (ks := (kinds l n).map (·.1)) (by rw [hlen, List.map_map]; exact ho) (by omega) ?_, HB2.out⟩;intro q hq;obtain ⟨x, hx, rfl⟩ := List.mem_map.1 hq;unfold kinds at hx;obtain ⟨z, hz, rfl⟩ := List.mem_map.1 hx;obtain ⟨d, rfl, hd⟩ := of_inR (HIN.out z hz);obtain ⟨g, off, hg, _, hnd⟩ := HND.out.at hd;obtain ⟨_, _, _, _, _, _, _, _, _, _, _, _, _, _, _, _, _, hfine⟩ := hnd.open;exact hfine.1
end Go.Proofs.YtnkejjlidgnkkaaGreatDoor.Nd
namespace Go.Proofs.YtnkejjlidgnkkaaGreatDoor.Rf

open Go.Lib renaming hid → qh
open Go Go.RowKit
structure Tame (p : Nat -> Obj -> Bool) (A C : World) : Prop where
 os : C.os = A.os
 tape : C.tape = A.tape
 output : C.output = A.output
 size : A.heap.size <= C.heap.size
 same : ∀ g o, A.heap[g]? = some o -> p g o = false -> C.heap[g]? = some o
theorem Tame.refl (p : Nat -> Obj -> Bool) (A : World) : Tame p A A := ⟨rfl, rfl, rfl, Nat.le_refl _, fun _ _ h _ => h⟩
theorem Tame.trans {p : Nat -> Obj -> Bool} {A B C : World} (h : Tame p A B) (k : Tame p B C) : Tame p A C :=
 ⟨k.os.trans h.os, k.tape.trans h.tape, k.output.trans h.output, Nat.le_trans h.size k.size, fun g o ho hp => k.same g o (h.same g o ho hp) hp⟩
theorem Tame.mono {p q : Nat -> Obj -> Bool} {A B : World} (h : Tame p A B) (hpq : ∀ g o, p g o = true -> q g o = true) : Tame q A B :=
 ⟨h.os, h.tape, h.output, h.size, fun g o ho hq => h.same g o ho (by
  cases hp : p g o with
  | false => rfl
  | true => rw [hpq g o hp] at hq; cases hq)⟩
theorem lt_of_heap {A : World} {g : Nat} {o : Obj} (h : A.heap[g]? = some o) : g < A.heap.size := (Array.getElem?_eq_some_iff.1 h).1
theorem Tame.below {p : Nat -> Obj -> Bool} {A C : World} {n : Nat} (h : Tame p A C) (hp : ∀ g o, p g o = true -> n <= g) (hn : n <= A.heap.size) : Below n A C :=
 ⟨h.os, h.tape, h.output, h.size, fun k hk => by
  have hlt : k < A.heap.size := Nat.lt_of_lt_of_le hk hn;rw [Array.getElem?_eq_getElem hlt];refine h.same k _ (Array.getElem?_eq_getElem hlt) ?_;cases e : p k A.heap[k] with
  | false => rfl
  | true => exact absurd (hp _ _ e) (by omega)⟩
theorem Tame.alloc (p : Nat -> Obj -> Bool) (A : World) (o : Obj) : Tame p A (A.alloc o) :=
 ⟨rfl, rfl, rfl, by simp, fun g o' ho _ => (Below.heap_alloc A o g (lt_of_heap ho)).trans ho⟩
theorem Tame.drew (p : Nat -> Obj -> Bool) (A : World) : Tame p A A.drew := ⟨rfl, rfl, rfl, Nat.le_refl _, fun _ _ h _ => h⟩
theorem Tame.setCell {p : Nat -> Obj -> Bool} (A : World) (a : Addr) (v : Value) {o : Obj} (ho : A.heap[a.block]? = some o) (hp : p a.block o = true) : Tame p A (A.setCell a v) :=
 ⟨rfl, rfl, rfl, by simp [World.setCell], fun g o' ho' hp' => by
  by_cases e : g = a.block
  ·subst e; rw [ho] at ho'; cases ho'; rw [hp] at hp'; cases hp'
  ·exact (Below.heap_setCell A a v g e).trans ho'⟩
theorem Tame.putObj {p : Nat -> Obj -> Bool} (A : World) (l : Nat) {o : Obj} (o' : Obj) (ho : A.heap[l]? = some o) (hp : p l o = true) : Tame p A (A.putObj l o') :=
 ⟨rfl, rfl, rfl, by simp, fun g o'' ho' hp' => by
  by_cases e : g = l
  ·subst e; rw [ho] at ho'; cases ho'; rw [hp] at hp'; cases hp'
  ·exact (World.putObj_heap_other e).trans ho'⟩
theorem Tame.grown {p : Nat -> Obj -> Bool} {A C : World} {row : Option Nat} (hg : A.grownBy C row) (hr : ∀ k o, row = some k -> A.heap[k]? = some o -> p k o = true) : Tame p A C :=
 ⟨hg.os, hg.tape, hg.output, hg.size, fun g o ho hp => (hg.block g (lt_of_heap ho) (fun e => by rw [hr g o e.symm ho] at hp; cases hp)).trans ho⟩
def tyIn (T : List Nat) : Obj -> Bool
 | .cells _ t _ => T.contains t
 | _ => false
theorem tyIn_cells {T : List Nat} {o : Obj} (h : tyIn T o = true) : o.isCells = true := by
 cases o <;> first | rfl | (simp [tyIn] at h)
def own (B : Nat) (g : Nat) (o : Obj) : Bool := !o.isCells && decide (B <= g)
def turn (T : List Nat) (B : Nat) (g : Nat) (o : Obj) : Bool := decide (B <= g) && (tyIn T o || !o.isCells)
theorem turn_ge {T : List Nat} {B g : Nat} {o : Obj} (h : turn T B g o = true) : B <= g := by
 unfold turn at h;rw [Bool.and_eq_true, decide_eq_true_iff] at h;exact h.1
theorem turn_mono {T : List Nat} {B B' g : Nat} {o : Obj} (hB : B <= B') (h : turn T B' g o = true) : turn T B g o = true := by
 unfold turn at *;rw [Bool.and_eq_true, decide_eq_true_iff] at *;exact ⟨Nat.le_trans hB h.1, h.2⟩
theorem turn_own {T : List Nat} {B g : Nat} {o : Obj} (h : own B g o = true) : turn T B g o = true := by
 unfold own at h;unfold turn;rw [Bool.and_eq_true] at *;exact ⟨h.2, by rw [h.1, Bool.or_true]⟩
theorem turn_no {T : List Nat} {B g : Nat} {o : Obj} (h : g < B) : turn T B g o = false := by
 unfold turn;rw [decide_eq_false (by omega), Bool.false_and]
theorem turn_ty {T : List Nat} {B g : Nat} {cs : Array Value} {t : TypeId} {fr : Nat × Nat} (h : T.contains t = false) : turn T B g (.cells cs t fr) = false := by
 unfold turn tyIn
 dsimp only
 rw [h]
 show (_ && (false || !true)) = false;simp
theorem turn_yes {T : List Nat} {B g : Nat} {cs : Array Value} {t : TypeId} {fr : Nat × Nat} (h : T.contains t = true) (hB : B <= g) : turn T B g (.cells cs t fr) = true := by
 unfold turn tyIn
 dsimp only
 rw [h, decide_eq_true hB]
 rfl
def SeqT {α : Type} (n : Nat) (P : Program) (g : Nat) (lb : Array Value) (encs : α -> Array Value) (T : List Nat) (pb : Nat -> Nat -> Obj -> Bool) (Ok S : List α -> Prop) (w : World) : Prop :=
 ∀ (l : Nat) (J Jx : List α -> World -> Prop) (W : World), Below w.heap.size w W ->
  (∀ s A C, J s A -> Tame (turn T W.heap.size) A C -> J s C) -> (∀ s A C, Jx s A -> Tame (turn T W.heap.size) A C -> Jx s C) ->
  (∀ pre x W1, J pre W1 -> Ok (pre ++ [x]) -> YieldAt Fence.wide (n - 1) P l (encs x) W1 fun e W' =>
   (e = .returned (.bool true) /\ J (pre ++ [x]) W' /\ Tame (pb W.heap.size) W1 W') \/ (e = .returned (.bool false) /\ Jx (pre ++ [x]) W' /\ Tame (pb W.heap.size) W1 W')) ->
  J [] W ->
  CallsIn Fence.wide n P g (#[.func (.yield l) #[] #[]] ++ lb) W fun e W' => (∃ v, e = .returned v) /\ ((∃ xs, S xs /\ J xs W') \/ (∃ pre, Ok pre /\ Jx pre W'))
def post {α : Type} (pc : Nat -> Obj -> Bool) (I Ix : List α -> World -> Prop) (xs : List α) (W : World) : Exit -> Act -> World -> Prop
 | .normal, _, W' => Tame pc W W' /\ I xs W'
 | .ret, _, W' => Tame pc W W' /\ Ix xs W'
 | .exit _, _, _ => False
 | .goto _, _, _ => False
 | .panic _, _, _ => False
 | .outgrown, _, _ => False
theorem range_law {α : Type} {n : Nat} {P : Program} {g : Operand} {ps : Array Tmp} {assign body : Code} {Q : Exit -> Act -> World -> Prop} {a : Act} {w w0 : World} {gf : Nat} {lb : Array Value}
  {encs : α -> Array Value} {T : List Nat} {pb : Nat -> Nat -> Obj -> Bool} {pc : Nat -> Obj -> Bool} {Ok S : List α -> Prop}
  (h1 : 1 <= n) (hg : a.eval g = .func (.func gf) #[] lb) (eg : ∀ args w, (callFunc gf args).run P w = .ok (.enter gf args) w)
  (hseq : SeqT (n - 1) P gf lb encs T pb Ok S w0) (hb0 : Below w0.heap.size w0 w) (hps : ∀ x, (encs x).size = ps.size)
  (hpc : ∀ g o, pc g o = true -> o.isCells = true) (hpb : ∀ g o, (pc g o || (own w.heap.size g o && decide (g < w.heap.size + 2))) = true -> pb (w.heap.size + 2) g o = true)
  (I Ix : List α -> World -> Prop) (hI : ∀ s A C, I s A -> Tame (turn T w.heap.size) A C -> I s C) (hIx : ∀ s A C, Ix s A -> Tame (turn T w.heap.size) A C -> Ix s C)
  (h0 : I [] w) (a₁ : α -> Act)
  (hassign : ∀ (l : Nat) (x : α) (W : World) (K : Act -> World -> Prop), K (a₁ x) W ->
   assign.wpIn (Fence.wide.inRound l) (n - 1 - 1) P (Exit.then K (fun _ _ _ => False)) { tmps := (ps.zip (encs x)).foldl (fun t (p, v) => t.setIfInBounds p v) a.tmps, defers := [] } W)
  (hbody : ∀ (l : Nat) (pre : List α) (x : α) (W : World), I pre W -> Ok (pre ++ [x]) -> body.wpIn (Fence.wide.inRound l) (n - 1 - 1) P (post pc I Ix (pre ++ [x]) W) (a₁ x) W)
  (hdone : ∀ (D : Nat) (xs : List α) (W : World), w.heap.size <= D -> S xs -> I xs W -> W.heap[D]? = some (.deferred (some [])) -> Q .normal { a with defers := { target := .collected D, args := #[] } :: a.defers } W)
  (hstop : ∀ (D : Nat) (pre : List α) (W : World), w.heap.size <= D -> Ok pre -> Ix pre W -> W.heap[D]? = some (.deferred (some [])) -> Code.ret.wpIn Fence.wide n P Q { a with defers := { target := .collected D, args := #[] } :: a.defers } W) :
  (Code.rangeFunc g ps assign body).wpIn Fence.wide n P Q a w := by
 refine wpIn_rangeFunc fun fn hfn => ?_
 let rc : LoopState -> Option Code -> Loop := fun st pe => ⟨st, pe, fn, a.tmps, ps, assign, body, w.heap.size⟩
 let N : Nat := w.heap.size + 1
 let W1 : World := (w.alloc (.deferred (some []))).alloc (.loop (rc .ready none))
 have sW1 : W1.heap.size = w.heap.size + 2 := by show (((w.alloc _).alloc _).heap.size) = _; simp
 have atN : W1.heap[N]? = some (.loop (rc .ready none)) := by
  have := World.alloc_heap_new (w.alloc (.deferred (some []))) (.loop (rc .ready none));rw [World.size_alloc] at this; exact this
 have atD : W1.heap[w.heap.size]? = some (.deferred (some [])) := (Below.heap_alloc _ _ _ (by simp)).trans (World.alloc_heap_new w _);have bW1 : Below w.heap.size w W1 := ((Below.refl _ w).alloc (Nat.le_refl _) _).alloc (by simp) _;have tW1 : Tame (turn T w.heap.size) w W1 := (Tame.alloc _ _ _).trans (Tame.alloc _ _ _);have ownT : ∀ (W : World) (l : Nat) (o o' : Obj), w.heap.size <= l -> W.heap[l]? = some o -> o.isCells = false -> ∀ q : Nat -> Obj -> Bool, (∀ g o, own w.heap.size g o = true -> q g o = true) -> Tame q W (W.putObj l o') := fun W l o o' hl ho hc q hq =>
  Tame.putObj W l o' ho (hq l o (by simp [own, hc, hl]))
 have qI : ∀ g o, own w.heap.size g o = true -> turn T w.heap.size g o = true := fun g o h => turn_own h
 have inI : ∀ g o, turn T W1.heap.size g o = true -> turn T w.heap.size g o = true := fun g o h => turn_mono (by rw [sW1]; omega) h
 have toB : ∀ (W : World) (o o' : Obj), W.heap[N]? = some o -> o.isCells = false -> Tame (pb W1.heap.size) W (W.putObj N o') := fun W o o' ho hc => by
  rw [sW1];exact Tame.putObj W N o' ho (hpb N o (by
   have h2 : own w.heap.size N o = true := by unfold own; rw [hc, decide_eq_true (by show w.heap.size <= w.heap.size + 1; omega)]; rfl
   rw [h2, decide_eq_true (by show w.heap.size + 1 < _; omega), Bool.and_self, Bool.or_true]))
 have noPc : ∀ g (o : Obj), o.isCells = false -> pc g o = false := fun g o hc => by
  cases h : pc g o with
  | false => rfl
  | true => rw [hpc g o h] at hc; cases hc
 let J : List α -> World -> Prop := fun pre W => I pre W /\ W.heap[N]? = some (.loop (rc .ready none)) /\ W.heap[w.heap.size]? = some (.deferred (some []))
 let Jx : List α -> World -> Prop := fun pre W => Ix pre W /\ W.heap[N]? = some (.loop (rc .done (some .ret))) /\ W.heap[w.heap.size]? = some (.deferred (some []))
 refine ⟨N, [{ target := .collected w.heap.size, args := #[] }], W1, { target := .fn (.func gf) lb, args := #[.func (.yield N) #[] #[]] }, W1, gf, #[.func (.yield N) #[] #[]] ++ lb, W1,
  run_enterLoop_outer _ _ _ _ _, ?_, fun f' _ => trivial, ?_, fun _ => h1, ?_⟩
 ·simp only [resolve, hg];simp [go_sem]
 ·simp [invoke, go_sem, eg]
 refine (hseq N J Jx W1 (hb0.trans (bW1.mono hb0.size)) ?_ ?_ ?_ ⟨hI _ _ _ h0 tW1, atN, atD⟩).mono ?_
 ·rintro s A C ⟨hi, hl, hk⟩ hT;exact ⟨hI s A C hi (hT.mono inI), hT.same _ _ hl (turn_no (by rw [sW1]; show w.heap.size + 1 < _; omega)), hT.same _ _ hk (turn_no (by rw [sW1]; omega))⟩
 ·rintro s A C ⟨hi, hl, hk⟩ hT;exact ⟨hIx s A C hi (hT.mono inI), hT.same _ _ hl (turn_no (by rw [sW1]; show w.heap.size + 1 < _; omega)), hT.same _ _ hk (turn_no (by rw [sW1]; omega))⟩
 ·rintro pre x W ⟨hi, hl, hk⟩ hok;have hND : w.heap.size ≠ N := by show w.heap.size ≠ w.heap.size + 1; omega
  have hy := run_yield (P := P) (args := encs x) hl (hps x);refine ⟨fn, _, assign, body, hy, roundIn_of_wpIn hfn (hassign _ x W _ ⟨_, run_beginRound hl rfl, ?_⟩)⟩;have hl2 := World.putObj_heap_same (o := .loop (rc .busy none)) (lt_of_heap hl);have hk2 := (World.putObj_heap_other (w := W) (o := .loop (rc .busy none)) hND).trans hk;have hw2 := ownT W N _ (.loop (rc .busy none)) (Nat.le_succ _) hl rfl;refine wpIn_mono (hbody N pre x _ (hI _ _ _ hi (hw2 _ qI)) hok) ?_;intro e a3 W3 hp;have ends : ∀ (jump : Option Code), Tame pc (W.putObj N (.loop (rc .busy none))) W3 -> ∃ st, (Instr.endRound N jump).run P W3 = .ok (.bool jump.isNone) (W3.putObj N (.loop (rc st jump))) /\
    st = (if jump.isNone then LoopState.ready else LoopState.done) /\ W3.heap[N]? = some (.loop (rc .busy none)) /\ (W3.putObj N (.loop (rc st jump))).heap[N]? = some (.loop (rc st jump)) /\ (W3.putObj N (.loop (rc st jump))).heap[w.heap.size]? = some (.deferred (some [])) := fun jump hT =>
   have h3 := hT.same _ _ hl2 (noPc _ _ rfl)
   ⟨_, run_endRound (P := P) jump h3, rfl, h3, World.putObj_heap_same (lt_of_heap h3), (World.putObj_heap_other hND).trans (hT.same _ _ hk2 (noPc _ _ rfl))⟩
  cases e with
  | normal =>
   obtain ⟨hT, hi3⟩ := hp;obtain ⟨st, hr, rfl, hl3, hl4, hk4⟩ := ends none hT;refine ⟨_, _, hr, .inl ⟨rfl, ⟨hI _ _ _ hi3 (ownT W3 N _ _ (Nat.le_succ _) hl3 rfl _ qI), hl4, hk4⟩, ?_⟩⟩;exact ((toB W _ _ hl rfl).trans (hT.mono fun g o h => by rw [sW1]; exact hpb g o (by rw [h, Bool.true_or]))).trans (toB W3 _ _ hl3 rfl)
  | ret =>
   obtain ⟨hT, hi3⟩ := hp;obtain ⟨st, hr, rfl, hl3, hl4, hk4⟩ := ends (some .ret) hT;exact ⟨_, _, hr, .inr ⟨rfl, ⟨hIx _ _ _ hi3 (ownT W3 N _ _ (Nat.le_succ _) hl3 rfl _ qI), hl4, hk4⟩, ((toB W _ _ hl rfl).trans (hT.mono fun g o h => by rw [sW1]; exact hpb g o (by rw [h, Bool.true_or]))).trans (toB W3 _ _ hl3 rfl)⟩⟩
  | exit id => exact hp.elim
  | goto t => exact hp.elim
  | panic ch => exact hp.elim
  | outgrown => exact hp.elim
 ·rintro e W2 ⟨⟨v, rfl⟩, ⟨xs, hS, hi, hl, hk⟩ | ⟨pre, hOk, hi, hl, hk⟩⟩
  ·have hND : w.heap.size ≠ N := by show w.heap.size ≠ w.heap.size + 1; omega
   exact ⟨none, _, run_endLoop (P := P) hl (by simp [rc]), hdone _ xs _ (Nat.le_refl _) hS (hI _ _ _ hi (ownT W2 N _ _ (Nat.le_succ _) hl rfl _ qI)) ((World.putObj_heap_other hND).trans hk)⟩
  ·have hND : w.heap.size ≠ N := by show w.heap.size ≠ w.heap.size + 1; omega
   exact ⟨some .ret, _, run_endLoop (P := P) hl (by simp [rc]), hstop _ pre _ (Nat.le_refl _) hOk (hIx _ _ _ hi (ownT W2 N _ _ (Nat.le_succ _) hl rfl _ qI)) ((World.putObj_heap_other hND).trans hk)⟩
end Go.Proofs.YtnkejjlidgnkkaaGreatDoor.Rf
namespace Go.Proofs.YtnkejjlidgnkkaaGreatDoor.Nd

open Go.Lib renaming hid → qh
open Go Go.RowKit Go.ChangeShapes Go.WideShapes Go.Shelf
open Go.Proofs.YtnkejjlidgnkkaaGreatDoor.Rf
attribute [local go_sem] Oper.semAt_some
theorem deep1 (k : Nat) (i : Nat) (w : World) (h : k = 1 \/ k = 35) : Calls Tryz.prog 71 #[.int .u8 (k : Int), .int .i64 (i : Int)] w fun e w' => e = .returned (.int .i64 0) /\ w = w' := by
 rcases h with rfl | rfl
 ·go_enter Tryz.func71, Tryz.ntmps71;go_wp2_with fail;go_ret;exact ⟨rfl, rfl⟩
 ·go_enter Tryz.func71, Tryz.ntmps71;go_wp2_with fail;go_ret;exact ⟨rfl, rfl⟩
theorem deep2 (k : Nat) (i : Nat) (w : World) (h : k = 28 \/ k = 29 \/ k = 30 \/ k = 31 \/ k = 32 \/ k = 33) : Calls Tryz.prog 71 #[.int .u8 (k : Int), .int .i64 (i : Int)] w fun e w' => e = .returned (.int .i64 ((if i = 0 then 0 else 1 : Nat) : Int)) /\ w = w' := by
 by_cases h0 : i = 0
 ·subst h0;rcases h with rfl | rfl | rfl | rfl | rfl | rfl
  all_goals
   go_enter Tryz.func71, Tryz.ntmps71;go_wp2_with fail;go_ret;exact ⟨rfl, rfl⟩
 ·rw [if_neg h0];have h1 : ¬ (i : Int) < 1 := by omega
  have h2 : (1 : Int) <= i := by omega
  have h3 : min (i : Int) 1 = 1 := by omega
  have h4 : 1 <= i := by omega
  rcases h with rfl | rfl | rfl | rfl | rfl | rfl
  all_goals
   go_enter Tryz.func71, Tryz.ntmps71;go_wp2
   all_goals
    go_ret
    first
     | exact ⟨rfl, rfl⟩
     | (refine ⟨congrArg (fun z => Ending.returned (.int .i64 z)) ?_, rfl⟩; omega)
theorem deep3 (k : Nat) (i : Nat) (w : World) (h : ¬ (k = 1 \/ k = 35)) (h' : ¬ (k = 28 \/ k = 29 \/ k = 30 \/ k = 31 \/ k = 32 \/ k = 33)) : Calls Tryz.prog 71 #[.int .u8 (k : Int), .int .i64 (i : Int)] w fun e w' => e = .returned (.int .i64 1) /\ w = w' := by
 have e1 : ¬ (k : Int) = 1 := by omega
 have e2 : ¬ (k : Int) = 35 := by omega
 have e3 : ¬ (k : Int) = 28 := by omega
 have e4 : ¬ (k : Int) = 29 := by omega
 have e5 : ¬ (k : Int) = 30 := by omega
 have e6 : ¬ (k : Int) = 31 := by omega
 have e7 : ¬ (k : Int) = 32 := by omega
 have e8 : ¬ (k : Int) = 33 := by omega
 clear h h';go_enter Tryz.func71, Tryz.ntmps71;go_wp2_with fail;go_ret;exact ⟨rfl, rfl⟩
theorem own_deeper (k : Nat) (i : Nat) (w : World) : Calls Tryz.prog 71 #[.int .u8 (k : Int), .int .i64 (i : Int)] w fun e w' => e = .returned (.int .i64 (up k i : Int)) /\ w = w' := by
 by_cases h : k = 1 \/ k = 35
 ·have e : up k i = 0 := by unfold up; rw [if_pos (by omega)]
  rw [e]; exact deep1 k i w h
 ·by_cases h' : k = 28 \/ k = 29 \/ k = 30 \/ k = 31 \/ k = 32 \/ k = 33
  ·have e : up k i = if i = 0 then 0 else 1 := by
    unfold up;by_cases h0 : i = 0
    ·rw [if_pos h0, if_pos (by omega)]
    ·rw [if_neg h0, if_neg (by omega)]
   rw [e]; exact deep2 k i w h'
  ·have e : up k i = 1 := by unfold up; rw [if_neg (by omega)]
   rw [e]; exact deep3 k i w h h'
def backU (ks : List Int) (j : Nat) : List (Nat × Int) := (List.range j).map fun t => (ks.length - 1 - t, ks.getD (ks.length - 1 - t) 0)
theorem backU_succ (ks : List Int) (j : Nat) : backU ks (j + 1) = backU ks j ++ [(ks.length - 1 - j, ks.getD (ks.length - 1 - j) 0)] := by simp [backU, List.range_succ]
theorem backU_length (ks : List Int) (j : Nat) : (backU ks j).length = j := by simp [backU]
theorem back_in (l Bs n₀ : Nat) (ao : Option Addr) (cap : Nat) (ks : List Int) (hlen : ks.length <= 1000000000000000000) (J Jx : List (Nat × Int) -> World -> Prop)
  (hY : ∀ pre x W, J pre W -> (∃ j, j <= ks.length /\ pre ++ [x] = backU ks j) -> YieldAt Fence.wide 5 Tryz.prog l #[.int .i64 (x.1 : Int), .int .i64 x.2] W fun e W' =>
   (e = .returned (.bool true) /\ J (pre ++ [x]) W' /\ Tame (fun g _ => decide (n₀ <= g) && decide (g ≠ Bs)) W W') \/ (e = .returned (.bool false) /\ Jx (pre ++ [x]) W' /\ Tame (fun g _ => decide (n₀ <= g) && decide (g ≠ Bs)) W W'))
  (W : World) (hBs : Boxed W Bs 33 (.slice ao ks.length cap)) (hc : ∀ j, j < ks.length -> ∃ g off, ao = some ⟨g, off, none⟩ /\ g < n₀ /\ W.cell? ⟨g, off + j, none⟩ = some (.int .i64 (ks.getD j 0))) (hn₀ : n₀ <= W.heap.size) (h0 : J [] W) :
  CallsIn Fence.wide 6 Tryz.prog 111 #[.func (.yield l) #[] #[], .pointer (some ⟨Bs, 0, none⟩)] W fun e W' => (∃ v, e = .returned v) /\
   ((∃ ys, ys = backU ks ks.length /\ J ys W') \/ (∃ pre, (∃ j, j <= ks.length /\ pre = backU ks j) /\ Jx pre W')) := by
 have HC := qh hc;have HBS := qh hBs;clear hc;have c0 := hBs.cell;clear hBs;obtain ⟨m, hm⟩ : ∃ m, m = ks.length := ⟨_, rfl⟩;rw [<- hm] at hlen c0 HBS hY ⊢;have HM := qh hm;have HYY := qh hY;clear hm hY;have hw : IntKind.i64.wrap ((m : Int) - 1) = (m : Int) - 1 := IntWalk.i64_in _ (by omega);refine callsIn_of_wp Tryz.func111 rfl trivial ?_ rfl;simp only [Tryz.ntmps111, List.size_toArray, List.length_cons, List.length_nil, Nat.reduceAdd, Nat.reduceSub, Array.replicate_succ, Array.replicate_zero, List.push_toArray, List.append_toArray, List.nil_append, List.cons_append]
 gi_wp2
 gi_loopw [3] (fun i wr => ∃ k : Nat, k <= m /\ i = .int .i64 ((m : Int) - 1 - k) /\ J (backU ks k) wr /\ Tame (fun g _ => decide (n₀ <= g) && decide (g ≠ Bs)) W wr)
  (fun i _ => (intOf i + 1).toNat)
 case atStart => exact ⟨0, Nat.zero_le _, by simp, h0, Tame.refl _ _⟩
 case round =>
  obtain ⟨k, hk, rfl, hJs, hT⟩ := hrel;have hbx := hT.same _ _ HBS.out (by simp);have c0 := cell_of hbx 0 _ rfl;by_cases hlt : k < m
  ·obtain ⟨d, hd⟩ : ∃ d, d = m - 1 - k := ⟨_, rfl⟩;have hdz : (m : Int) - 1 - k = d := by omega
   have hdm : d < ks.length := by have := HM.out; omega
   obtain ⟨g, off, rfl, hg, hcell⟩ := HC.out d hdm;have hcell' : wr.cell? ⟨g, off + d, none⟩ = some (.int .i64 (ks.getD d 0)) := by
    have hb := hT.below (n := n₀) (fun g o h => by simp at h; exact h.1) hn₀;rw [hb.cell (p := ⟨g, off + d, none⟩) hg]; exact hcell
   obtain ⟨z, hz⟩ : ∃ z, ks.getD d 0 = z := ⟨_, rfl⟩;rw [hz] at hcell';have HZ := qh hz;obtain ⟨fn, tmps, assign, body, hy, hR⟩ := HYY.out (backU ks k) (d, z) wr hJs ⟨k + 1, by omega, by rw [backU_succ, <- HM.out, <- hd, hz]⟩
   dsimp only at hy
   rw [hdz];have hdm2 : (d : Int) < m := by omega
   have hd0 : (0 : Int) <= d := Int.natCast_nonneg d;have HD := qh hd;have HDZ := qh hdz;clear hcell hd hdz hbx hz
   gi_wp2
   refine hR.mono ?_;rintro e W3 (⟨rfl, hJ3, hk3⟩ | ⟨rfl, hJx3, _⟩)
   ·gi_wp2
    go_roundw
    case rel => exact ⟨k + 1, by omega, by have := HDZ.out; go_num, by rw [backU_succ, <- HM.out, <- HD.out, HZ.out]; exact hJ3, hT.trans hk3⟩
    case measure => simp [intOf] <;> omega
   ·gi_wp2
    refine bodyPost_ret (results_none rfl _ _ _) rfl ?_;exact ⟨⟨_, rfl⟩, .inr ⟨_, ⟨k + 1, by omega, by rw [backU_succ, <- HM.out, <- HD.out, HZ.out]⟩, hJx3⟩⟩
  ·obtain rfl : k = m := by omega
   have hz : (k : Int) - 1 - k = -1 := by omega
   rw [hz]
   gi_wp2
   go_end0;exact ⟨⟨_, rfl⟩, .inl ⟨_, rfl, hJs⟩⟩
theorem own_backward (ao : Option Addr) (n cap : Nat) (w : World) : Calls Tryz.prog 70 #[.slice ao n cap] w fun e w' => e = .returned (.func (.func 111) #[] #[.pointer (some ⟨w.heap.size, 0, none⟩)]) /\ w' = w.alloc (.cells #[.slice ao n cap] 33) := by
 go_enter Tryz.func70, Tryz.ntmps70;go_wp2_with fail;go_ret;exact ⟨rfl, rfl⟩
theorem back_seq (Bs n₀ : Nat) (ao : Option Addr) (cap : Nat) (ks : List Int) (hlen : ks.length <= 1000000000000000000) (w : World) (hBs : Boxed w Bs 33 (.slice ao ks.length cap)) (hc : ∀ j, j < ks.length -> ∃ g off, ao = some ⟨g, off, none⟩ /\ g < n₀ /\ w.cell? ⟨g, off + j, none⟩ = some (.int .i64 (ks.getD j 0))) (hn₀ : n₀ <= w.heap.size) :
  SeqT 6 Tryz.prog 111 #[.pointer (some ⟨Bs, 0, none⟩)] (fun x : Nat × Int => #[Value.int .i64 (x.1 : Int), Value.int .i64 x.2]) [] (fun _ g _ => decide (n₀ <= g) && decide (g ≠ Bs)) (fun pre => ∃ j, j <= ks.length /\ pre = backU ks j) (fun xs => xs = backU ks ks.length) w := by
 intro l J Jx W hW _ _ hY h0;refine back_in l Bs n₀ ao cap ks hlen J Jx (fun pre x W1 hj hok => hY pre x W1 hj hok) W ((hW.block Bs (hBs.lt)).trans hBs) (fun j hj => ?_) (Nat.le_trans hn₀ hW.size) h0;obtain ⟨g, off, e, hg, hcell⟩ := hc j hj;exact ⟨g, off, e, hg, by rw [hW.cell (p := ⟨g, off + j, none⟩) (Nat.lt_of_lt_of_le hg hn₀)]; exact hcell⟩

open Go.Lib renaming hid → qh
open Go Go.RowKit Go.ChangeShapes Go.WideShapes Go.Shelf
open Go.Proofs.YtnkejjlidgnkkaaGreatDoor.Rf
attribute [local go_sem] Oper.semAt_some
def spotC (x : PV) : List Value := [.int .i64 x.1, .int .i64 (x.2 : Int)]
def spots (T : List PV) : List Value := T.reverse.flatMap spotC
theorem spots_cons (x : PV) (T : List PV) : spots (x :: T) = spots T ++ spotC x := by unfold spots; rw [List.reverse_cons, List.flatMap_append]; simp
theorem spots_length : ∀ T : List PV, (spots T).length = T.length * 2
 | [] => rfl
 | x :: T => by rw [spots_cons, List.length_append, spots_length T, List.length_cons]; simp [spotC]; omega
abbrev TY : List Nat := [107, 106, 35]
theorem own_pop {w : World} {b : Nat} {e : TypeId} {ao : Option Addr} {n cap : Nat} {xs ys : List Value} (h : w.ownsRow b e 2 (.slice ao (n + 1) cap) (n + 1) (xs ++ ys)) (hx : xs.length = n * 2) : w.ownsRow b e 2 (.slice ao n cap) n xs := by
 refine ⟨hx, .inr ?_⟩;rcases h.2 with ⟨_, h0⟩ | ⟨g, cap', cur, hv, hg, hh, hc, hm, hs, ht⟩
 ·omega
 ·cases hv;refine ⟨g, cap, cur, rfl, hg, hh, by omega, hm, hs, ?_⟩;have h1 : cur.toList.take (n * 2) = (cur.toList.take ((n + 1) * 2)).take (n * 2) := by rw [List.take_take, Nat.min_eq_left (by omega)]
  rw [h1, ht, List.take_append_of_le_length (by omega), List.take_of_length_le (by omega)]
theorem own_top {w : World} {b : Nat} {e : TypeId} {ao : Option Addr} {n cap : Nat} {xs : List Value} {u v : Value} (h : w.ownsRow b e 2 (.slice ao (n + 1) cap) (n + 1) (xs ++ [u, v])) (hx : xs.length = n * 2) : ∃ g, ao = some ⟨g, 0, none⟩ /\ b <= g /\ n + 1 <= cap /\ w.cell? ⟨g, n * 2, none⟩ = some u /\ w.cell? ⟨g, n * 2 + 1, none⟩ = some v := by
 rcases h.2 with ⟨_, h0⟩ | ⟨g, cap', cur, hv, hg, hh, hc, hm, hs, ht⟩
 ·omega
 ·cases hv;have at' : ∀ j (z : Value), (xs ++ [u, v])[j]? = some z -> j < (n + 1) * 2 -> w.cell? ⟨g, j, none⟩ = some z := by
   intro j z hz hj;refine cell_of hh j z ?_;rw [<- ht, List.getElem?_take, if_pos hj, Array.getElem?_toList] at hz;exact hz
  refine ⟨g, rfl, hg, hc, at' _ _ ?_ (by omega), at' _ _ ?_ (by omega)⟩
  ·rw [List.getElem?_append_right (by omega), hx, Nat.sub_self]; rfl
  ·rw [List.getElem?_append_right (by omega), hx, show n * 2 + 1 - n * 2 = 1 by omega]; rfl
theorem own_tame {A C : World} {p : Nat -> Obj -> Bool} {b : Nat} {e : TypeId} {size n : Nat} {v : Value} {xs : List Value} (h : A.ownsRow b e size v n xs) (hT : Tame p A C) (hp : ∀ g cs, p g (.cells cs e (0, 0)) = false) : C.ownsRow b e size v n xs := by
 refine ⟨h.1, ?_⟩;rcases h.2 with h2 | ⟨g, cap, cur, hv, hg, hh, r⟩
 ·exact .inl h2
 ·exact .inr ⟨g, cap, cur, hv, hg, hT.same _ _ hh (hp _ _), r⟩
theorem infoSpot : (Tryz.prog.info? 106).map (fun i => (i.zero, i.size, i.bytes)) = some (some (.agg #[.int .i64 0, .int .i64 0]), 2, 16) := by kernel_rfl
theorem turn_nil {B g : Nat} {cs : Array Value} {t : TypeId} {fr : Nat × Nat} : turn [] B g (.cells cs t fr) = false := turn_ty rfl
def left (L : List Nd) (x : PV) (r : List PV) (j : Nat) : List PV := (kidsLev L x).drop ((at' L x.1).kids.length - j) ++ r
theorem kidsLev_length (L : List Nd) (x : PV) : (kidsLev L x).length = (at' L x.1).kids.length := by unfold kidsLev; rw [List.length_mapIdx]
theorem left_zero (L : List Nd) (x : PV) (r : List PV) : left L x r 0 = r := by
 unfold left;rw [Nat.sub_zero, List.drop_of_length_le (by rw [kidsLev_length]; exact Nat.le_refl _)]; rfl
theorem left_all (L : List Nd) (x : PV) (r : List PV) : left L x r (at' L x.1).kids.length = kidsLev L x ++ r := by
 unfold left;rw [Nat.sub_self]; rfl
theorem left_succ (L : List Nd) (x : PV) (r : List PV) (j : Nat) (h : j < (at' L x.1).kids.length) : left L x r (j + 1) = ((at' L x.1).kids.getD ((at' L x.1).kids.length - 1 - j) 0, x.2 + up (at' L x.1).k ((at' L x.1).kids.length - 1 - j)) :: left L x r j := by
 unfold left;obtain ⟨m, hm⟩ : ∃ m, (at' L x.1).kids.length = m := ⟨_, rfl⟩;have hl := kidsLev_length L x;rw [hm] at h hl ⊢;obtain ⟨q, hq⟩ : ∃ q, m - 1 - j = q := ⟨_, rfl⟩;rw [hq, show m - (j + 1) = q by omega];have hi : q < (kidsLev L x).length := by omega
 rw [List.drop_eq_getElem_cons hi, show q + 1 = m - j by omega, List.cons_append]
 congr 1
 have hi2 : q < (at' L x.1).kids.length := by omega
 rw [List.getD_eq_getElem?_getD, List.getElem?_eq_getElem hi2];simp [kidsLev]
theorem left_length (L : List Nd) (x : PV) (r : List PV) (j : Nat) (h : j <= (at' L x.1).kids.length) : (left L x r j).length = j + r.length := by
 unfold left;rw [List.length_append, List.length_drop, kidsLev_length]; omega
theorem cell_two_new (W : World) (u v : Value) (T : TypeId) : ∀ (j : Nat) (z : Value), [u, v][j]? = some z -> (W.alloc (.cells #[u, v] T)).cell? ((⟨W.heap.size, 0, none⟩ : Addr).add j) = some z := by
 intro j z hz;rw [show (⟨W.heap.size, 0, none⟩ : Addr).add j = ⟨W.heap.size, j, none⟩ from by simp [Addr.add]; omega, World.cell?_alloc_mark, <- hz];simp
end Go.Proofs.YtnkejjlidgnkkaaGreatDoor.Nd
namespace Go.Proofs.YtnkejjlidgnkkaaGreatDoor.Rf

open Go.Lib renaming hid → qh
open Go Go.RowKit
theorem op_round {P : Program} {o : Oper} {a : Act} {w : World} {K : Act -> World -> Prop} {Q : Exit -> Act -> World -> Prop} (l n : Nat) (hd : ∀ c, o.op ≠ .defer c) (h : o.wp P a w K Q) : o.wpIn (Fence.wide.inRound l) n P a w K Q := by
 refine ⟨fun _ _ => trivial, ?_⟩;rw [Oper.semAt_plain _ _ _ hd];unfold Oper.wp at h;generalize (execOp a.eval o).run P w = r at *;cases r with
 | ok x w' =>
  cases x with
  | value v => exact h
  | skip => exact h
  | defer d => exact h
  | enter f args =>
   refine ⟨fun e => Bool.noConfusion e, CallsIn.inRound l (callsIn_wide.2 (Calls.mono h fun e w'' he => ?_))⟩;cases e <;> exact he
  | row row args =>
   refine ⟨fun e => Bool.noConfusion e, fun c cs _ => ?_⟩;obtain ⟨v, w'', hr, hs⟩ := h c cs;exact ⟨v, w'', hr, stepsIn_wide.2 hs⟩
  | _ => exact False.elim h
 | halt x w' =>
  cases x <;> first | exact h | exact h.elim
theorem any_round {P : Program} {md : Region.Mode} {ops : Array Oper} {Q : Exit -> Act -> World -> Prop} (l n : Nat) (hd : ∀ (i : Nat) (o : Oper), ops[i]? = some o -> ∀ c, o.op ≠ .defer c) (hQ : ¬ LetsOut Q) : ∀ (fuel : Nat) (listed : Array Bool) (a : Act) (w : World), wpAny P md ops Q fuel listed a w -> wpAnyIn (Fence.wide.inRound l) n P md ops Q fuel listed a w
 | 0, _, _, _, h => h
 | fuel + 1, listed, a, w, h => ⟨h.1, fun i hi => by
  have h2 := h.2 i hi;unfold wpOp at h2;unfold wpOpIn;cases ho : ops[i]? with
  | none => rw [ho] at h2; exact any_round l n hd hQ fuel _ a w h2
  | some o =>
   rw [ho] at h2
   dsimp only at h2 ⊢
   split
   ·rename_i hw;rw [if_pos hw] at h2;rcases h2 with h2 | h2
    ·exact Oper.wpIn_mono (fun a' w' h' => any_round l n hd hQ fuel _ a' w' h') (op_round l n (hd i o ho) h2)
    ·exact absurd h2.2 hQ
   ·rename_i hw;rw [if_neg hw] at h2;exact ⟨fun _ _ => trivial, any_round l n hd hQ fuel _ _ w h2⟩⟩
theorem region_round {P : Program} {ops : Array Oper} {Q : Exit -> Act -> World -> Prop} {id : Nat} {a : Act} {w : World} (S : World -> Prop) (l n : Nat) (hm : P.follows .mixedOrders = true) (hd : (ops.all fun o => match o.op with | .defer _ => false | _ => true) = true) (hQ : ¬ LetsOut Q)
  (hS : S w.drew) (h : S w.drew -> wpAnyH P .any ops Q S ops.size (Array.replicate ops.size false) a w.drew) : (Code.region id ops true).wpIn (Fence.wide.inRound l) n P Q a w := by
 refine wpIn_region_any hm (any_round l n (fun i o ho c hc => ?_) hQ _ _ _ _ (wpAny_of_held _ _ _ _ (h hS)));obtain ⟨hi, he⟩ := Array.getElem?_eq_some_iff.1 ho;have := Array.all_eq_true.1 hd i hi;rw [he, hc] at this;cases this
theorem ready_value {P : Program} {ops : Array Oper} {o : Oper} {a : Act} {w w' : World} {K : Act -> World -> Prop} {Q : Exit -> Act -> World -> Prop} {v : Value} (hw : Region.wanted o (yielded ops a.tmps) = true) (h : (execOp a.eval o).run P w = .ok (.value v) w') (hk : K (a.put o.dst v) w') : if Region.wanted o (yielded ops a.tmps) = true then Oper.wp P o a w K Q else K (a.put o.dst undef) w := by
 rw [if_pos hw];unfold Oper.wp;rw [h];exact hk
theorem cell_old {w : World} {a : Addr} {v : Value} (o : Obj) (h : w.cell? a = some v) : (w.alloc o).cell? a = some v := by
 rw [World.cell?_alloc_some w a o (by rw [h]; rfl), h]
end Go.Proofs.YtnkejjlidgnkkaaGreatDoor.Rf
