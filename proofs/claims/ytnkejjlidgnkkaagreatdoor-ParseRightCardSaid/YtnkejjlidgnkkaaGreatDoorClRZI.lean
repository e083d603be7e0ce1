/-
  A part of the proof.
-/
import Derived.Sort.LoopGhostIn
import Derived.Lib.Hide
import Derived.Test.YtnkejjlidgnkkaaGreatDoorClRZH
set_option maxRecDepth 100000
set_option maxHeartbeats 40000000
namespace Go.Proofs.YtnkejjlidgnkkaaGreatDoor.Nd

open Go.Lib renaming hid → qh
open Go Go.RowKit Go.ChangeShapes Go.WideShapes Go.Shelf
open Go.Proofs.YtnkejjlidgnkkaaGreatDoor.Rf
attribute [local go_sem] Oper.semAt_some
def Mks (B : Nat) : List Deferred -> World -> Prop
 | [], _ => True
 | d :: ds, w => (∃ r, d = { target := .collected r, args := #[] } /\ B <= r /\ w.heap[r]? = some (.deferred (some [])) /\ ∀ e ∈ ds, e.target ≠ .collected r) /\ Mks B ds w
theorem Mks.tame {B : Nat} {p : Nat -> Obj -> Bool} {A C : World} (hT : Tame p A C) : ∀ (ds : List Deferred), (∀ d ∈ ds, ∀ r, d.target = .collected r -> p r (.deferred (some [])) = false) -> Mks B ds A -> Mks B ds C
 | [], _, _ => trivial
 | d :: ds, hp, ⟨⟨r, hd, hr, hh, hne⟩, h⟩ => ⟨⟨r, hd, hr, hT.same _ _ hh (hp d (List.mem_cons_self ..) r (by rw [hd])), hne⟩, Mks.tame hT ds (fun e he => hp e (List.mem_cons_of_mem _ he)) h⟩
theorem leaves_marks {F : Fence} {n : Nat} {P : Program} {fn : Func} {tmps : Array Value} {R : Ending -> World -> Prop} {B : Nat} : ∀ (ds : List Deferred) (w : World), Mks B ds w -> (∀ w', Tame (turn [] B) w w' -> LeavesInM F n P fn tmps R [] .returning w') -> LeavesInM F n P fn tmps R ds .returning w
 | [], w, _, h => h w (Tame.refl _ _)
 | d :: ds, w, ⟨⟨r, hd, hr, hh, hne⟩, hm⟩, h => by
  have hT : Tame (turn [] B) w (w.putObj r (.deferred none)) := Tame.putObj w r _ hh (turn_own (by unfold own; rw [decide_eq_true hr]; rfl));refine ⟨by simp, .inl ⟨r, w.putObj r (.deferred none), by rw [hd], run_takeDeferred hh, ?_⟩⟩;have keep : ∀ (es : List Deferred), (∀ e ∈ es, e.target ≠ .collected r) -> Mks B es w -> Mks B es (w.putObj r (.deferred none)) := by
   intro es
   induction es with
   | nil => intro _ _; trivial
   | cons e es ih =>
    rintro hn ⟨⟨q, hq, hq2, hq3, hq4⟩, hes⟩;refine ⟨⟨q, hq, hq2, (World.putObj_heap_other (fun e' => hn e (List.mem_cons_self ..) (by rw [hq, e']))).trans hq3, hq4⟩, ih (fun x hx => hn x (List.mem_cons_of_mem _ hx)) hes⟩
  exact leaves_marks ds _ (keep ds hne hm) fun w' hw' => h w' (hT.trans hw')
theorem Mks.ge {B : Nat} {w : World} : ∀ (ds : List Deferred), Mks B ds w -> ∀ d ∈ ds, ∀ r, d.target = .collected r -> r < w.heap.size
 | d :: ds, ⟨⟨q, hq, _, hh, _⟩, h⟩, e, he, r, hr => by
  rcases List.mem_cons.1 he with rfl | he
  ·rw [hq] at hr;cases hr;exact lt_of_heap hh
  ·exact Mks.ge ds h e he r hr
theorem Mks.is {B : Nat} {w : World} : ∀ (ds : List Deferred), Mks B ds w -> ∀ d ∈ ds, ∀ r, d.target = .collected r -> w.heap[r]? = some (.deferred (some []))
 | d :: ds, ⟨⟨q, hq, _, hh, _⟩, h⟩, e, he, r, hr => by
  rcases List.mem_cons.1 he with rfl | he
  ·rw [hq] at hr;cases hr;exact hh
  ·exact Mks.is ds h e he r hr
theorem turn_mono' {B g : Nat} {o : Obj} (h : turn [] B g o = true) : turn TY B g o = true := by
 cases o with
 | cells c t fr => rw [turn_nil] at h; cases h
 | _ =>
  unfold turn at *;rw [Bool.and_eq_true] at *;exact ⟨h.1, rfl⟩
def pbW (n₀ Bs B : Nat) (g : Nat) (o : Obj) : Bool := decide (n₀ <= g) && decide (g ≠ Bs) && !tyIn TY o && (o.isCells || decide (g < B))
theorem pbW_ge {n₀ Bs B g : Nat} {o : Obj} (h : pbW n₀ Bs B g o = true) : n₀ <= g := by
 unfold pbW at h;simp only [Bool.and_eq_true, decide_eq_true_iff] at h;exact h.1.1.1
theorem pbW_ty {n₀ Bs B g : Nat} {cs : Array Value} {t : TypeId} {fr : Nat × Nat} (h : TY.contains t = true) : pbW n₀ Bs B g (.cells cs t fr) = false := by
 unfold pbW tyIn
 dsimp only
 rw [h];simp
theorem pbW_syn {n₀ Bs B : Nat} {o : Obj} : pbW n₀ Bs B Bs o = false := by
 unfold pbW;simp
theorem pbW_mark {n₀ Bs B g : Nat} {o : Obj} (h : o.isCells = false) (hB : B <= g) : pbW n₀ Bs B g o = false := by
 unfold pbW;rw [h, decide_eq_false (show ¬ g < B by omega)];simp
theorem Mks.low {B : Nat} {w : World} : ∀ (ds : List Deferred), Mks B ds w -> ∀ d ∈ ds, ∀ r, d.target = .collected r -> B <= r
 | d :: ds, ⟨⟨q, hq, hb, _, _⟩, h⟩, e, he, r, hr => by
  rcases List.mem_cons.1 he with rfl | he
  ·rw [hq] at hr;cases hr;exact hb
  ·exact Mks.low ds h e he r hr
def pcW (B Bk : Nat) (g : Nat) (o : Obj) : Bool := decide (B <= g) && decide (g ≠ Bk) && tyIn [107, 106] o
theorem pcW_turn {B Bk g : Nat} {o : Obj} (h : pcW B Bk g o = true) : turn TY B g o = true := by
 unfold pcW at h;simp only [Bool.and_eq_true, decide_eq_true_iff] at h;obtain ⟨⟨h1, _⟩, h3⟩ := h;cases o with
 | cells c t fr =>
  refine turn_yes ?_ h1;have h4 : [107, 106].contains t = true := h3;have h5 : t = 107 \/ t = 106 := by simpa using h4
  rcases h5 with rfl | rfl <;> rfl
 | _ => simp [tyIn] at h3
theorem pcW_cells {B Bk g : Nat} {o : Obj} (h : pcW B Bk g o = true) : o.isCells = true := by
 unfold pcW at h;rw [Bool.and_eq_true] at h;exact tyIn_cells h.2
def okW (L : List Nd) (root : Int) (pre : List PV) : Prop := ∃ k, pre = vis L k [(root, 0)] /\ pre.length = k
def allW (L : List Nd) (root : Int) (xs : List PV) : Prop := ∃ k, xs = vis L k [(root, 0)] /\ todo L k [(root, 0)] = []
structure StW (n₀ B b Bs : Nat) (w0 : World) (SC : Array Value) (T : List PV) (u : Value) (W : World) : Prop where
 box : W.heap[b]? = some (.cells #[u] 107 (0, 0))
 row : W.ownsRow B 106 2 u T.length (spots T)
 low : Below n₀ w0 W
 syn : W.heap[Bs]? = some (.cells SC 27 (0, 0))
 size : B <= W.heap.size
theorem walk_inner (lr Bs : Nat) (ao : Option Addr) (c : Nat) (L : List Nd) (root : Int) (w0 : World) (hNd : NodesAt w0 (.slice ao L.length c) L) (ht : Tied L root) (hl : L.length <= 1000000) (J Jx : List PV -> World -> Prop) (W : World)
  (hJ : ∀ s A C, J s A -> Tame (turn TY W.heap.size) A C -> J s C) (hJx : ∀ s A C, Jx s A -> Tame (turn TY W.heap.size) A C -> Jx s C)
  (hY : ∀ pre x W1, J pre W1 -> okW L root (pre ++ [x]) -> YieldAt Fence.wide 6 Tryz.prog lr #[.int .i64 x.1, .int .i64 (x.2 : Int)] W1 fun e W' =>
   (e = .returned (.bool true) /\ J (pre ++ [x]) W' /\ Tame (pbW w0.heap.size Bs W.heap.size) W1 W') \/ (e = .returned (.bool false) /\ Jx (pre ++ [x]) W' /\ Tame (pbW w0.heap.size Bs W.heap.size) W1 W'))
  (hBs : W.heap[Bs]? = some (.cells #[.slice ao L.length c, .int .i64 root] 27 (0, 0))) (hlow : Below w0.heap.size w0 W) (h0 : J [] W) :
  CallsIn Fence.wide 7 Tryz.prog 69 #[.func (.yield lr) #[] #[], .pointer (some ⟨Bs, 0, none⟩)] W fun e W' => (∃ v, e = .returned v) /\ ((∃ xs, allW L root xs /\ J xs W') \/ (∃ pre, okW L root pre /\ Jx pre W')) := by
 have HJ := qh hJ;have HJx := qh hJx;have HY := qh hY;have HND := qh hNd;obtain ⟨B, hB⟩ : ∃ B, W.heap.size = B := ⟨_, rfl⟩;rw [hB] at HJ HJx HY;obtain ⟨N, hN⟩ : ∃ N, N = L.length := ⟨_, rfl⟩;rw [<- hN] at hBs HND hl;have HN := qh hN;have c0 := cell_of hBs 0 (.slice ao N c) rfl;have c1 := cell_of hBs 1 (.int .i64 root) rfl;have HBS := qh hBs;have HLOW := qh hlow;have H0 := qh h0;have HB := qh hB;clear hJ hJx hY hNd hBs hlow h0 hB hN;refine callsIn_of_wp_marks Tryz.func69 rfl trivial ?_ rfl;simp only [Tryz.ntmps69, List.size_toArray, List.length_cons, List.length_nil, Nat.reduceAdd, Nat.reduceSub, Array.replicate_succ, Array.replicate_zero, List.push_toArray, List.append_toArray, List.nil_append, List.cons_append]
 gi_wp2
 have tS : Tame (turn TY B) W ((W.alloc (.cells #[.int .i64 root, .int .i64 0] 106)).alloc (.cells #[.slice (some ⟨W.heap.size, 0, none⟩) 1 1] 107)) := (Tame.alloc _ _ _).trans (Tame.alloc _ _ _);have bS : Below w0.heap.size w0 ((W.alloc (.cells #[.int .i64 root, .int .i64 0] 106)).alloc (.cells #[.slice (some ⟨W.heap.size, 0, none⟩) 1 1] 107)) := (HLOW.out.alloc HLOW.out.size _).alloc (by have := HLOW.out.size; simp; omega) _;have x1 : ((W.alloc (.cells #[.int .i64 root, .int .i64 0] 106)).alloc (.cells #[.slice (some ⟨W.heap.size, 0, none⟩) 1 1] 107)).heap[W.heap.size + 1]? = some (.cells #[.slice (some ⟨W.heap.size, 0, none⟩) 1 1] 107 (0, 0)) := by
  have := new_block (W.alloc (.cells #[.int .i64 root, .int .i64 0] 106)) (.cells #[.slice (some ⟨W.heap.size, 0, none⟩) 1 1] 107)
  rwa [World.size_alloc] at this
 have x2 : ((W.alloc (.cells #[.int .i64 root, .int .i64 0] 106)).alloc (.cells #[.slice (some ⟨W.heap.size, 0, none⟩) 1 1] 107)).heap[W.heap.size]? = some (.cells #[.int .i64 root, .int .i64 0] 106 (0, 0)) := (Below.heap_alloc _ _ _ (by simp)).trans (new_block W _);have hSS : StW w0.heap.size B (B + 1) Bs w0 #[.slice ao N c, .int .i64 root] (todo L 0 [(root, 0)]) (.slice (some ⟨W.heap.size, 0, none⟩) 1 1) ((W.alloc (.cells #[.int .i64 root, .int .i64 0] 106)).alloc (.cells #[.slice (some ⟨W.heap.size, 0, none⟩) 1 1] 107)) := by
  rw [<- HB.out];refine ⟨x1, ⟨rfl, .inr ⟨W.heap.size, 1, _, rfl, Nat.le_refl _, x2, Nat.le_refl _, by unfold maxLen; decide, rfl, rfl⟩⟩, bS, tS.same _ _ HBS.out ?_, by simp; omega⟩;exact turn_no (by have := lt_of_heap HBS.out; have := HB.out; omega)
 have HSS := qh hSS;have HJ0 := qh (HJ.out _ _ _ H0.out tS);have HBsB := qh (show Bs < B from by have := lt_of_heap HBS.out; have := HB.out; omega);have HNB := qh (show w0.heap.size <= B from by have := HLOW.out.size; have := HB.out; omega);clear tS bS x1 x2 hSS c0 c1;refine wpIn_loop_ghost (fun m a wr => ∃ u2 u4 u5 u6 u7 u8 u9 u10 u11 u12 u13 u14 u15 u16 u17 u18 u19 u20 u21 u22 u23 u24 u25 u26 u27 u28 u29 u30 u31 u32 u33 u34 u35 u36 u37 u38 u39 u40 u41 u42 u43 u44 u45 u46 u47 u48 u49 u50 u51 u52 u53 u54 u55 : Value, ∃ (k : Nat) (ds : List Deferred) (u : Value), m = N + 1 - k /\ k <= N /\ a = { tmps := #[.func (.yield lr) #[] #[], .pointer (some ⟨Bs, 0, none⟩), u2, .pointer (some ⟨B + 1, 0, none⟩), u4, u5, u6, u7, u8, u9, u10, u11, u12, u13, u14, u15, u16, u17, u18, u19, u20, u21, u22, u23, u24, u25, u26, u27, u28, u29, u30, u31, u32, u33, u34, u35, u36, u37, u38, u39, u40, u41, u42, u43, u44, u45, u46, u47, u48, u49, u50, u51, u52, u53, u54, u55], defers := ds } /\ Mks B ds wr /\ StW w0.heap.size B (B + 1) Bs w0 #[.slice ao N c, .int .i64 root] (todo L k [(root, 0)]) u wr /\ J (vis L k [(root, 0)]) wr /\ (vis L k [(root, 0)]).length = k) (N + 1) ?start ?round
 case start => exact ⟨_, _, _, _, _, _, _, _, _, _, _, _, _, _, _, _, _, _, _, _, _, _, _, _, _, _, _, _, _, _, _, _, _, _, _, _, _, _, _, _, _, _, _, _, _, _, _, _, _, _, _, _, _, 0, [], _, rfl, Nat.zero_le _, by rw [HB.out], trivial, HSS.out, HJ0.out, rfl⟩
 case round =>
  clear HSS HJ0 H0 HBS HLOW;rintro m a wr ⟨u2, u4, u5, u6, u7, u8, u9, u10, u11, u12, u13, u14, u15, u16, u17, u18, u19, u20, u21, u22, u23, u24, u25, u26, u27, u28, u29, u30, u31, u32, u33, u34, u35, u36, u37, u38, u39, u40, u41, u42, u43, u44, u45, u46, u47, u48, u49, u50, u51, u52, u53, u54, u55, k, ds, u, rfl, hk, rfl, hM, hS, hj, hvl⟩;have HM := qh hM;have HS := qh hS;have HJk := qh hj;have HVL := qh hvl;have hinv := Inv.upto ht k;have cu := cell_of hS.box 0 u rfl;obtain ⟨au, cp, rfl⟩ := own_slice hS.row;cases hT : todo L k [(root, 0)] with
  | nil =>
   rw [hT] at cu;have HT := qh hT;clear hT hM hS hj hvl hinv
   gi_wp2
   exact leaves_marks ds wr HM.out fun w' hw' => ⟨_, results_none rfl _ _ _, ⟨_, rfl⟩, .inl ⟨_, ⟨k, rfl, HT.out⟩, HJ.out _ _ _ HJk.out (hw'.mono fun g o h => turn_mono' h)⟩⟩
  | cons x r =>
   rw [hT] at cu;have hbx := hS.box;have row := hS.row;rw [hT] at hbx row;rw [spots_cons] at row;obtain ⟨gt, rfl, hgt, hcp, ct0, ct1⟩ := own_top row (spots_length r);have rowp := own_pop row (spots_length r);have hxin := hinv.inR ht (x := x) (by rw [hT]; simp);have hxv := (hinv.lev x (by rw [hT]; simp)).2;rw [HVL.out] at hxv;have hfew := hinv.few ht;rw [HVL.out, hT, List.length_cons] at hfew;obtain ⟨hw1, hw2⟩ := walk_some L k [(root, 0)] x r hT;obtain ⟨px, v⟩ := x
   dsimp only at hxin hxv ct0 ct1
   obtain ⟨d, rfl, hd⟩ := of_inR hxin;obtain ⟨q, hq⟩ : ∃ q, r.length = q := ⟨_, rfl⟩;rw [List.length_cons, hq] at cu hbx;rw [hq] at hcp ct0 ct1 rowp hfew;have hq0 : (0 : Int) <= q := Int.natCast_nonneg q;have hs : ∀ W', (Instr.slice 107 (.slice (some ⟨gt, 0, none⟩) (q + 1) cp) none (some (.int .i64 (q : Int))) none).run Tryz.prog W' = .ok (.slice (some ⟨gt, 0, none⟩) q cp) W' := fun W' => by
    have ht' : Tryz.prog.underlying 107 = some (.slice (Tryz.prog.elem 107)) := by kernel_rfl
    have hz : (Go.sizeOf (Tryz.prog.elem 107)).run Tryz.prog W' = .ok 2 W' := by
     have he : Tryz.prog.elem 107 = 106 := by kernel_rfl
     rw [he];simp
    have hrun := run_slice_h W' 107 (some ⟨gt, 0, none⟩) (q + 1) cp ht' .i64 (q : Int) (by omega) (by omega);rw [hz] at hrun;rw [hrun];have hc0 : ¬ cp = 0 := by omega
    simp [Result.andThen, sliced, hc0, Addr.add]
   obtain ⟨Wy, hWy⟩ : ∃ Wy, (wr.alloc (.cells #[.int .i64 (d : Int), .int .i64 (v : Int)] 106)).setCell ⟨B + 1, 0, none⟩ (.slice (some ⟨gt, 0, none⟩) q cp) = Wy := ⟨_, rfl⟩;have hbx1 : (wr.alloc (.cells #[.int .i64 (d : Int), .int .i64 (v : Int)] 106)).heap[B + 1]? = some (.cells #[.slice (some ⟨gt, 0, none⟩) (q + 1) cp] 107 (0, 0)) := (Below.heap_alloc _ _ _ (lt_of_heap hbx)).trans hbx;have tY : Tame (turn TY B) wr Wy := by rw [<- hWy]; exact (Tame.alloc _ _ _).trans (Tame.setCell _ _ _ hbx1 (turn_yes rfl (by show B <= B + 1; omega)))
   have hJy := HJ.out _ _ _ HJk.out tY;have hokx : okW L root (vis L k [(root, 0)] ++ [((d : Int), v)]) := ⟨k + 1, hw1.symm, by rw [List.length_append, HVL.out]; rfl⟩;have boxY : Wy.heap[B + 1]? = some (.cells #[.slice (some ⟨gt, 0, none⟩) q cp] 107 (0, 0)) := by rw [<- hWy]; exact Joins.block_setCell (i := 0) hbx1 _
   have hBw := hS.size;have rowY : Wy.ownsRow B 106 2 (.slice (some ⟨gt, 0, none⟩) q cp) q (spots r) := by rw [<- hWy]; exact own_other (rowp.alloc _) hbx1 (by decide)
   have lowY : Below w0.heap.size w0 Wy := by rw [<- hWy]; exact (hS.low.alloc hS.low.size _).setCell (p := ⟨B + 1, 0, none⟩) (by have := HNB.out; show w0.heap.size <= B + 1; omega) _
   have synY : Wy.heap[Bs]? = some (.cells #[.slice ao N c, .int .i64 root] 27 (0, 0)) := tY.same _ _ hS.syn (turn_no HBsB.out);have atY : Wy.heap[wr.heap.size]? = some (.cells #[.int .i64 (d : Int), .int .i64 (v : Int)] 106 (0, 0)) := by
    rw [<- hWy]; exact (Below.heap_setCell _ _ _ _ (by have := lt_of_heap hbx; show wr.heap.size ≠ B + 1; omega)).trans (new_block wr _)
   have sizY : wr.heap.size < Wy.heap.size := lt_of_heap atY;have mksY : Mks B ds Wy := Mks.tame (p := fun g _ => decide (g = B + 1)) (by rw [<- hWy]; exact (Tame.alloc _ _ _).trans (Tame.setCell _ _ _ hbx1 (by simp))) ds (fun e he r hr => by
    have h1 := Mks.is ds HM.out e he r hr;rw [decide_eq_false_iff_not];intro h2;subst h2;rw [hbx] at h1;cases h1) HM.out
   obtain ⟨fn, tmps, assign, body, hy, hR⟩ := HY.out _ ((d : Int), v) Wy hJy hokx
   dsimp only at hy
   rw [<- hWy] at hy;rw [hWy] at hy;have HR := qh hR;have HBOX := qh boxY;have HROW := qh rowY;have HLOW := qh lowY;have HSYN := qh synY;have HAT := qh atY;have HMK := qh mksY;have HW1 := qh hw1;have HW2 := qh hw2;have HQ := qh hq;have HD := qh hd;have HF := qh hfew;have HXV := qh hxv;have HGT := qh (lt_cell ct0);have HBLT := qh (lt_of_heap hbx);have hNL := HN.out;have cu1 := cell_of hbx1 0 (.slice (some ⟨gt, 0, none⟩) (q + 1) cp) rfl;have fu1 := free_of hbx1 0;have hq9 : (q : Int) <= 1000000 := by omega
   have hdN : (d : Int) < N := by omega
   have hd0 : (0 : Int) <= d := Int.natCast_nonneg d;have HWQ := Num.wrap64_of_in (n := (q : Int)) ⟨by omega, by omega⟩;clear hNL;have cAt0 := cell_of atY 0 (.int .i64 (d : Int)) rfl;have cAt1 := cell_of atY 1 (.int .i64 (v : Int)) rfl;clear hM hS hj hvl hT hinv hbx row rowp hxin hw1 hw2 hq hbx1 tY hJy hokx boxY rowY lowY synY atY mksY hR hd hfew hxv
   gi_wp2
   clear HWQ cu cu1 fu1 ct0 ct1 hs hy cAt0 cAt1;refine HR.out.mono ?_;rintro e W3 (⟨rfl, hJ3, hk3⟩ | ⟨rfl, hJx3, hk3⟩)
   ·have bx3 := hk3.same _ _ HBOX.out (pbW_ty rfl);have rw3 := own_tame HROW.out hk3 fun g cs => pbW_ty rfl
    have lw3 := HLOW.out.trans ((hk3.below (n := w0.heap.size) (fun g o h => pbW_ge h) HLOW.out.size));have sy3 := hk3.same _ _ HSYN.out pbW_syn;have at3 := hk3.same _ _ HAT.out (pbW_ty rfl);have mk3 := Mks.tame hk3 ds (fun e he r hr => pbW_mark rfl (Mks.low ds HMK.out e he r hr)) HMK.out;have sz3 : B <= W3.heap.size := by have := hk3.size; omega
    obtain ⟨g, off, hg, rfl, hnd⟩ := HND.out.at HD.out;obtain ⟨nd, hndq⟩ : ∃ nd, at' L (d : Int) = nd := ⟨_, rfl⟩;rw [hndq] at hnd;have HNQ := qh hndq;obtain ⟨an, cn, ak, ck, e0, e1, e2, e3, e4, e5, hv⟩ := hnd.open;obtain ⟨_, _, _, _, ev, _, hLk, _⟩ := hv;cases ev;rw [<- lw3.cell (p := ⟨g, _, none⟩) hg] at e0 e1 e2 e3 e4 e5;have HGE := qh (Mks.ge ds mk3);have cs0 := cell_of sy3 0 (.slice (some ⟨g, off, none⟩) N c) rfl;have ca0 := cell_of at3 0 (.int .i64 (d : Int)) rfl;have HBX3 := qh bx3;have HRW3 := qh rw3;have HLW3 := qh lw3;have HSY3 := qh sy3;have HAT3 := qh at3;have HMK3 := qh mk3;have HSZ3 := qh sz3;have HJ3 := qh hJ3;have HLK := qh hLk;have hdN : (d : Int) < N := by have := HN.out; have := HD.out; omega
    clear bx3 rw3 lw3 sy3 at3 mk3 sz3 hJ3 hk3 hLk hndq hnd
    gi_wp2_with fail
    refine ⟨trivial, (callsIn_wide.2 (own_backward _ _ _ _)).mono ?_⟩;rintro e w' ⟨rfl, rfl⟩
    gi_wp2_with fail
    obtain ⟨CN, hCN⟩ : ∃ CN : Array Value, CN = #[.int .u8 (nd.k : Int), .int .i64 nd.n, .string nd.name, .slice an nd.names.length cn, .slice ak nd.kids.length ck, .int .i64 nd.line] := ⟨_, rfl⟩;rw [<- hCN];have hCN0 : CN[0]? = some (.int .u8 (nd.k : Int)) := by rw [hCN]; rfl
    obtain ⟨W5, hW5⟩ : ∃ W5, (W3.alloc (.cells CN 35)).alloc (.cells #[.slice ak nd.kids.length ck] 33) = W5 := ⟨_, rfl⟩;rw [hW5];have t5 : ∀ p, Tame p W3 W5 := fun p => by rw [<- hW5]; exact (Tame.alloc _ _ _).trans (Tame.alloc _ _ _)
    have s5 : W5.heap.size = W3.heap.size + 2 := by rw [<- hW5]; simp
    have bk5 : Boxed W5 (W3.heap.size + 1) 33 (.slice ak nd.kids.length ck) := by
     rw [<- hW5];have := new_block (W3.alloc (.cells CN 35)) (.cells #[.slice ak nd.kids.length ck] 33)
     rwa [World.size_alloc] at this
    have bn5 : W5.heap[W3.heap.size]? = some (.cells CN 35 (0, 0)) := by rw [<- hW5]; exact (Below.heap_alloc _ _ _ (by simp)).trans (new_block W3 _)
    have t50 := t5 (fun _ _ => false);have st5 : StW w0.heap.size B (B + 1) Bs w0 #[.slice (some ⟨g, off, none⟩) N c, .int .i64 root] r (.slice (some ⟨gt, 0, none⟩) q cp) W5 :=
     ⟨t50.same _ _ HBX3.out rfl, by rw [HQ.out]; exact own_tame HRW3.out t50 (fun g cs => rfl), HLW3.out.trans (t50.below (fun g o h => by cases h) HLW3.out.size), t50.same _ _ HSY3.out rfl, by rw [s5]; have := HSZ3.out; omega⟩
    have at5 := t50.same _ _ HAT3.out rfl;have mk5 := Mks.tame t50 ds (fun e he r hr => rfl) HMK3.out;have hj5 := HJ.out _ _ _ HJ3.out (t5 _);rw [<- HW1.out] at hj5;have hc5 : ∀ j, j < nd.kids.length -> ∃ g off, ak = some ⟨g, off, none⟩ /\ g < w0.heap.size /\ W5.cell? ⟨g, off + j, none⟩ = some (.int .i64 (nd.kids.getD j 0)) := by
     intro j hj;obtain ⟨ao', cap', ev, _, hx⟩ := HLK.out;obtain ⟨g', off', hg', hao, hcells⟩ := hx (fun h => by rw [List.map_eq_nil_iff] at h; rw [h] at hj; cases hj)
     injection ev with e1 e2 e3
     subst e1;refine ⟨g', off', hao, hg', ?_⟩;rw [st5.low.cell (p := ⟨g', off' + j, none⟩) hg', hcells j (by rw [List.length_map]; exact hj), List.getElem_map, List.getD_eq_getElem?_getD, List.getElem?_eq_getElem hj]
     rfl
    have hkl : nd.kids.length <= 1000000 := by
     have h1 := (Inv.upto ht (k + 1)).few ht;rw [HW2.out, List.length_append, kidsLev_length] at h1;rw [HNQ.out] at h1;have := HN.out;omega
    have hklr : nd.kids.length + q <= 1000000 := by
     have h1 := (Inv.upto ht (k + 1)).few ht;rw [HW2.out, List.length_append, kidsLev_length] at h1;rw [HNQ.out, HQ.out] at h1;have := HN.out;omega
    have HKL := qh hkl;have HKR := qh hklr;have HS5 := qh s5;have HST5 := qh st5;have HAT5 := qh at5;have HMK5 := qh mk5;have HJ5 := qh hj5;have HBN5 := qh bn5;have HBK5 := qh bk5;clear t50 t5 s5 st5 at5 mk5 hj5 bn5 hW5 hCN hkl hklr e0 e1 e2 e3 e4 e5 cs0 ca0;refine range_law (w0 := W5) (by decide) (gf := 111) (lb := #[.pointer (some ⟨W3.heap.size + 1, 0, none⟩)]) rfl (enters_of Tryz.func111 (by kernel_rfl) rfl)
     (back_seq (W3.heap.size + 1) w0.heap.size ak ck nd.kids (by have := HKL.out; omega) W5 bk5 hc5 (by have := HST5.out.low.size; omega)) (Below.refl _ _) (fun _ => rfl) (pc := pcW B (W3.heap.size + 1)) (fun g o h => pcW_cells h) ?hpb
     (fun pre Wb => ∃ u, StW w0.heap.size B (B + 1) Bs w0 #[.slice (some ⟨g, off, none⟩) N c, .int .i64 root] (left L ((d : Int), v) r pre.length) u Wb /\ u.ownBlock ≠ some wr.heap.size /\ J (vis L (k + 1) [(root, 0)]) Wb /\ Wb.heap[wr.heap.size]? = some (.cells #[.int .i64 (d : Int), .int .i64 (v : Int)] 106 (0, 0)) /\ Wb.heap[W3.heap.size]? = some (.cells CN 35 (0, 0)) /\ Wb.heap[W3.heap.size + 1]? = some (.cells #[.slice ak nd.kids.length ck] 33 (0, 0)) /\ Mks B ds Wb)
     (fun _ _ => False) ?hI (fun _ _ _ h _ => h) ⟨_, by rw [List.length_nil, left_zero]; exact HST5.out, (fun h => by have h2 := Option.some.inj h; have := HGT.out; dsimp only at h2; omega), HJ5.out, HAT5.out, HBN5.out, HBK5.out, HMK5.out⟩ ?a₁ ?assign ?body ?done ?stop
    case assign =>
     intro l y Wb K hK
     gi_wp2
     exact hK
    case hpb =>
     intro g' o h;rw [Bool.or_eq_true] at h;rw [Bool.and_eq_true, decide_eq_true_iff, decide_eq_true_iff];have hnb := HNB.out;rcases h with h | h
     ·unfold pcW at h;simp only [Bool.and_eq_true, decide_eq_true_iff] at h;exact ⟨by omega, h.1.2⟩
     ·unfold own at h;simp only [Bool.and_eq_true, decide_eq_true_iff] at h;have hs5 := HS5.out;have := HST5.out.low.size;exact ⟨by omega, by omega⟩
    case hI =>
     rintro s A C ⟨u, hS, hub, hj, ha, hn, hb, hm⟩ hT;refine ⟨u, ⟨hT.same _ _ hS.box turn_nil, own_tame hS.row hT (fun g cs => turn_nil), hS.low.trans (hT.below (fun g o h => by have := turn_ge h; have := HST5.out.low.size; omega) hS.low.size), hT.same _ _ hS.syn turn_nil, Nat.le_trans hS.size hT.size⟩, hub, HJ.out _ _ _ hj (hT.mono fun g o h => turn_mono' (turn_mono HST5.out.size h)), hT.same _ _ ha turn_nil, hT.same _ _ hn turn_nil, hT.same _ _ hb turn_nil, Mks.tame hT ds (fun e he r hr => turn_no (by have := HGE.out e he r hr; have := HS5.out; omega)) hm⟩
    case stop =>
     intro D pre Wb _ _ h;exact h.elim
    case done =>
     rintro D ys Wb hD rfl ⟨u, hS, _, hj, ha, hn, hb, hm⟩ hK
     gi_wp2
     have hlen : (backU nd.kids nd.kids.length).length = nd.kids.length := backU_length _ _;rw [hlen] at hS;have hla : left L ((d : Int), v) r nd.kids.length = todo L (k + 1) [(root, 0)] := by
      rw [HW2.out, <- left_all]
      dsimp only
      rw [HNQ.out]
     rw [hla] at hS;refine ⟨N + 1 - (k + 1), ?n1, _, _, _, _, _, _, _, _, _, _, _, _, _, _, _, _, _, _, _, _, _, _, _, _, _, _, _, _, _, _, _, _, _, _, _, _, _, _, _, _, _, _, _, _, _, _, _, _, _, _, _, _, _, k + 1, { target := .collected D, args := #[] } :: ds, u, rfl, ?n2, rfl, ⟨⟨D, rfl, ?n3, hK, ?n4⟩, hm⟩, hS, hj, ?n5⟩
     case n1 => have := HF.out; have := HN.out; omega
     case n2 => have := HF.out; have := HN.out; omega
     case n3 => have := HS5.out; have := HSZ3.out; omega
     case n4 =>
      intro e he h2;have := HGE.out e he D h2;have := HS5.out;omega
     case n5 => rw [HW1.out, List.length_append, HVL.out]; rfl
    case body =>
     rintro l pre y Wb ⟨u, hS, hub, hj, ha, hn, hb, hm⟩ hok;obtain ⟨jj, hjj, hbu⟩ := hok;have hpl : jj = pre.length + 1 := by
      have := congrArg List.length hbu;rw [List.length_append, backU_length] at this;exact this.symm
     subst hpl;rw [backU_succ] at hbu;obtain ⟨_, hy1⟩ := List.append_inj' hbu rfl;obtain rfl : y = (nd.kids.length - 1 - pre.length, nd.kids.getD (nd.kids.length - 1 - pre.length) 0) := by simpa using hy1
     clear hbu hy1;have hls := left_succ L ((d : Int), v) r pre.length (by dsimp only; rw [HNQ.out]; omega);have hll := left_length L ((d : Int), v) r pre.length (by dsimp only; rw [HNQ.out]; omega)
     dsimp only at hls
     rw [HNQ.out] at hls;rw [HQ.out] at hll;obtain ⟨i, hi⟩ : ∃ i, nd.kids.length - 1 - pre.length = i := ⟨_, rfl⟩;obtain ⟨z, hz⟩ : ∃ z, nd.kids.getD i 0 = z := ⟨_, rfl⟩;rw [hi, hz] at hls;rw [hi, hz];have hdp := own_deeper nd.k i;have hup := up_le nd.k i;generalize up nd.k i = p at *;generalize left L ((d : Int), v) r pre.length = T at *
     dsimp only
     have hcb := cell_of hS.box 0 u rfl;have hca := cell_of ha 1 (.int .i64 (v : Int)) rfl;have hcn := cell_of hn 0 (.int .u8 (nd.k : Int)) hCN0;obtain ⟨is, his, hz0, hz1, hz2⟩ := info_parts infoSpot;have hTl : T.length <= 1000000 := by have := HKR.out; omega
     have rowd : Wb.drew.ownsRow B 106 2 u T.length (spots T) := hS.row;obtain ⟨v', w', hrun, ho', hg', _⟩ := run_append_own (P := Tryz.prog) (Wb.drew.alloc (.cells #[.int .i64 z, .int .i64 ((v : Int) + (p : Int))] 106)) B 107 107 106 is _ 2 16 Tryz.underlying107 his hz0 hz1 hz2 rfl (by decide)
      u T.length (spots T) (rowd.alloc _) ⟨Wb.heap.size, 0, none⟩ 1 1 [.int .i64 z, .int .i64 ((v : Int) + (p : Int))] rfl (cell_two_new Wb.drew _ _ _) (by intro x hx; simp at hx; rcases hx with rfl | rfl <;> rfl) (by unfold maxLen; omega) (by omega) (by have := hS.size; simp; omega)
     obtain ⟨gn, cn', rfl⟩ := ownsRow_succ ho';have hrow2 : spots T ++ [.int .i64 z, .int .i64 ((v : Int) + (p : Int))] = spots ((z, v + p) :: T) := by rw [spots_cons]; unfold spotC; simp
     rw [hrow2] at ho';have hal : ∀ q, Tame q Wb (Wb.drew.alloc (.cells #[.int .i64 z, .int .i64 ((v : Int) + (p : Int))] 106)) := fun q => (Tame.drew q Wb).trans (Tame.alloc q _ _)
     have hal0 := hal (fun _ _ => false);have bxd := hal0.same _ _ hS.box rfl;have had := hal0.same _ _ ha rfl;have hbd := hal0.same _ _ hb rfl;have rowa := rowd.alloc (.cells #[.int .i64 z, .int .i64 ((v : Int) + (p : Int))] 106);have hown : ∀ kk, u.ownBlock = some kk -> B <= kk /\ ∃ cur, (Wb.drew.alloc (.cells #[.int .i64 z, .int .i64 ((v : Int) + (p : Int))] 106)).heap[kk]? = some (.cells cur 106 (0, 0)) := by
      intro kk e;rcases rowa.2 with ⟨e1, _⟩ | ⟨g1, _, cur, e1, hg1, hh, _⟩
      ·rw [e1] at e; cases e
      ·rw [e1] at e;cases e;exact ⟨hg1, cur, hh⟩
     have tw1 : Tame (pcW B (W3.heap.size + 1)) (Wb.drew.alloc (.cells #[.int .i64 z, .int .i64 ((v : Int) + (p : Int))] 106)) w' := Tame.grown hg' (fun kk o e ho => by
      obtain ⟨h1, cur, h2⟩ := hown kk e;rw [h2] at ho;cases ho;unfold pcW;rw [decide_eq_true h1, decide_eq_true (show kk ≠ W3.heap.size + 1 from fun e3 => by rw [e3, hbd] at h2; cases h2)]
      rfl)
     have bxw : w'.heap[B + 1]? = some (.cells #[u] 107 (0, 0)) := (hg'.block _ (lt_of_heap bxd) (fun e => by
      obtain ⟨_, cur, h2⟩ := hown _ e.symm;rw [bxd] at h2;cases h2)).trans bxd
     have haw : w'.heap[wr.heap.size]? = some (.cells #[.int .i64 (d : Int), .int .i64 (v : Int)] 106 (0, 0)) := (hg'.block _ (lt_of_heap had) (fun e => hub e.symm)).trans had;have tw2 : Tame (pcW B (W3.heap.size + 1)) w' (w'.setCell ⟨B + 1, 0, none⟩ (.slice (some ⟨gn, 0, none⟩) (T.length + 1) cn')) := Tame.setCell _ _ _ bxw (by
      unfold pcW;rw [decide_eq_true (show B <= B + 1 by omega), decide_eq_true (show B + 1 ≠ W3.heap.size + 1 from fun e => by have h9 := lt_of_heap HBX3.out; omega)]
      rfl)
     have tw := ((hal _).trans tw1).trans tw2;have nty : ∀ (g : Nat) (cs : Array Value) (t : TypeId), [107, 106].contains t = false -> pcW B (W3.heap.size + 1) g (.cells cs t (0, 0)) = false := fun g cs t h => by
      unfold pcW tyIn
      dsimp only
      rw [h, Bool.and_false]
     have hzd : z ≠ (d : Int) := by
      intro e;have hN := (Inv.upto ht (k + 1)).nodup;rw [HW1.out, HW2.out, List.map_append, List.nodup_append] at hN;refine hN.2.2 (d : Int) (by simp) z ?_ e.symm;rw [List.map_append, List.mem_append, kidsLev_fst]
      left
      dsimp only
      rw [HNQ.out, <- hz, List.getD_eq_getElem?_getD, List.getElem?_eq_getElem (by omega)];exact List.getElem_mem _
     have hgn : gn ≠ wr.heap.size := by
      intro e;subst e;rcases ho'.2 with ⟨e1, _⟩ | ⟨g1, cap1, cur, e1, _, hh, hc1, _, hs1, ht1⟩
      ·cases e1
      ·cases e1;rw [haw] at hh;cases hh;have e2 : T = [] := List.eq_nil_of_length_eq_zero (by simp at hs1; omega);subst e2;simp [spots, spotC] at ht1;exact hzd ht1.1.symm
     have haf := (Below.heap_setCell w' ⟨B + 1, 0, none⟩ (.slice (some ⟨gn, 0, none⟩) (T.length + 1) cn') wr.heap.size (by have := HBLT.out; dsimp only; omega)).trans haw;have hfin : Tame (pcW B (W3.heap.size + 1)) Wb (w'.setCell ⟨B + 1, 0, none⟩ (.slice (some ⟨gn, 0, none⟩) (T.length + 1) cn')) /\ ∃ u, StW w0.heap.size B (B + 1) Bs w0 #[.slice (some ⟨g, off, none⟩) N c, .int .i64 root] (left L ((d : Int), v) r (pre ++ [(i, z)]).length) u (w'.setCell ⟨B + 1, 0, none⟩ (.slice (some ⟨gn, 0, none⟩) (T.length + 1) cn')) /\ u.ownBlock ≠ some wr.heap.size /\ J (vis L (k + 1) [(root, 0)]) (w'.setCell ⟨B + 1, 0, none⟩ (.slice (some ⟨gn, 0, none⟩) (T.length + 1) cn')) /\ (w'.setCell ⟨B + 1, 0, none⟩ (.slice (some ⟨gn, 0, none⟩) (T.length + 1) cn')).heap[wr.heap.size]? = some (.cells #[.int .i64 (d : Int), .int .i64 (v : Int)] 106 (0, 0)) /\ (w'.setCell ⟨B + 1, 0, none⟩ (.slice (some ⟨gn, 0, none⟩) (T.length + 1) cn')).heap[W3.heap.size]? = some (.cells CN 35 (0, 0)) /\ (w'.setCell ⟨B + 1, 0, none⟩ (.slice (some ⟨gn, 0, none⟩) (T.length + 1) cn')).heap[W3.heap.size + 1]? = some (.cells #[.slice ak nd.kids.length ck] 33 (0, 0)) /\ Mks B ds (w'.setCell ⟨B + 1, 0, none⟩ (.slice (some ⟨gn, 0, none⟩) (T.length + 1) cn')) := by
      refine ⟨tw, _, ⟨Joins.block_setCell (i := 0) bxw _, ?_, hS.low.trans (tw.below (fun g o h => by have := turn_ge (pcW_turn h); have := HNB.out; omega) hS.low.size), tw.same _ _ hS.syn (nty _ _ _ rfl), Nat.le_trans hS.size tw.size⟩, (fun h => hgn (Option.some.inj h)), HJ.out _ _ _ hj (tw.mono fun g o h => pcW_turn h), haf, tw.same _ _ hn (nty _ _ _ rfl), tw.same _ _ hb (nty _ _ _ rfl), Mks.tame tw ds (fun e he r hr => by unfold pcW tyIn; simp) hm⟩;rw [List.length_append, List.length_singleton, hls];exact own_other ho' bxw (by decide)
     have hcw := cell_of bxw 0 u rfl;have hfw := free_of bxw 0;have HFIN := qh hfin;have hcomm : Wb.drew.alloc (.cells #[.int .i64 z, .int .i64 ((v : Int) + (p : Int))] 106) = (Wb.alloc (.cells #[.int .i64 z, .int .i64 ((v : Int) + (p : Int))] 106)).drew := rfl;rw [hcomm] at hrun;have HRUN := qh hrun;have hcb1 : (Wb.alloc (.cells #[.int .i64 z, .int .i64 ((v : Int) + (p : Int))] 106)).cell? ⟨B + 1, 0, none⟩ = some u := cell_old _ hcb;have HSW := qh (show w'.cell? ⟨wr.heap.size, 1, none⟩ = some (.int .i64 (v : Int)) /\ w'.cell? ⟨W3.heap.size, 0, none⟩ = some (.int .u8 (nd.k : Int)) from ⟨cell_of haw 1 _ rfl, cell_of ((hal0.same _ _ hn rfl |> fun h => tw1.same _ _ h (nty _ _ _ rfl))) 0 _ hCN0⟩);have HSF := qh (show (w'.setCell ⟨B + 1, 0, none⟩ (.slice (some ⟨gn, 0, none⟩) (T.length + 1) cn')).cell? ⟨wr.heap.size, 1, none⟩ = some (.int .i64 (v : Int)) /\ (w'.setCell ⟨B + 1, 0, none⟩ (.slice (some ⟨gn, 0, none⟩) (T.length + 1) cn')).cell? ⟨W3.heap.size, 0, none⟩ = some (.int .u8 (nd.k : Int)) from ⟨cell_of haf 1 _ rfl, cell_of (tw.same _ _ hn (nty _ _ _ rfl)) 0 _ hCN0⟩);clear hcomm hrun hfin tw tw1 tw2 nty hzd hgn haf haw hal hal0 bxd had hbd rowa hown bxw ho' hg' rowd hrow2 hS hub hj ha hn hb hm his hz0 hz1 hz2 hls hll;have hmx : Tryz.prog.follows .mixedOrders = true := by kernel_rfl
     have hvq : IntKind.i64.wrap ((v : Int) + (p : Int)) = (v : Int) + (p : Int) := IntWalk.i64_in _ (by have := HXV.out; omega);have hvp : wrap64 ((v : Int) + (p : Int)) = (v : Int) + (p : Int) := Num.wrap64_of_in ⟨by have := HXV.out; omega, by have := HXV.out; omega⟩
     gi_wp2_with fail
     refine region_round (fun W' => W'.cell? ⟨wr.heap.size, 1, none⟩ = some (.int .i64 (v : Int)) /\ W'.cell? ⟨W3.heap.size, 0, none⟩ = some (.int .u8 (nd.k : Int))) l _ hmx (by kernel_rfl) (by rintro ⟨_, _, h⟩; exact h) ⟨hca, hcn⟩ (fun hS => ?_);refine wpAnyH_take (i := 1) (v := .int .i64 z) rfl (by kernel_rfl) (by kernel_rfl) (by kernel_rfl) (fun _ _ _ h => h) (.inl ⟨by rfl, fun w hs => ?_⟩) hS ?_
     ·obtain ⟨s2, s3⟩ := hs;go_simp
     refine wpAnyH_take (i := 2) (v := .pointer (some ⟨wr.heap.size, 1, none⟩)) rfl (by kernel_rfl) (by kernel_rfl) (by kernel_rfl) (fun _ _ _ h => h) (.inl ⟨by rfl, fun w hs => ?_⟩) hS ?_
     ·obtain ⟨s2, s3⟩ := hs;go_simp
     refine wpAnyH_take (i := 3) (v := .int .i64 (v : Int)) rfl (by kernel_rfl) (by kernel_rfl) (by kernel_rfl) (fun _ _ _ h => h) (.inl ⟨by rfl, fun w hs => ?_⟩) hS ?_
     ·obtain ⟨s2, s3⟩ := hs;go_simp
     refine wpAnyH_take (i := 4) (v := .pointer (some ⟨W3.heap.size, 0, none⟩)) rfl (by kernel_rfl) (by kernel_rfl) (by kernel_rfl) (fun _ _ _ h => h) (.inl ⟨by rfl, fun w hs => ?_⟩) hS ?_
     ·obtain ⟨s2, s3⟩ := hs;go_simp
     refine wpAnyH_take (i := 5) (v := .int .u8 (nd.k : Int)) rfl (by kernel_rfl) (by kernel_rfl) (by kernel_rfl) (fun _ _ _ h => h) (.inl ⟨by rfl, fun w hs => ?_⟩) hS ?_
     ·obtain ⟨s2, s3⟩ := hs;go_simp
     refine wpAnyH_take (i := 6) (v := .int .i64 (i : Int)) rfl (by kernel_rfl) (by kernel_rfl) (by kernel_rfl) (fun _ _ _ h => h) (.inl ⟨by rfl, fun w hs => ?_⟩) hS ?_
     ·obtain ⟨s2, s3⟩ := hs;go_simp
     refine wpAnyH_ready (rs := [0, 7]) (by kernel_rfl) (by simp) (AllReadyH.cons rfl (fun K hK => ?_) (AllReadyH.cons rfl (fun K hK => ?_) AllReadyH.nil))
     ·have hc9 := hcb;go_simp;refine hK.out _ _ hS (fun hS => ?_);clear hK hc9;refine wpAnyH_ready (rs := [7]) (by kernel_rfl) (by simp) (AllReadyH.cons rfl (fun K hK => ?_) AllReadyH.nil);go_simp;refine (hdp _).mono ?_;rintro e w'' ⟨rfl, rfl⟩;refine hK.out _ _ hS (fun hS => ?_);clear hK;refine wpAnyH_take (i := 8) (v := .int .i64 ((v : Int) + (p : Int))) rfl (by kernel_rfl) (by kernel_rfl) (by kernel_rfl) (fun _ _ _ h => h) (.inl ⟨by rfl, fun w hs => ?_⟩) hS ?_
      ·obtain ⟨s2, s3⟩ := hs;go_simp
      refine wpAnyH_take (i := 9) (v := .agg #[.int .i64 z, .int .i64 ((v : Int) + (p : Int))]) rfl (by kernel_rfl) (by kernel_rfl) (by kernel_rfl) (fun _ _ _ h => h) (.inl ⟨by rfl, fun w hs => ?_⟩) hS ?_
      ·obtain ⟨s2, s3⟩ := hs;go_simp
      refine wpAnyH_ready (rs := [10]) (by kernel_rfl) (by simp) (AllReadyH.cons rfl (fun K hK => ?_) AllReadyH.nil);go_simp;refine hK.out _ _ ⟨cell_old _ hS.1, cell_old _ hS.2⟩ (fun hS => ?_);clear hK;refine wpAnyH_ready (rs := [11]) (by kernel_rfl) (by simp) (AllReadyH.cons rfl (fun K hK => ?_) AllReadyH.nil);refine ready_value (by rfl) (w' := w') (v := .slice (some ⟨gn, 0, none⟩) (T.length + 1) cn') (by simp [execOp, resolve, invoke, builtin, HRUN.out, Result.andThen, Act.eval]) ?_;refine hK.out _ _ HSW.out (fun hS => ?_);clear hK;refine wpAnyH_ready (rs := [12]) (by kernel_rfl) (by simp) (AllReadyH.cons rfl (fun K hK => ?_) AllReadyH.nil);go_simp;refine hK.out _ _ HSF.out (fun hS => ?_);exact wpAnyH_done (by kernel_rfl) HFIN.out _
     ·go_simp;refine (hdp _).mono ?_;rintro e w'' ⟨rfl, rfl⟩;refine hK.out _ _ hS (fun hS => ?_);clear hK;refine wpAnyH_take (i := 8) (v := .int .i64 ((v : Int) + (p : Int))) rfl (by kernel_rfl) (by kernel_rfl) (by kernel_rfl) (fun _ _ _ h => h) (.inl ⟨by rfl, fun w hs => ?_⟩) hS ?_
      ·obtain ⟨s2, s3⟩ := hs;go_simp
      refine wpAnyH_take (i := 9) (v := .agg #[.int .i64 z, .int .i64 ((v : Int) + (p : Int))]) rfl (by kernel_rfl) (by kernel_rfl) (by kernel_rfl) (fun _ _ _ h => h) (.inl ⟨by rfl, fun w hs => ?_⟩) hS ?_
      ·obtain ⟨s2, s3⟩ := hs;go_simp
      refine wpAnyH_ready (rs := [0, 10]) (by kernel_rfl) (by simp) (AllReadyH.cons rfl (fun K hK => ?_) (AllReadyH.cons rfl (fun K hK => ?_) AllReadyH.nil))
      ·have hc9 := hcb;go_simp;refine hK.out _ _ hS (fun hS => ?_);clear hK hc9;refine wpAnyH_ready (rs := [10]) (by kernel_rfl) (by simp) (AllReadyH.cons rfl (fun K hK => ?_) AllReadyH.nil);go_simp;refine hK.out _ _ ⟨cell_old _ hS.1, cell_old _ hS.2⟩ (fun hS => ?_);clear hK;refine wpAnyH_ready (rs := [11]) (by kernel_rfl) (by simp) (AllReadyH.cons rfl (fun K hK => ?_) AllReadyH.nil);refine ready_value (by rfl) (w' := w') (v := .slice (some ⟨gn, 0, none⟩) (T.length + 1) cn') (by simp [execOp, resolve, invoke, builtin, HRUN.out, Result.andThen, Act.eval]) ?_;refine hK.out _ _ HSW.out (fun hS => ?_);clear hK;refine wpAnyH_ready (rs := [12]) (by kernel_rfl) (by simp) (AllReadyH.cons rfl (fun K hK => ?_) AllReadyH.nil);go_simp;refine hK.out _ _ HSF.out (fun hS => ?_);exact wpAnyH_done (by kernel_rfl) HFIN.out _
      ·go_simp;refine hK.out _ _ ⟨cell_old _ hS.1, cell_old _ hS.2⟩ (fun hS => ?_);clear hK;refine wpAnyH_ready (rs := [0]) (by kernel_rfl) (by simp) (AllReadyH.cons rfl (fun K hK => ?_) AllReadyH.nil);have hc9 := hcb1;go_simp;refine hK.out _ _ hS (fun hS => ?_);clear hK hc9;refine wpAnyH_ready (rs := [11]) (by kernel_rfl) (by simp) (AllReadyH.cons rfl (fun K hK => ?_) AllReadyH.nil);refine ready_value (by rfl) (w' := w') (v := .slice (some ⟨gn, 0, none⟩) (T.length + 1) cn') (by simp [execOp, resolve, invoke, builtin, HRUN.out, Result.andThen, Act.eval]) ?_;refine hK.out _ _ HSW.out (fun hS => ?_);clear hK;refine wpAnyH_ready (rs := [12]) (by kernel_rfl) (by simp) (AllReadyH.cons rfl (fun K hK => ?_) AllReadyH.nil);go_simp;refine hK.out _ _ HSF.out (fun hS => ?_);exact wpAnyH_done (by kernel_rfl) HFIN.out _
   ·clear hcp
    gi_wp2
    have mk3 := Mks.tame hk3 ds (fun e he r hr => pbW_mark rfl (Mks.low ds HMK.out e he r hr)) HMK.out;have hokx : okW L root (vis L k [(root, 0)] ++ [((d : Int), v)]) := ⟨k + 1, HW1.out.symm, by rw [List.length_append, HVL.out]; rfl⟩;exact leaves_marks ds W3 mk3 fun w' hw' => ⟨_, results_none rfl _ _ _, ⟨_, rfl⟩, .inr ⟨_, hokx, HJx.out _ _ _ hJx3 (hw'.mono fun g o h => turn_mono' h)⟩⟩
end Go.Proofs.YtnkejjlidgnkkaaGreatDoor.Nd
