/-
  A part of the proof.
-/
import Derived.Lib.Hide
import Derived.Test.YtnkejjlidgnkkaaGreatDoorClRB
import Derived.Test.YtnkejjlidgnkkaaGreatDoorClRD
set_option maxRecDepth 100000
set_option maxHeartbeats 40000000
namespace Go.Proofs.YtnkejjlidgnkkaaGreatDoor.Ps

open Go.Lib renaming hid → qh
open Go.Proofs.YtnkejjlidgnkkaaGreatDoor.Nd
open Go.Proofs.YtnkejjlidgnkkaaGreatDoor.Lex (Tok tokensL)
def endT : Tok := ⟨6, ⟨#[]⟩, 0, 0⟩
structure TOk (nm : ByteArray -> Bool) (T : List Tok) : Prop where
 fin : ∀ i, i < T.length -> (T.getD i endT).k ≠ 6 -> i + 1 < T.length
 line : ∀ i, i < T.length -> 1 <= (T.getD i endT).line
 name : ∀ i, i < T.length -> (T.getD i endT).k = 1 -> (T.getD i endT).s.size <= 60 -> nm (T.getD i endT).s = true
 str : ∀ i, i < T.length -> (T.getD i endT).s.size <= 65535
def Sat {α : Type} (x : M α) (s : St) (Q : α -> St -> Prop) : Prop := match x s with
 | .ok a s' => Q a s'
 | .no e l => (e = 3 \/ e = 40) /\ 1 <= l
theorem Sat.bind {α β : Type} {x : M α} {f : α -> M β} {s : St} {Q : β -> St -> Prop} (h : Sat x s fun a s' => Sat (f a) s' Q) : Sat (x >>= f) s Q := by
 unfold Sat at h ⊢
 show match (match x s with | .ok a s' => f a s' | .no e l => .no e l) with | .ok a s' => Q a s' | .no e l => _
 cases hx : x s with
 | ok a s' => rw [hx] at h; exact h
 | no e l => rw [hx] at h; exact h
theorem Sat.pure {α : Type} {a : α} {s : St} {Q : α -> St -> Prop} (h : Q a s) : Sat (Pure.pure a : M α) s Q := h
theorem Sat.mono {α : Type} {x : M α} {s : St} {Q Q' : α -> St -> Prop} (h : Sat x s Q) (k : ∀ a s', Q a s' -> Q' a s') : Sat x s Q' := by
 unfold Sat at h ⊢;cases hx : x s with
 | ok a s' => rw [hx] at h; exact k _ _ h
 | no e l => rw [hx] at h; exact h
def Ext (l m : List Nd) : Prop := ∃ r, m = l ++ r
theorem Ext.refl (l : List Nd) : Ext l l := ⟨[], by simp⟩
theorem Ext.trans {l m n : List Nd} (h : Ext l m) (k : Ext m n) : Ext l n := by
 obtain ⟨r, rfl⟩ := h;obtain ⟨q, rfl⟩ := k;exact ⟨r ++ q, by rw [List.append_assoc]⟩
theorem Ext.one (l : List Nd) (n : Nd) : Ext l (l ++ [n]) := ⟨[n], rfl⟩
theorem Ext.at {l m : List Nd} {i : Int} (h : Ext l m) (hi : inR l i) : Nd.at' m i = Nd.at' l i := by
 obtain ⟨r, rfl⟩ := h;unfold Nd.at';have : i.toNat < l.length := by have := hi.1; have := hi.2; omega
 rw [List.getD_eq_getElem?_getD, List.getD_eq_getElem?_getD, List.getElem?_append_left this]
theorem Ext.inR {l m : List Nd} {i : Int} (h : Ext l m) (hi : Nd.inR l i) : Nd.inR m i := by
 obtain ⟨r, rfl⟩ := h;exact ⟨hi.1, by have := hi.2; rw [List.length_append]; omega⟩
def Has (l : List Nd) (i : Int) (p : Nat -> Int -> Prop) : Prop := Nd.inR l i /\ p (Nd.at' l i).k (Nd.at' l i).n
theorem Has.ext {l m : List Nd} {i : Int} {p : Nat -> Int -> Prop} (h : Has l i p) (e : Ext l m) : Has m i p := by
 refine ⟨e.inR h.1, ?_⟩;rw [e.at h.1];exact h.2
theorem Has.mono {l : List Nd} {i : Int} {p q : Nat -> Int -> Prop} (h : Has l i p) (k : ∀ a b, p a b -> q a b) : Has l i q := ⟨h.1, k _ _ h.2⟩
section
variable {T : List Tok} {nm : ByteArray -> Bool}
structure J (T : List Tok) (nm : ByteArray -> Bool) (s : St) (S : List (Int × Nat)) : Prop where
 here : s.at' < T.length
 few : s.l.length <= 4096
 post : Post (rowD nm) s.l S
theorem line_pos (hT : TOk nm T) {s : St} (h : s.at' < T.length) : 1 <= (tk T s).line := hT.line _ h
theorem sat_fail {α : Type} (hT : TOk nm T) {s : St} (h : s.at' < T.length) {e : Nat} (he : e = 3 \/ e = 40) {Q : α -> St -> Prop} : Sat (fail T e : M α) s Q := ⟨he, line_pos hT h⟩
theorem next_here (hT : TOk nm T) {s : St} (h : s.at' < T.length) (hk : (tk T s).k ≠ 6) : s.at' + 1 < T.length := hT.fin _ h hk
theorem mark_k {t : Tok} (h : markOf t ≠ ⟨#[]⟩) : t.k = 2 \/ t.k = 3 := by
 unfold markOf at h;by_cases hk : t.k = 2 \/ t.k = 3
 ·exact hk
 ·rw [if_neg hk] at h; exact absurd rfl h
theorem mark_no {t : Tok} {m : ByteArray} (h : markOf t = m) (hm : m ≠ ⟨#[]⟩) : t.k ≠ 6 := by
 have := mark_k (t := t) (by rw [h]; exact hm);omega
def fwd (s : St) : St := { s with at' := s.at' + 1 }
theorem J.fwd (hT : TOk nm T) {s : St} {S : List (Int × Nat)} (h : J T nm s S) (hk : (tk T s).k ≠ 6) : J T nm (fwd s) S := ⟨next_here hT h.here hk, h.few, h.post⟩
theorem sat_next {s : St} {Q : Unit -> St -> Prop} (h : Q () (fwd s)) : Sat nextM s Q := h
theorem sat_tok {s : St} {Q : Tok -> St -> Prop} (h : Q (tk T s) s) : Sat (tokM T) s Q := h
theorem sat_mark {s : St} {Q : ByteArray -> St -> Prop} (h : Q (markOf (tk T s)) s) : Sat (markM T) s Q := h
theorem sat_line {s : St} {Q : Nat -> St -> Prop} (h : Q (tk T s).line s) : Sat (lineM T) s Q := h
theorem sat_ends {s : St} {Q : Bool -> St -> Prop} (h : Q (endsB (tk T s)) s) : Sat (endsM T) s Q := h
theorem sat_lineAt {s : St} {i : Int} {Q : Int -> St -> Prop} (h : Q (Nd.at' s.l i).line s) : Sat (lineAt i) s Q := h
theorem sat_kindAt {s : St} {i : Int} {Q : Nat -> St -> Prop} (h : Q (Nd.at' s.l i).k s) : Sat (kindAt i) s Q := h
theorem sat_accept {s : St} {m : ByteArray} {Q : Bool -> St -> Prop} (h1 : markOf (tk T s) = m -> Q true (fwd s)) (h2 : markOf (tk T s) ≠ m -> Q false s) : Sat (accept T m) s Q := by
 unfold Sat accept;by_cases h : markOf (tk T s) = m
 ·rw [if_pos h]; exact h1 h
 ·rw [if_neg h]; exact h2 h
theorem sat_expect (hT : TOk nm T) {s : St} {m : ByteArray} {Q : Unit -> St -> Prop} (hh : s.at' < T.length) (h1 : markOf (tk T s) = m -> Q () (fwd s)) : Sat (expect T m) s Q := by
 unfold expect;refine Sat.bind (sat_accept (fun h => ?_) (fun h => ?_))
 ·exact h1 h
 ·exact sat_fail hT hh (.inr rfl)
theorem sat_room (hT : TOk nm T) {s : St} {c : Nat} {Q : Unit -> St -> Prop} (hh : s.at' < T.length) (hc : c <= 200) (h1 : c < 200 -> Q () s) : Sat (room T c) s Q := by
 unfold room;by_cases h : c = 200
 ·rw [if_pos h]; exact sat_fail hT hh (.inl rfl)
 ·rw [if_neg h]; exact h1 (by omega)
theorem sat_peek (hT : TOk nm T) {s : St} {Q : ByteArray -> St -> Prop} (hh : s.at' < T.length) (h1 : (tk T s).k = 1 -> Q (tk T s).s s) : Sat (peekName T) s Q := by
 unfold Sat peekName;by_cases h : (tk T s).k = 1
 ·rw [if_pos h]; exact h1 h
 ·rw [if_neg h]; exact ⟨.inr rfl, line_pos hT hh⟩
theorem sat_nextName (hT : TOk nm T) {s : St} {Q : ByteArray -> St -> Prop} (hh : s.at' < T.length) (h1 : ∀ n, nm n = true -> (tk T s).k = 1 -> Q n (fwd s)) : Sat (nextName T) s Q := by
 unfold nextName;refine Sat.bind (sat_peek hT hh fun hk => ?_);by_cases h : (tk T s).s.size > 60
 ·rw [if_pos h]; exact sat_fail hT hh (.inl rfl)
 ·rw [if_neg h];refine Sat.bind (sat_next (Sat.pure (h1 _ ?_ hk)));exact hT.name _ hh hk (by show (tk T s).s.size <= 60; omega)
theorem sat_oneMore (hT : TOk nm T) {s : St} {ns : List ByteArray} {Q : List ByteArray -> St -> Prop} (hh : s.at' < T.length) (hl : ns.length <= 200) (hn : ns.all nm = true)
  (h1 : ∀ ns', ns'.length = ns.length + 1 -> ns'.length <= 200 -> ns'.all nm = true -> (tk T s).k = 1 -> Q ns' (fwd s)) : Sat (oneMore T ns) s Q := by
 unfold oneMore;refine Sat.bind (sat_peek hT hh fun hk => Sat.bind (sat_room hT hh hl fun hc => Sat.bind (sat_nextName hT hh fun n hn' hk' => Sat.pure (h1 _ ?_ ?_ ?_ hk))))
 ·rw [List.length_append]; rfl
 ·rw [List.length_append]; show ns.length + 1 <= 200; omega
 ·rw [List.all_append, hn]; simp [hn']
theorem sat_namesGo (hT : TOk nm T) : ∀ (f : Nat) (s : St) (S : List (Int × Nat)) (ns : List ByteArray) (Q : List ByteArray -> St -> Prop), J T nm s S -> T.length < f + s.at' -> ns.length <= 200 -> ns.all nm = true ->
  (∀ ns' s', J T nm s' S -> s'.l = s.l -> s.at' <= s'.at' -> ns.length <= ns'.length -> ns'.length <= 200 -> ns'.all nm = true -> Q ns' s') -> Sat (namesGo T f ns) s Q
 | 0, s, S, ns, Q, hJ, hf, hl, hn, hQ => by have := hJ.here; omega
 | f + 1, s, S, ns, Q, hJ, hf, hl, hn, hQ => by
  unfold namesGo;refine Sat.bind (sat_accept (fun hm => ?_) (fun hm => ?_))
  ·have hk := mark_no hm (by decide);have hJ' := hJ.fwd hT hk
   show Sat (oneMore T ns >>= fun a => namesGo T f a) (fwd s) Q;refine Sat.bind (sat_oneMore hT hJ'.here hl hn fun ns' e1 e2 e3 hk' => ?_);have hJ2 := hJ'.fwd hT (by omega);refine sat_namesGo hT f _ S ns' Q hJ2 (by show T.length < f + (s.at' + 1 + 1); omega) e2 e3 fun ns2 s2 a1 a2 a3 a4 a5 a6 => hQ ns2 s2 a1 a2 ?_ (by omega) a5 a6
   have : s.at' + 1 + 1 <= s2.at' := a3;omega
  ·exact hQ ns s hJ rfl (Nat.le_refl _) (Nat.le_refl _) hl hn
theorem sat_names (hT : TOk nm T) {s : St} {S : List (Int × Nat)} {Q : List ByteArray -> St -> Prop} (hJ : J T nm s S)
  (hQ : ∀ ns s', J T nm s' S -> s'.l = s.l -> s.at' < s'.at' -> 1 <= ns.length -> ns.length <= 200 -> ns.all nm = true -> Q ns s') : Sat (names T) s Q := by
 unfold names;refine Sat.bind (sat_oneMore hT hJ.here (by decide) rfl fun ns e1 e2 e3 hk => ?_);have hJ' := hJ.fwd hT (by omega);refine sat_namesGo hT _ _ S ns Q hJ' (by show T.length < T.length + 1 + (s.at' + 1); omega) e2 e3 fun ns2 s2 a1 a2 a3 a4 a5 a6 => hQ ns2 s2 a1 a2 ?_ ?_ a5 a6
 ·have : s.at' + 1 <= s2.at' := a3; omega
 ·have : ns.length = 0 + 1 := e1; omega
theorem sat_add (hT : TOk nm T) {s : St} {S K : List (Int × Nat)} {nd : Nd} {h : Nat} {Q : Int -> St -> Prop} (hJ : J T nm s (S ++ K)) (hk : nd.kids = K.map (·.1)) (hh : ∀ (p : Nat) (x : Int × Nat), K[p]? = some x -> x.2 + up nd.k p <= h)
  (hr : rowD nm (bare nd) (kinds s.l nd) = true) (h1 : ∀ i s', J T nm s' (S ++ [(i, h)]) -> s'.at' = s.at' -> Ext s.l s'.l -> Nd.inR s'.l i -> Nd.at' s'.l i = nd -> Q i s') : Sat (add T nd) s Q := by
 unfold Sat add;by_cases h4 : s.l.length = 4096
 ·rw [if_pos h4]; exact ⟨.inl rfl, line_pos hT hJ.here⟩
 ·rw [if_neg h4];have hlen : (s.l ++ [nd]).length = s.l.length + 1 := by rw [List.length_append]; rfl
  refine h1 _ ⟨s.at', s.l ++ [nd]⟩ ⟨hJ.here, by show (s.l ++ [nd]).length <= _; have := hJ.few; omega, .push hJ.post hk hh hr⟩ rfl (Ext.one _ _) ⟨Int.natCast_nonneg _, ?_⟩ at_new
  show (s.l.length : Int) < ((s.l ++ [nd]).length : Int);omega
end
end Go.Proofs.YtnkejjlidgnkkaaGreatDoor.Ps
namespace Go.Proofs.YtnkejjlidgnkkaaGreatDoor.Ps

open Go.Lib renaming hid → qh
open Go Go.RowKit Go.ChangeShapes Go.WideShapes Go.Shelf
open Go.Proofs.YtnkejjlidgnkkaaGreatDoor.Nd
open Go.Proofs.YtnkejjlidgnkkaaGreatDoor.Lex (Tok tokensL TokReads)
def EndT (T : List Tok) : Prop := ∀ i, i < T.length -> (T.getD i ⟨6, ⟨#[]⟩, 0, 0⟩).k ≠ 6 -> i + 1 < T.length
theorem EndT.next {T : List Tok} (hE : EndT T) {s : St} (h : s.at' < T.length) (hk : (tk T s).k ≠ 6) : s.at' + 1 < T.length := hE _ h hk
theorem EndT.mark {T : List Tok} (hE : EndT T) {s : St} {m : ByteArray} (h : s.at' < T.length) (hm : markOf (tk T s) = m) (hne : m ≠ ⟨#[]⟩) : s.at' + 1 < T.length := hE _ h (mark_no hm hne)
structure Low (tv : Value) (P b : Nat) : Prop where
 p : P < b
 t : ∀ g, tv.ownBlock = some g -> g < b
 o : opsG < b
theorem PAt.lows {T : List Tok} {tv : Value} {P base : Nat} {s : St} {nv : NR} {w : World} (h : PAt T tv P base s nv w) : Low tv P w.heap.size := by
 refine ⟨lt_of_heap h.cells, fun g hg => ?_, by have := h.opsLow; have := h.low; omega⟩;obtain ⟨ao, cap, rfl, ht⟩ := h.toks;obtain ⟨g', hg', rfl, _⟩ := ht (fun e => by have := h.here; rw [e] at this; exact absurd this (Nat.not_lt_zero _));have e2 : g' = g := by simpa [Value.ownBlock] using hg
 omega
theorem sub_lt {w : World} {r : R3} {g : Nat} (hs : Sub w r) (hg : hasB r g) : g < w.heap.size := by
 rcases hg with hg | hg
 ·exact (hs.1.lt g hg).2
 ·exact (hs.2.lt g hg).2
structure Loc (w : World) (b : Nat) (nv : NR) (e : TypeId) (kv : Value) (xs : List Value) : Prop where
 own : w.ownsRow b e 1 kv xs.length xs
 off : ∀ r ∈ nv.rs, ∀ g, kv.ownBlock = some g -> ¬ hasB r g
theorem Loc.nil (w : World) (b : Nat) (nv : NR) (e : TypeId) : Loc w b nv e (.slice none 0 0) [] := ⟨World.ownsRow_nil w b e 1, fun _ _ g h => by simp [Value.ownBlock] at h⟩
theorem Loc.base {w : World} {b b' : Nat} {nv : NR} {e : TypeId} {kv : Value} {xs : List Value} (h : Loc w b nv e kv xs) (hb : b' <= b) : Loc w b' nv e kv xs := ⟨ownsRow_base h.own hb, h.off⟩
theorem Loc.fresh {T : List Tok} {tv : Value} {P base : Nat} {s : St} {nv : NR} {w W : World} (h : PAt T tv P base s nv w) {B b n : Nat} {e : TypeId} {cs : Array Value} (hW : W.heap[B]? = some (.cells cs e (0, 0))) (hB : w.heap.size <= B) (hb : b <= B) (hn : cs.size = n) (hm : n <= maxLen) : Loc W b nv e (.slice (some ⟨B, 0, none⟩) n n) cs.toList := by
 refine ⟨⟨by rw [Nat.mul_one], .inr ⟨B, n, cs, ?_, hb, hW, ?_, hm, by omega, ?_⟩⟩, fun r hr g hg hh => ?_⟩
 ·rw [Array.length_toList, hn]
 ·rw [Array.length_toList]; omega
 ·rw [Nat.mul_one]; exact List.take_length
 ·have e2 : B = g := by simpa [Value.ownBlock] using hg
  have := sub_lt (h.nodes.2 r hr) hh;omega
theorem Loc.turn {T : List Tok} {tv : Value} {P base : Nat} {s : St} {nv nv' : NR} {X : Nat -> Prop} {A C : World} {b : Nat} {e : TypeId} {kv : Value} {xs : List Value} (L : Loc A b nv e kv xs) (h : PAt T tv P base s nv A) (k : Turn P nv X A C nv') (hX : ∀ g, kv.ownBlock = some g -> ¬ X g) (h1 : e ≠ 35) (h2 : e ≠ 45) : Loc C b nv' e kv xs := by
 have hb := h.nodes.1;refine ⟨⟨L.own.1, ?_⟩, fun r hr g hg hh => ?_⟩
 ·rcases L.own.2 with h3 | ⟨g, cap, cur, rfl, hg, hh, r⟩
  ·exact .inl h3
  ·refine .inr ⟨g, cap, cur, rfl, hg, ?_, r⟩;rw [k.keep g (lt_of_heap hh) ?_ ?_ (hX g rfl)]
   ·exact hh
   ·intro e; subst e; have := h.cells; rw [hh] at this; cases this; exact h2 rfl
   ·have := ownBlock_ne L.own hb h1;rcases this with h4 | h4
    ·exact absurd h4 (by simp [Value.ownBlock])
    ·exact fun e5 => h4 e5.symm
 ·have hlt := (L.own.lt g hg).2;rcases k.rows r hr with h3 | h3
  ·exact L.off r h3 g hg hh
  ·rcases h3 g hh with h4 | h4
   ·exact hX g hg h4
   ·omega
theorem Loc.below {w w' : World} {b : Nat} {nv : NR} {e : TypeId} {kv : Value} {xs : List Value} (L : Loc w b nv e kv xs) (h : Below w.heap.size w w') : Loc w' b nv e kv xs := ⟨own_below5 L.own h, L.off⟩
theorem not_none {kv : Value} : ∀ g, kv.ownBlock = some g -> ¬ Xn g := fun _ _ h => h.elim
theorem PAt.grown {T : List Tok} {tv : Value} {P base : Nat} {s : St} {nv : NR} {w w' : World} {b : Nat} {e : TypeId} {kv : Value} {xs : List Value} (h : PAt T tv P base s nv w) (L : Loc w b nv e kv xs) (hb : Low tv P b) (h1 : e ≠ 35) (hg : w.grownBy w' kv.ownBlock) : PAt T tv P base s nv w' := by
 have hP : some P ≠ kv.ownBlock := fun e => by have := (L.own.lt P e.symm).1; have := hb.p; omega
 have hk : ∀ v : Value, (∀ g, kv.ownBlock = some g -> v.ownBlock ≠ some g) -> v.ownBlock = none \/ v.ownBlock ≠ kv.ownBlock := fun v hv => by
  cases hx : v.ownBlock with
  | none => exact .inl rfl
  | some g => exact .inr fun e => hv g e.symm hx
 refine ⟨toks_keep h.toks hg.size fun g j v hgt hv => ?_, (hg.block P (lt_of_heap h.cells) hP).trans h.cells, ⟨h.nodes.1.kept hg ?_, fun r hr => ⟨(h.nodes.2 r hr).1.kept hg (hk _ fun g e x => L.off r hr g e (.inl x)), (h.nodes.2 r hr).2.kept hg (hk _ fun g e x => L.off r hr g e (.inr x))⟩⟩, h.list, h.here, h.few, h.apart, Nat.le_trans h.low hg.size, h.many, ?_, h.opsLow⟩
 ·exact (World.grownBy.cell_far hg ⟨g, j, none⟩ (lt_cell hv) (fun e => by have := (L.own.lt g e.symm).1; have := hb.t g hgt; omega)).trans hv
 ·exact ownBlock_ne h.nodes.1 L.own (fun e => h1 e.symm)
 ·obtain ⟨Ty, fr, ho⟩ := h.ops;exact ⟨Ty, fr, (hg.block opsG (lt_of_heap ho) (fun e => by have := (L.own.lt opsG e.symm).1; have := hb.o; omega)).trans ho⟩
theorem Turn.grown {P : Nat} {nv : NR} {w w' : World} {kv : Value} (hg : w.grownBy w' kv.ownBlock) : Turn P nv (Xv kv) w w' nv :=
 ⟨hg.os, hg.tape, hg.output, hg.size, fun k hk _ _ hx => hg.block k hk (fun e => hx e.symm), .inl rfl, fun _ h => .inl h, Nat.le_refl _⟩
theorem own_above {w : World} {b : Nat} {nv : NR} {e : TypeId} {kv : Value} {xs : List Value} (L : Loc w b nv e kv xs) {X : Nat -> Prop} : ∀ i, Xv kv i -> X i \/ b <= i := fun i hi => .inr (L.own.lt i hi).1
def vRow {α : Type} (b : Nat) (e : TypeId) (f : α -> List Value) (a : α) (v : Value) (nv : NR) (w : World) : Prop := Loc w b nv e v (f a)
def intsV (ks : List Int) : List Value := ks.map (.int .i64)
def textsV (ks : List ByteArray) : List Value := ks.map .string
theorem add_does {T : List Tok} {tv : Value} {P base : Nat} {s : St} {nv : NR} (w : World) (h : PAt T tv P base s nv w) (nd : Nd) {b : Nat} {nm kv : Value} (kI nI lI : Int) (hn : Loc w b nv 9 nm (textsV nd.names)) (hk : Loc w b nv 3 kv (intsV nd.kids)) (e1 : kI = (nd.k : Int)) (e2 : nI = nd.n) (e3 : lI = nd.line) (hlen : s.l.length < 4096) :
  Calls Tryz.prog 33 #[.pointer (some ⟨P, 0, none⟩), .agg #[.int .u8 kI, .int .i64 nI, .string nd.name, nm, kv, .int .i64 lI]] w (Does T tv P base (add T nd) s nv (fun g => Xv nm g \/ Xv kv g) w vInt 0) := by
 subst e1 e2 e3;have h1 := ownsRow_base hn.own (Nat.zero_le b);have h2 := ownsRow_base hk.own (Nat.zero_le b);unfold textsV at h1;unfold intsV at h2;rw [List.length_map] at h1 h2;obtain ⟨an, cn, rfl⟩ := own_slice h1;obtain ⟨ak, ck, rfl⟩ := own_slice h2;refine (add_yes (X := fun g => Xv (.slice an nd.names.length cn) g \/ Xv (.slice ak nd.kids.length ck) g) w h nd an ak cn ck ⟨h1, h2⟩ hlen fun g hg => hg).mono ?_;rintro e w' ⟨nv', rfl, hP, hT⟩;exact does_ok (by unfold add; rw [if_neg (by omega)]) ⟨rfl, by omega, by have := congrArg List.length hP.list; rw [List.length_map] at this; rw [this]; show _ < ((s.l ++ [nd]).length : Int); rw [List.length_append, List.length_singleton]; omega⟩ hP hT (Nat.le_refl _)

open Go.Lib renaming hid → qh
open Go Go.RowKit Go.ChangeShapes Go.WideShapes Go.Shelf
open Go.Proofs.YtnkejjlidgnkkaaGreatDoor.Nd
open Go.Proofs.YtnkejjlidgnkkaaGreatDoor.Lex (Tok tokensL TokReads)
theorem run_bind {α β : Type} (x : M α) (f : α -> M β) (s : St) : (x >>= f) s = match x s with | .ok a s' => f a s' | .no e l => .no e l := rfl
theorem run_pure {α : Type} (a : α) (s : St) : (Pure.pure a : M α) s = .ok a s := rfl
theorem run_tok (T : List Tok) (s : St) : tokM T s = .ok (tk T s) s := rfl
theorem run_line (T : List Tok) (s : St) : lineM T s = .ok (tk T s).line s := rfl
theorem run_mark (T : List Tok) (s : St) : markM T s = .ok (markOf (tk T s)) s := rfl
theorem run_next (s : St) : nextM s = .ok () ⟨s.at' + 1, s.l⟩ := rfl
theorem run_fail {α : Type} (T : List Tok) (e : Nat) (s : St) : (fail T e : M α) s = .no e (tk T s).line := rfl
theorem accept_t {T : List Tok} {s : St} {m : ByteArray} (h : markOf (tk T s) = m) : accept T m s = .ok true ⟨s.at' + 1, s.l⟩ := by unfold accept; rw [if_pos h]
theorem accept_f {T : List Tok} {s : St} {m : ByteArray} (h : markOf (tk T s) ≠ m) : accept T m s = .ok false s := by unfold accept; rw [if_neg h]
theorem acc_same {T : List Tok} {s s' : St} {m : ByteArray} (h : accept T m s = .ok false s') : s' = s := by
 unfold accept at h;by_cases hk : markOf (tk T s) = m
 ·rw [if_pos hk] at h; cases h
 ·rw [if_neg hk] at h; cases h; rfl
theorem room_t {T : List Tok} {s : St} {c : Nat} (h : c ≠ 200) : room T c s = .ok () s := by unfold room; rw [if_neg h]; rfl
theorem room_f {T : List Tok} {s : St} {c : Nat} (h : c = 200) : room T c s = .no 3 (tk T s).line := by unfold room; rw [if_pos h]; rfl
theorem peek_t {T : List Tok} {s : St} (h : (tk T s).k = 1) : peekName T s = .ok (tk T s).s s := by unfold peekName; rw [if_pos h]
theorem peek_f {T : List Tok} {s : St} (h : (tk T s).k ≠ 1) : peekName T s = .no 40 (tk T s).line := by unfold peekName; rw [if_neg h]
section
variable {T : List Tok} {tv : Value} {P base : Nat} {s : St} {nv : NR}
theorem next_do (hE : EndT T) (w : World) (h : PAt T tv P base s nv w) (hk : (tk T s).k ≠ 6) : Calls Tryz.prog 76 #[.pointer (some ⟨P, 0, none⟩)] w (Does T tv P base nextM s nv Xn w vUnit 1) := by
 have hn := hE.next h.here hk;refine (next_fn w h hn).mono ?_;rintro e w' ⟨rfl, rfl⟩;exact does_ok (run_next s) rfl (h.step hn) (Turn.of_below (Below.refl _ _)).set (Nat.le_refl _)
theorem expect_do (hE : EndT T) (w : World) (h : PAt T tv P base s nv w) {m : ByteArray} (hm : m ≠ ⟨#[]⟩) : Calls Tryz.prog 140 #[.pointer (some ⟨P, 0, none⟩), .string m] w (Does T tv P base (expect T m) s nv Xn w vUnit 1) := by
 by_cases hk : markOf (tk T s) = m
 ·refine (expect_yes w h hk (hE.mark h.here hk hm)).mono ?_;rintro e w' ⟨rfl, hP, hT⟩;exact does_ok (a := ()) (s' := ⟨s.at' + 1, s.l⟩) (by unfold expect; simp only [run_bind, accept_t hk, ↓reduceIte, run_pure]) rfl hP hT (Nat.le_refl _)
 ·refine (expect_no w h hk).mono ?_;rintro e w' ⟨rfl, b⟩;exact does_no (by unfold expect; simp only [run_bind, accept_f hk, Bool.false_eq_true, ↓reduceIte, run_fail]) (Turn.of_below b)
theorem accept_y (hE : EndT T) (w : World) (h : PAt T tv P base s nv w) {m : ByteArray} (hk : markOf (tk T s) = m) (hm : m ≠ ⟨#[]⟩) : Calls Tryz.prog 113 #[.pointer (some ⟨P, 0, none⟩), .string m] w (Does T tv P base (accept T m) s nv Xn w (fun a v _ _ => a = true /\ v = .bool true) 1) := by
 refine (accept_yes w h hk (hE.mark h.here hk hm)).mono ?_;rintro e w' ⟨rfl, hP, hT⟩;exact does_ok (accept_t hk) ⟨rfl, rfl⟩ hP hT (Nat.le_refl _)
theorem accept_n (w : World) (h : PAt T tv P base s nv w) {m : ByteArray} (hk : markOf (tk T s) ≠ m) : Calls Tryz.prog 113 #[.pointer (some ⟨P, 0, none⟩), .string m] w (Does T tv P base (accept T m) s nv Xn w (fun a v _ _ => a = false /\ v = .bool false) 0) := by
 refine (accept_no w h hk).mono ?_;rintro e w' ⟨rfl, b⟩;exact does_ok (accept_f hk) ⟨rfl, rfl⟩ (h.below b) (Turn.of_below b) (Nat.le_refl _)
theorem begin_do (lev : Nat) (w : World) (h : PAt T tv P base s nv w) : Calls Tryz.prog 72 #[.pointer (some ⟨P, 0, none⟩), .int .i64 (lev : Int)] w (Does T tv P base (if 100 < lev then fail T 3 else pure ()) s nv Xn w vUnit 0) := by
 by_cases hl : 100 < lev
 ·refine (begin_no lev w h hl).mono ?_;rintro e w' ⟨rfl, b⟩;exact does_no (by rw [if_pos hl]; rfl) (Turn.of_below b)
 ·refine (begin_yes lev w (by omega)).mono ?_;rintro e w' ⟨rfl, rfl⟩;exact does_ok (a := ()) (s' := s) (by rw [if_neg hl]; rfl) rfl h (Turn.of_below (Below.refl _ _)) (Nat.le_refl _)
theorem room_do (c : Nat) (w : World) (h : PAt T tv P base s nv w) (hc : c <= 200) : Calls Tryz.prog 137 #[.pointer (some ⟨P, 0, none⟩), .int .i64 (c : Int)] w (Does T tv P base (room T c) s nv Xn w vUnit 0) := by
 by_cases hl : c = 200
 ·subst hl;refine (room_no w h).mono ?_;rintro e w' ⟨rfl, b⟩;exact does_no (room_f rfl) (Turn.of_below b)
 ·refine (room_yes c w (by omega)).mono ?_;rintro e w' ⟨rfl, rfl⟩;exact does_ok (a := ()) (s' := s) (room_t hl) rfl h (Turn.of_below (Below.refl _ _)) (Nat.le_refl _)
theorem peek_do (w : World) (h : PAt T tv P base s nv w) : Calls Tryz.prog 176 #[.pointer (some ⟨P, 0, none⟩)] w (Does T tv P base (peekName T) s nv Xn w vStr 0) := by
 by_cases hk : (tk T s).k = 1
 ·refine (peek_yes w h hk).mono ?_;rintro e w' ⟨rfl, b⟩;exact does_ok (peek_t hk) rfl (h.below b) (Turn.of_below b) (Nat.le_refl _)
 ·refine (peek_no w h hk).mono ?_;rintro e w' ⟨rfl, b⟩;exact does_no (peek_f hk) (Turn.of_below b)
theorem name_do (hE : EndT T) (w : World) (h : PAt T tv P base s nv w) : Calls Tryz.prog 148 #[.pointer (some ⟨P, 0, none⟩)] w (Does T tv P base (nextName T) s nv Xn w vStr 1) := by
 by_cases hk : (tk T s).k = 1
 ·by_cases hz : (tk T s).s.size > 60
  ·have HC := qh (peek_yes w h hk);have HF := qh (fun w' (hb : Below w.heap.size w w') => fail_fn 3 w' (h.below hb));have hz' : ((tk T s).s.size : Int) > 60 := by omega
   have HM := qh (show nextName T s = .no 3 (tk T s).line from by unfold nextName; simp only [run_bind, peek_t hk, if_pos hz, run_fail]);have HH := qh h;clear h hk hz;generalize (tk T s).s = ts at *;go_enter Tryz.func148, Tryz.ntmps148;go_wp2_with fail;refine HC.out.mono ?_;rintro e w1 ⟨rfl, b⟩;have HB := qh b;clear b;go_wp2_with fail;refine (HF.out w1 HB.out).mono ?_;rintro e w2 ⟨rfl, b⟩;have HB2 := qh (HB.out.trans (b.mono HB.out.size));clear b;go_wp2_with fail;exact ⟨rfl, does_no HM.out (Turn.of_below HB2.out)⟩
  ·refine (name_yes w h hk (by omega) (hE.next h.here (by omega))).mono ?_;rintro e w' ⟨rfl, hP, hT⟩;exact does_ok (a := (tk T s).s) (s' := ⟨s.at' + 1, s.l⟩) (by unfold nextName; simp only [run_bind, peek_t hk, if_neg hz, run_next, run_pure]) rfl hP hT (Nat.le_refl _)
 ·have HC := qh (peek_no w h hk);have HM := qh (show nextName T s = .no 40 (tk T s).line from by unfold nextName; simp only [run_bind, peek_f hk]);clear h hk;go_enter Tryz.func148, Tryz.ntmps148;go_wp2_with fail;refine HC.out.mono ?_;rintro e w1 ⟨rfl, b⟩;have HB := qh b;clear b;go_wp2_with fail;exact ⟨rfl, does_no HM.out (Turn.of_below HB.out)⟩
theorem add_no (w : World) (h : PAt T tv P base s nv w) (kI nI lI : Int) (name : ByteArray) (nm kv : Value) (ha : ∃ a n c, nm = .slice a n c) (hb : ∃ a n c, kv = .slice a n c) (hlen : s.l.length = 4096) :
  Calls Tryz.prog 33 #[.pointer (some ⟨P, 0, none⟩), .agg #[.int .u8 kI, .int .i64 nI, .string name, nm, kv, .int .i64 lI]] w fun e w' => e = .panicked (faultV 3 (tk T s).line) /\ Below w.heap.size w w' := by
 obtain ⟨a1, n1, c1, rfl⟩ := ha;obtain ⟨a2, n2, c2, rfl⟩ := hb;have hN : nv.rs.length = s.l.length := by rw [<- h.list, List.length_map]
 obtain ⟨an0, cn0, hnv⟩ := own_slice h.nodes.1;rw [hN, hlen] at hnv;have y2 := cell_of h.cells 2 nv.v rfl;rw [hnv] at y2;have hal : ∀ o, Below w.heap.size w (w.alloc o) := fun o => (Below.refl _ _).alloc (Nat.le_refl _) _
 have y2 := fun o => cell_up (hal o) y2
 have HA := qh hal;have HF := qh (fun w' (hb : Below w.heap.size w w') => fail_fn 3 w' (h.below hb));clear h hN hnv hal hlen;go_enter Tryz.func33, Tryz.ntmps33;go_wp2_with fail;refine (HF.out _ (HA.out _)).mono ?_;rintro e w2 ⟨rfl, b⟩;have HB2 := qh ((HA.out _).trans (b.mono (HA.out _).size));clear b;go_wp2_with fail;exact ⟨rfl, rfl, HB2.out⟩
theorem loc_slice {w : World} {b : Nat} {e : TypeId} {kv : Value} {xs : List Value} (L : Loc w b nv e kv xs) : ∃ a n c, kv = .slice a n c := by
 obtain ⟨a, c, h⟩ := own_slice L.own;exact ⟨a, _, c, h⟩
theorem add_do (w : World) (h : PAt T tv P base s nv w) (nd : Nd) {b : Nat} {nm kv : Value} (kI nI lI : Int) (name : ByteArray) (hn : Loc w b nv 9 nm (textsV nd.names)) (hk : Loc w b nv 3 kv (intsV nd.kids)) (e1 : kI = (nd.k : Int)) (e2 : nI = nd.n) (e3 : lI = nd.line) (e4 : name = nd.name) :
  Calls Tryz.prog 33 #[.pointer (some ⟨P, 0, none⟩), .agg #[.int .u8 kI, .int .i64 nI, .string name, nm, kv, .int .i64 lI]] w (Does T tv P base (add T nd) s nv (fun g => Xv nm g \/ Xv kv g) w vInt 0) := by
 subst e4;by_cases hlen : s.l.length = 4096
 ·refine (add_no w h kI nI lI _ nm kv (loc_slice hn) (loc_slice hk) hlen).mono ?_;rintro e w' ⟨rfl, b⟩;exact does_no (by unfold add; rw [if_pos hlen]) (Turn.of_below b)
 ·by_cases h4 : s.l.length < 4096
  ·exact add_does w h nd kI nI lI hn hk e1 e2 e3 h4
  ·exact absurd h4 (by have := h.many; omega)
theorem add_kids (w : World) (h : PAt T tv P base s nv w) (nd : Nd) {b : Nat} {nm : Value} {cs : Array Value} {n : Nat} (kI nI lI : Int) (name : ByteArray) (hb : b <= w.heap.size) (hn : Loc w b nv 9 nm (textsV nd.names)) (hcs : cs.toList = intsV nd.kids) (hs : cs.size = n) (hm : n <= 1000) (e1 : kI = (nd.k : Int)) (e2 : nI = nd.n) (e3 : lI = nd.line) (e4 : name = nd.name) :
  Calls Tryz.prog 33 #[.pointer (some ⟨P, 0, none⟩), .agg #[.int .u8 kI, .int .i64 nI, .string name, nm, .slice (some ⟨w.heap.size, 0, none⟩) n n, .int .i64 lI]] (w.alloc (.cells cs 3)) (Does T tv P base (add T nd) s nv (Xv nm) w vInt 0) := by
 have hal : Below w.heap.size w (w.alloc (.cells cs 3)) := (Below.refl _ _).alloc (Nat.le_refl _) _;have hL : Loc (w.alloc (.cells cs 3)) b nv 3 (.slice (some ⟨w.heap.size, 0, none⟩) n n) (intsV nd.kids) := hcs ▸ Loc.fresh h (hit rfl) (Nat.le_refl _) hb hs (by unfold maxLen; omega);refine (add_do (w.alloc (.cells cs 3)) (h.below hal) nd kI nI lI name (hn.below hal) hL e1 e2 e3 e4).mono ?_;intro e w' hd;have hX : ∀ i, (Xv nm i \/ Xv (.slice (some ⟨w.heap.size, 0, none⟩) n n) i) -> Xv nm i \/ w.heap.size <= i := fun i hi => by
  rcases hi with hi | hi
  ·exact .inl hi
  ·right
   have : w.heap.size = i := by simpa [Xv, Value.ownBlock] using hi
   omega
 rcases does_cases hd with ⟨a, s', v, nv', hx, rfl, hv, hP, hT, hl⟩ | ⟨er, l, nv', hx, rfl, hT⟩
 ·exact does_ok hx hv hP ((Turn.of_below hal).trans' hT hX) hl
 ·exact does_no hx ((Turn.of_below hal).trans' hT hX)
theorem add_kids_at (w : World) (h : PAt T tv P base s nv w) (nd : Nd) {b g : Nat} {nm : Value} {cs : Array Value} {n : Nat} (kI nI lI : Int) (name : ByteArray) (hg : g = w.heap.size) (hb : b <= w.heap.size) (hn : Loc w b nv 9 nm (textsV nd.names)) (hcs : cs.toList = intsV nd.kids) (hs : cs.size = n) (hm : n <= 1000) (e1 : kI = (nd.k : Int)) (e2 : nI = nd.n) (e3 : lI = nd.line) (e4 : name = nd.name) :
  Calls Tryz.prog 33 #[.pointer (some ⟨P, 0, none⟩), .agg #[.int .u8 kI, .int .i64 nI, .string name, nm, .slice (some ⟨g, 0, none⟩) n n, .int .i64 lI]] (w.alloc (.cells cs 3)) (Does T tv P base (add T nd) s nv (Xv nm) w vInt 0) := by
 subst hg;exact add_kids w h nd kI nI lI name hb hn hcs hs hm e1 e2 e3 e4
theorem add_leaf (w : World) (h : PAt T tv P base s nv w) (nd : Nd) (kI nI lI : Int) (name : ByteArray) (hn : nd.names = []) (hk : nd.kids = []) (e1 : kI = (nd.k : Int)) (e2 : nI = nd.n) (e3 : lI = nd.line) (e4 : name = nd.name) :
  Calls Tryz.prog 33 #[.pointer (some ⟨P, 0, none⟩), .agg #[.int .u8 kI, .int .i64 nI, .string name, .slice none 0 0, .slice none 0 0, .int .i64 lI]] w (Does T tv P base (add T nd) s nv Xn w vInt 0) := by
 refine (add_do (b := 0) w h nd kI nI lI name (by rw [hn]; exact Loc.nil _ _ _ _) (by rw [hk]; exact Loc.nil _ _ _ _) e1 e2 e3 e4).mono ?_;intro e w' hd;have hX : ∀ i, (Xv (.slice none 0 0) i \/ Xv (.slice none 0 0) i) -> Xn i \/ w.heap.size <= i := fun i hi => by
  rcases hi with hi | hi <;> exact absurd hi (by simp [Xv, Value.ownBlock])
 have hT0 : Turn P nv Xn w w nv := Turn.of_below (Below.refl _ _);rcases does_cases hd with ⟨a, s', v, nv', hx, rfl, hv, hP, hT, hl⟩ | ⟨er, l, nv', hx, rfl, hT⟩
 ·exact does_ok hx hv hP (hT0.trans' hT hX) hl
 ·exact does_no hx (hT0.trans' hT hX)
theorem nil_X {i : Nat} : Xv (.slice none 0 0) i -> Xn i := fun h => absurd h (by simp [Xv, Value.ownBlock])
end
end Go.Proofs.YtnkejjlidgnkkaaGreatDoor.Ps
namespace Go.Proofs.YtnkejjlidgnkkaaGreatDoor.Ps

open Go.Lib renaming hid → qh
open Go Go.RowKit Go.ChangeShapes Go.WideShapes Go.Shelf
open Go.Proofs.YtnkejjlidgnkkaaGreatDoor.Nd
open Go.Proofs.YtnkejjlidgnkkaaGreatDoor.Lex (Tok tokensL TokReads)
structure DFn (T : List Tok) (tv : Value) (P base : Nat) (d : Fns) (L : Int) : Prop where
 lev : 1 <= L /\ L <= 101
 beg : ∀ s nv w, PAt T tv P base s nv w -> Calls Tryz.prog 72 #[.pointer (some ⟨P, 0, none⟩), .int .i64 L] w (Does T tv P base d.beg s nv Xn w vUnit 0)
 beg1 : ∀ s nv w, PAt T tv P base s nv w -> Calls Tryz.prog 72 #[.pointer (some ⟨P, 0, none⟩), .int .i64 (L + 1)] w (Does T tv P base d.beg1 s nv Xn w vUnit 0)
 ok : ∀ s a s', d.beg s = .ok a s' -> L <= 100 /\ s' = s
 expr : ∀ (binds : Nat) s nv w, PAt T tv P base s nv w -> Calls Tryz.prog 138 #[.pointer (some ⟨P, 0, none⟩), .int .i64 L, .int .i64 (binds : Int)] w (Does T tv P base (d.expr binds) s nv Xn w vInt 1)
 exprs : ∀ s nv w, PAt T tv P base s nv w -> Calls Tryz.prog 112 #[.pointer (some ⟨P, 0, none⟩), .int .i64 L] w (Does T tv P base d.exprs s nv Xn w (vRow w.heap.size 3 intsV) 1)
 ne : ∀ s a s', d.exprs s = .ok a s' -> a ≠ [] /\ a.length <= 200
 block : ∀ s nv w, PAt T tv P base s nv w -> Calls Tryz.prog 30 #[.pointer (some ⟨P, 0, none⟩), .int .i64 L] w (Does T tv P base d.block s nv Xn w vInt 0)
 operand : L <= 100 -> ∀ s nv w, PAt T tv P base s nv w -> startsE (tk T s) = true -> Calls Tryz.prog 170 #[.pointer (some ⟨P, 0, none⟩), .int .i64 L] w (Does T tv P base d.operand s nv Xn w vInt 1)
 pre : L <= 100 -> ∀ s nv w, PAt T tv P base s nv w -> Calls Tryz.prog 150 #[.pointer (some ⟨P, 0, none⟩), .int .i64 L] w (Does T tv P base d.pre s nv Xn w vInt 1)
 body : L <= 100 -> ∀ (ns : List ByteArray) (line : Nat) (nm : Value) (b : Nat) s nv w, PAt T tv P base s nv w -> Low tv P b -> Loc w b nv 9 nm (textsV ns) -> ns.length <= 1 -> Calls Tryz.prog 146 #[.pointer (some ⟨P, 0, none⟩), nm, .int .i64 (line : Int), .int .i64 L] w (Does T tv P base (d.body ns line) s nv (Xv nm) w vInt 1)
theorem runs : (∀ {α β : Type} (x : M α) (f : α -> M β) (s : St), (x >>= f) s = match x s with | .ok a s' => f a s' | .no e l => .no e l) /\ (∀ {α : Type} (a : α) (s : St), (Pure.pure a : M α) s = .ok a s) /\ (∀ T s, tokM T s = .ok (tk T s) s) /\ (∀ T s, lineM T s = .ok (tk T s).line s) /\ (∀ T s, markM T s = .ok (markOf (tk T s)) s) /\ (∀ T s, endsM T s = .ok (endsB (tk T s)) s) /\ (∀ T s, behindM T s = .ok (T.getD (s.at' + 1) ⟨6, ⟨#[]⟩, 0, 0⟩) s) /\ (∀ {α : Type} T e s, (fail T e : M α) s = .no e (tk T s).line) /\ (∀ i s, lineAt i s = .ok (Nd.at' s.l i).line s) /\ (∀ i s, kindAt i s = .ok (Nd.at' s.l i).k s) /\ (∀ {α : Type} [_i : Decidable True] (a b : α), (if True then a else b) = a) /\ (∀ {α : Type} [_i : Decidable (false = true)] (a b : α), (if false = true then a else b) = b) /\ (∀ {α : Type} [_i : Decidable False] (a b : α), (if False then a else b) = b) :=
 ⟨fun _ _ _ => rfl, fun _ _ => rfl, fun _ _ => rfl, fun _ _ => rfl, fun _ _ => rfl, fun _ _ => rfl, fun _ _ => rfl, fun _ _ _ => rfl, fun _ _ => rfl, fun _ _ => rfl, fun _ _ => if_pos trivial, fun _ _ => if_neg (fun h => Bool.noConfusion h), fun _ _ => if_neg id⟩
def whileM (T : List Tok) (d : Fns) : M Int := do
 let line <- lineM T
 nextM
 let c <- d.expr 0
 let b <- doBlock T d
 add T ⟨6, 0, ⟨#[]⟩, [], [c, b], line⟩
def doM (T : List Tok) (d : Fns) : M Int := do
 let line <- lineM T
 let b <- doBlock T d
 add T ⟨5, 0, ⟨#[]⟩, [], [b], line⟩
def repeatM (T : List Tok) (d : Fns) : M Int := do
 let line <- lineM T
 nextM
 let b <- d.block
 expect T wUntil
 let c <- d.expr 0
 add T ⟨7, 0, ⟨#[]⟩, [], [b, c], line⟩
theorem nilX {α : Type} {T : List Tok} {tv : Value} {P base : Nat} {x : M α} {s : St} {nv : NR} {w : World} {val : α -> Value -> NR -> World -> Prop} {δ : Nat} {e : Ending} {w' : World} (h : Does T tv P base x s nv (Xv (.slice none 0 0)) w val δ e w') : Does T tv P base x s nv Xn w val δ e w' := by
 have hT0 : Turn P nv Xn w w nv := Turn.of_below (Below.refl _ _);rcases does_cases h with ⟨a, s', v, nv', hx, rfl, hv, hP, hT, hl⟩ | ⟨er, l, nv', hx, rfl, hT⟩
 ·exact does_ok hx hv hP (hT0.trans' hT fun i hi => .inl (nil_X hi)) hl
 ·exact does_no hx (hT0.trans' hT fun i hi => .inl (nil_X hi))
theorem calls_nilX {α : Type} {T : List Tok} {tv : Value} {P base : Nat} {x : M α} {s : St} {nv : NR} {w : World} {val : α -> Value -> NR -> World -> Prop} {δ : Nat} {f : FuncId} {args : Array Value} {W : World} (h : Calls Tryz.prog f args W (Does T tv P base x s nv (Xv (.slice none 0 0)) w val δ)) : Calls Tryz.prog f args W (Does T tv P base x s nv Xn w val δ) := h.mono fun _ _ hd => nilX hd
end Go.Proofs.YtnkejjlidgnkkaaGreatDoor.Ps
