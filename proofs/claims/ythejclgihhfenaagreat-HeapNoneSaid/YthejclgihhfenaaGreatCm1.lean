import Derived.WalkKit
import Derived.WalkSpells
import Derived.WalkSmall
import Derived.WalkLawsBesides
import Derived.Lib.OthersKept
import Derived.Lib.Hide
import Derived.Test.YthejclgihhfenaaGreatRows
import Derived.Below
import Derived.Deep.AppendSrc
import Derived.Deep.Upon
import Derived.WideShapes
import Derived.Maps.AppendAt
/-
  Small laws on rows and appends: nothing of the program.
-/
namespace Go.Proofs.YthejclgihhfenaaGreat
open Go Go.RowKit

/-- 'out = append(out, y)': one element behind what is owned. -/
theorem wpList_append_one {P : Program} {w : World} {ops : Array Oper} {rest : List Oper} {o : Oper} {a : Act} {Q : Exit → Act → World → Prop} (hgd : o.guard = none) (s x : Operand) (t : TypeId)
    (ho : o.op = .call { callee := .builtin .append, args := #[s, x], argTypes := #[t, t] })
    (base : Nat) (e : TypeId) (z : Value) (bytes : Nat) (ht : P.underlying t = some (.slice e)) (hi : (P.info? e).map (fun i => (i.zero, i.size, i.bytes)) = some (some z, 1, bytes)) (hzs : z.cells.size = 1)
    (v : Value) (n : Nat) (xs : List Value) (hs : a.eval s = v) (hown : w.ownsRow base e 1 v n xs)
    (y : Value) (hx : a.eval x = .slice (some ⟨w.heap.size, 0, none⟩) 1 1) (h1 : y.oneCell' = true)
    (h63 : n + 1 ≤ maxLen) (hbytes : (n + 1) * bytes ≤ 140737488355328) (hbase : base ≤ w.heap.size)
    (h : ∀ v' w', w'.ownsRow base e 1 v' (n + 1) (xs ++ [y]) → (w.alloc (.cells #[y] e)).grownBy w' v.ownBlock → wpList P ops Q rest (a.put o.dst v') w') : wpList P ops Q (o :: rest) a (w.alloc (.cells #[y] e)) := by
  obtain ⟨i, hi, hz, hsize, hby⟩ := info_parts hi
  refine wpList_append_own (w := w.alloc (.cells #[y] e)) hgd s x t ho base e i z 1 bytes ht hi hz hsize hby hzs (by decide) v n xs hs (hown.alloc _) ⟨w.heap.size, 0, none⟩ 1 1 [y] hx rfl (fun j u hj => ?_) (fun u hu => ?_) h63 hbytes (by simp; omega) (fun v' w' h1 h2 _ => h v' w' h1 h2)
  · match j, hj with
    | 0, hj => simp at hj; subst hj; simp [Addr.add]
  · simp at hu; subst hu; exact h1

/-- Rows of two types are two rows. -/
theorem ownBlock_ne {w : World} {b b' : Nat} {e e' : TypeId} {v v' : Value} {n n' : Nat} {xs xs' : List Value} {size size' : Nat} (h : w.ownsRow b e size v n xs) (h' : w.ownsRow b' e' size' v' n' xs') (hne : e ≠ e') : v.ownBlock = none ∨ v.ownBlock ≠ v'.ownBlock := by
  rcases h.2 with ⟨rfl, _⟩ | ⟨g, cap, cur, rfl, _, hg, _⟩
  · left; rfl
  · right
    rcases h'.2 with ⟨rfl, _⟩ | ⟨g', cap', cur', rfl, _, hg', _⟩
    · simp [Value.ownBlock]
    · intro hb
      simp [Value.ownBlock] at hb
      subst hb
      rw [hg] at hg'
      simp at hg'
      exact hne hg'.2

/-- Behind an append to an own row nothing below the rows has turned. -/
theorem below_appended {w w1 : World} {B : Nat} {e : TypeId} {v : Value} {n size : Nat} {xs : List Value} {x : Obj} (hv : w.ownsRow B e size v n xs) (hg : (w.alloc x).grownBy w1 v.ownBlock) (hB : B ≤ w.heap.size) : Below B w w1 :=
  ((Below.refl B w).alloc hB x).grown hg (by simp; omega) (fun k hk => (hv.lt k hk).1)

theorem ownsRow_base {w : World} {b b' : Nat} {e : TypeId} {size : Nat} {v : Value} {n : Nat} {xs : List Value} (h : w.ownsRow b e size v n xs) (hb : b' ≤ b) : w.ownsRow b' e size v n xs := by
  refine ⟨h.1, ?_⟩
  rcases h.2 with hn | ⟨g, cap, cur, rfl, hb2, rest⟩
  · exact .inl hn
  · exact .inr ⟨g, cap, cur, rfl, by omega, rest⟩

/-- All that was there stands: two calls, one behind the other. -/
theorem grew_trans {a b c : World} (h : Below a.heap.size a b) (k : Below b.heap.size b c) : Below a.heap.size a c := h.trans (k.mono h.size)
theorem grew_alloc {a b : World} (h : Below a.heap.size a b) (o : Obj) : Below a.heap.size a (b.alloc o) := h.alloc h.size o

end Go.Proofs.YthejclgihhfenaaGreat

/-
  Lists as they lie in memory, in blocks of a kind; what a call may turn. Nothing of one layer, no types' numbers.
-/
namespace Go.Proofs.YthejclgihhfenaaGreat.Pl
open Go Go.RowKit

def In64 (n : Int) : Prop := -9223372036854775808 ≤ n ∧ n ≤ 9223372036854775807
def Len (n : Nat) : Prop := n ≤ 9223372036854775807
/-- A list whose items take one cell each, in a block of the kind P. -/
def LstP (P : Nat → Prop) (w : World) (v : Value) (vs : List Value) : Prop :=
  ∃ ao cap, v = .slice ao vs.length cap ∧ (vs.length ≤ cap ∧ Len vs.length) ∧ (vs ≠ [] → ∃ g off, P g ∧ g < w.heap.size ∧ ao = some ⟨g, off, none⟩ ∧ ∀ (j : Nat) (h : j < vs.length), w.cell? ⟨g, off + j, none⟩ = some vs[j])
def ints (l : List Int) : List Value := l.map (.int .i64)
theorem ints_len (l : List Int) : (ints l).length = l.length := List.length_map _
theorem ints_get (l : List Int) (j : Nat) (h : j < l.length) : (ints l)[j]'(by rw [ints_len]; exact h) = .int .i64 l[j] := List.getElem_map ..

/-- Blocks of F alone may have turned; new ones may have come. -/
structure Turns (F : List Nat) (w w' : World) : Prop where
  os : w'.os = w.os
  tape : w'.tape = w.tape
  output : w'.output = w.output
  size : w.heap.size ≤ w'.heap.size
  block : ∀ k, k < w.heap.size → k ∉ F → w'.heap[k]? = w.heap[k]?

section
variable {P P' : Nat → Prop} {F G : List Nat} {w w' w1 : World} {v : Value} {vs : List Value}
theorem Turns.refl (F : List Nat) (w : World) : Turns F w w := ⟨rfl, rfl, rfl, Nat.le_refl _, fun _ _ _ => rfl⟩
theorem Turns.of_below (h : Below w.heap.size w w') : Turns F w w' := ⟨h.os, h.tape, h.output, h.size, fun k hk _ => h.block k hk⟩
theorem Turns.to_below (h : Turns F w w') {B : Nat} (hB : B ≤ w.heap.size) (hF : ∀ k ∈ F, B ≤ k) : Below B w w' :=
  ⟨h.os, h.tape, h.output, h.size, fun k hk => h.block k (Nat.lt_of_lt_of_le hk hB) (fun hm => absurd (hF k hm) (Nat.not_le.2 hk))⟩
/-- A step behind another, whose blocks are old ones or new. -/
theorem Turns.trans (h : Turns F w w1) (k : Turns G w1 w') (hG : ∀ x ∈ G, x ∈ F ∨ w.heap.size ≤ x) : Turns F w w' :=
  ⟨k.os.trans h.os, k.tape.trans h.tape, k.output.trans h.output, Nat.le_trans h.size k.size, fun i hi hn =>
    (k.block i (Nat.lt_of_lt_of_le hi h.size) (fun hm => (hG i hm).elim hn (fun h2 => absurd h2 (Nat.not_le.2 hi)))).trans (h.block i hi hn)⟩
theorem Turns.mono (h : Turns F w w') (hG : ∀ x ∈ F, x ∈ G) : Turns G w w' := ⟨h.os, h.tape, h.output, h.size, fun k hk hn => h.block k hk (fun hm => hn (hG k hm))⟩

theorem LstP.keep (h : LstP P w v vs) (hb : ∀ k, P k → k < w.heap.size → w'.heap[k]? = w.heap[k]?) (hs : w.heap.size ≤ w'.heap.size) : LstP P w' v vs := by
  obtain ⟨ao, cap, rfl, hl, hc⟩ := h
  refine ⟨ao, cap, rfl, hl, fun hne => ?_⟩
  obtain ⟨g, off, hg, hg2, rfl, hx⟩ := hc hne
  exact ⟨g, off, hg, Nat.lt_of_lt_of_le hg2 hs, rfl, fun j h => (World.cell?_of_block (w := w) (w' := w') (a := ⟨g, off + j, none⟩) (hb g hg hg2)).trans (hx j h)⟩
theorem LstP.mono (h : LstP P w v vs) (hP : ∀ k, k < w.heap.size → P k → P' k) : LstP P' w v vs := by
  obtain ⟨ao, cap, rfl, hl, hc⟩ := h
  refine ⟨ao, cap, rfl, hl, fun hne => ?_⟩
  obtain ⟨g, off, hg, hg2, r⟩ := hc hne
  exact ⟨g, off, hP g hg2 hg, hg2, r⟩
theorem LstP.below (h : LstP P w v vs) (hb : Below w.heap.size w w') : LstP P w' v vs := h.keep (fun k _ hk => hb.block k hk) hb.size
/-- What is beside F stands where F alone turns, and beside what F becomes. -/
theorem LstP.turns (h : LstP (· ∉ F) w v vs) (hb : Turns F w w') (hG : ∀ x ∈ G, x ∈ F ∨ w.heap.size ≤ x) : LstP (· ∉ G) w' v vs :=
  (h.mono (P' := fun k => k < w.heap.size ∧ k ∉ F) (fun _ h1 h2 => ⟨h1, h2⟩)).keep (fun k hP hk => hb.block k hk hP.2) hb.size |>.mono (fun k _ hP hm => (hG k hm).elim hP.2 (fun h2 => absurd h2 (Nat.not_le.2 hP.1)))
theorem LstP.slice (h : LstP P w v vs) : ∃ ao cap, v = .slice ao vs.length cap ∧ vs.length ≤ cap ∧ Len vs.length := by
  obtain ⟨ao, cap, hv, hl, _⟩ := h
  exact ⟨ao, cap, hv, hl⟩
theorem LstP.item (h : LstP P w v vs) {i : Nat} (hi : i < vs.length) : ∃ g off cap, P g ∧ g < w.heap.size ∧ v = .slice (some ⟨g, off, none⟩) vs.length cap ∧ (vs.length ≤ cap ∧ Len vs.length) ∧ w.cell? ⟨g, off + i, none⟩ = some vs[i] := by
  obtain ⟨ao, cap, rfl, hl, hc⟩ := h
  obtain ⟨g, off, hg, hg2, rfl, hx⟩ := hc (by rintro rfl; exact absurd hi (Nat.not_lt_zero _))
  exact ⟨g, off, cap, hg, hg2, rfl, hl, hx i hi⟩
theorem LstP.nil (P : Nat → Prop) (w : World) : LstP P w (.slice none 0 0) [] := ⟨none, 0, rfl, ⟨Nat.le_refl _, Nat.zero_le _⟩, fun h => absurd rfl h⟩
theorem LstP.own {b : Nat} {e : TypeId} {n : Nat} (h : w.ownsRow b e 1 v n vs) (hl : Len n) : LstP (b ≤ ·) w v vs := by
  have hn : vs.length = n := by have := h.1; simpa using this
  subst hn
  rcases h.2 with ⟨rfl, h0⟩ | ⟨g, cap, cur, rfl, hb, hg, hcap, _⟩
  · exact ⟨none, 0, by rw [h0], ⟨by omega, hl⟩, fun hl => absurd (List.eq_nil_of_length_eq_zero h0) hl⟩
  · refine ⟨_, cap, rfl, ⟨hcap, hl⟩, fun _ => ⟨g, 0, hb, (Array.getElem?_eq_some_iff.1 hg).1, rfl, fun i hi => ?_⟩⟩
    rw [Nat.zero_add, h.cellAt i (by omega)]
    simp [hi]
theorem cell_of {b : Nat} {cs : Array Value} {T : TypeId} {fr : Nat × Nat} (h : w.heap[b]? = some (.cells cs T fr)) (j : Nat) (v : Value) (hv : cs[j]? = some v) : w.cell? ⟨b, j, none⟩ = some v := by
  unfold World.cell?
  rw [h]
  exact hv
theorem free_of {b : Nat} {cs : Array Value} {T : TypeId} (h : w.heap[b]? = some (.cells cs T (0, 0))) (j : Nat) : w.frozen? ⟨b, j, none⟩ = false := Lib.frozen_of_heap h j
theorem new_block (w : World) (o : Obj) : (w.alloc o).heap[w.heap.size]? = some o := by
  show (w.heap.push o)[w.heap.size]? = some o
  simp
theorem lt_of_get {o : Obj} {b : Nat} (h : w.heap[b]? = some o) : b < w.heap.size := by
  rcases Nat.lt_or_ge b w.heap.size with h' | h'
  · exact h'
  · rw [Array.getElem?_eq_none h'] at h; cases h
/-- The first k items of a list; what is behind them. -/
theorem LstP.to {P : Program} {K : Nat → Prop} {T e : TypeId} {w : World} {ao : Option Addr} {n cap : Nat} {vs : List Value} (h : LstP K w (.slice ao n cap) vs) (k : Nat) (hk : k ≤ vs.length)
    (ht : P.underlying T = some (.slice e)) (he : P.elem T = e) (hs : ∀ w, (Go.sizeOf e).run P w = .ok 1 w) :
    ∃ ao' c', (∀ w', (Instr.slice T (.slice ao n cap) none (some (.int .i64 (k : Int))) none).run P w' = .ok (.slice ao' k c') w') ∧ LstP K w (.slice ao' k c') (vs.take k) := by
  obtain ⟨ao0, cap0, e0, ⟨hc, hl⟩, hx⟩ := h
  cases e0
  have ht' : P.underlying T = some (.slice (P.elem T)) := by rw [he]; exact ht
  have hlen : (vs.take k).length = k := by rw [List.length_take]; omega
  refine ⟨if cap = 0 then ao else ao.map (·.add (0 * 1)), cap - 0, fun w' => ?_, ?_⟩
  · have hrun := run_slice_h (P := P) w' T ao vs.length cap ht' .i64 (k : Int) (by omega) (by omega)
    rw [he, hs] at hrun
    rw [hrun]
    simp [Result.andThen, sliced]
  · refine ⟨_, _, by rw [hlen], ⟨by rw [hlen]; omega, by unfold Len at *; rw [hlen]; omega⟩, fun hne => ?_⟩
    have hpos : 0 < k := by
      rcases Nat.eq_zero_or_pos k with h | h
      · exact absurd (by rw [h, List.take_zero]) hne
      · exact h
    obtain ⟨g, off, hP, hg, rfl, hcell⟩ := hx (fun h => by rw [h, List.length_nil] at hk; omega)
    refine ⟨g, off, hP, hg, ?_, fun j hj => ?_⟩
    · rw [if_neg (by omega)]
      simp [Addr.add]
    · rw [hlen] at hj
      rw [hcell j (by omega), List.getElem_take]
theorem LstP.from' {P : Program} {K : Nat → Prop} {T e : TypeId} {w : World} {ao : Option Addr} {n cap : Nat} {vs : List Value} (h : LstP K w (.slice ao n cap) vs) (k : Nat) (hk : k ≤ vs.length)
    (ht : P.underlying T = some (.slice e)) (he : P.elem T = e) (hs : ∀ w, (Go.sizeOf e).run P w = .ok 1 w) :
    ∃ ao' n' c', (∀ w', (Instr.slice T (.slice ao n cap) (some (.int .i64 (k : Int))) none none).run P w' = .ok (.slice ao' n' c') w') ∧ LstP K w (.slice ao' n' c') (vs.drop k) := by
  obtain ⟨ao0, cap0, e0, ⟨hc, hl⟩, hx⟩ := h
  cases e0
  have ht' : P.underlying T = some (.slice (P.elem T)) := by rw [he]; exact ht
  have hlen : (vs.drop k).length = vs.length - k := by rw [List.length_drop]
  refine ⟨if cap = k then ao else ao.map (·.add (k * 1)), vs.length - k, cap - k, fun w' => ?_, ?_⟩
  · have hrun := run_slice_l (P := P) w' T ao vs.length cap ht' .i64 (k : Int) (by omega) (by omega)
    rw [he, hs] at hrun
    rw [hrun]
    simp [Result.andThen, sliced]
  · refine ⟨_, _, by rw [hlen], ⟨by rw [hlen]; omega, by unfold Len at *; rw [hlen]; omega⟩, fun hne => ?_⟩
    have hpos : k < vs.length := by
      rcases Nat.lt_or_ge k vs.length with h | h
      · exact h
      · exact absurd (List.drop_eq_nil_of_le h) hne
    obtain ⟨g, off, hP, hg, rfl, hcell⟩ := hx (fun h => by rw [h, List.length_nil] at hpos; omega)
    refine ⟨g, off + k, hP, hg, ?_, fun j hj => ?_⟩
    · rw [if_neg (by omega)]
      simp [Addr.add]
    · rw [hlen] at hj
      rw [Nat.add_assoc, hcell (k + j) (by omega), List.getElem_drop]
/-- 'append(l, src...)': items of one cell behind what is owned. -/
theorem wpList_append_part {P : Program} {K : Nat → Prop} {w : World} {ops : Array Oper} {rest : List Oper} {o : Oper} {a : Act} {Q : Exit → Act → World → Prop} (hgd : o.guard = none) (s x : Operand) (t : TypeId)
    (ho : o.op = .call { callee := .builtin .append, args := #[s, x], argTypes := #[t, t] })
    (base : Nat) (e : TypeId) (z : Value) (bytes : Nat) (ht : P.underlying t = some (.slice e)) (hi : (P.info? e).map (fun i => (i.zero, i.size, i.bytes)) = some (some z, 1, bytes)) (hzs : z.cells.size = 1)
    (v : Value) (n : Nat) (xs : List Value) (hs : a.eval s = v) (hown : w.ownsRow base e 1 v n xs)
    (y : Value) (ys : List Value) (hx : a.eval x = y) (hy : LstP K w y ys) (h1 : ∀ u ∈ ys, u.oneCell' = true)
    (h63 : n + ys.length ≤ maxLen) (hbytes : (n + ys.length) * bytes ≤ 140737488355328) (hbase : base ≤ w.heap.size)
    (h : ∀ v' w', w'.ownsRow base e 1 v' (n + ys.length) (xs ++ ys) → w.grownBy w' v.ownBlock → (v'.ownBlock = v.ownBlock ∨ v'.ownBlock = some w.heap.size) → wpList P ops Q rest (a.put o.dst v') w') : wpList P ops Q (o :: rest) a w := by
  obtain ⟨i, hi, hz, hsize, hby⟩ := info_parts hi
  obtain ⟨ao, cap, rfl, ⟨hc, hl⟩, hcell⟩ := hy
  by_cases hne : ys = []
  · subst hne
    have hsrc : Src P i.size t (.slice ao 0 cap) 0 [] w := by
      cases ao with
      | none => exact Src.ofNil w ht cap
      | some ad => exact Src.ofSlice w ht ad 0 cap [] (by simp) (fun j u hj => by simp at hj) (fun u hu => by cases hu)
    obtain ⟨aa, cs, rfl, hle⟩ : ∃ aa cs, v = .slice aa n cs ∧ n ≤ cs := by
      rcases hown.2 with ⟨rfl, rfl⟩ | ⟨g, c, cur, rfl, _, _, hle, _⟩
      · exact ⟨_, _, rfl, Nat.le_refl _⟩
      · exact ⟨_, _, rfl, hle⟩
    have hrun := run_append_nothing w t t o.type e i ht hi aa n cs hle _ hsrc
    refine wpList_plain hgd fun K hK' => ?_
    unfold Oper.wp
    simp [execOp, ho, resolve, invoke, builtin, hs, hx, hrun, Result.andThen]
    refine hK' _ _ (h _ _ (by simpa using hown) ⟨rfl, rfl, rfl, Nat.le_refl _, fun _ _ _ => rfl⟩ (.inl rfl))
  · obtain ⟨g, off, _, _, rfl, hx2⟩ := hcell hne
    refine wpList_append_own_at (w := w) hgd s x t ho base e i z 1 bytes ht hi hz hsize hby hzs (by decide) v n xs hs hown ⟨g, off, none⟩ ys.length cap ys hx (by simp) (fun j u hj => ?_) h1 h63 hbytes hbase (fun v' w' h2 h3 _ h5 => h v' w' h2 h3 h5)
    rw [Go.WideShapes.add_plain]
    obtain ⟨hlt, he⟩ := List.getElem?_eq_some_iff.1 hj
    rw [hx2 j hlt, he]
/-- 'append(l, x)': one item, which lies in a block of its own. -/
theorem wpList_append_at {P : Program} {w : World} {ops : Array Oper} {rest : List Oper} {o : Oper} {a : Act} {Q : Exit → Act → World → Prop} (hgd : o.guard = none) (s x : Operand) (t : TypeId)
    (ho : o.op = .call { callee := .builtin .append, args := #[s, x], argTypes := #[t, t] })
    (base : Nat) (e : TypeId) (z : Value) (bytes : Nat) (ht : P.underlying t = some (.slice e)) (hi : (P.info? e).map (fun i => (i.zero, i.size, i.bytes)) = some (some z, 1, bytes)) (hzs : z.cells.size = 1)
    (v : Value) (n : Nat) (xs : List Value) (hs : a.eval s = v) (hown : w.ownsRow base e 1 v n xs)
    (y : Value) (hx : a.eval x = .slice (some ⟨w.heap.size, 0, none⟩) 1 1) (h1 : y.oneCell' = true)
    (h63 : n + 1 ≤ maxLen) (hbytes : (n + 1) * bytes ≤ 140737488355328) (hbase : base ≤ w.heap.size)
    (h : ∀ v' w', w'.ownsRow base e 1 v' (n + 1) (xs ++ [y]) → (w.alloc (.cells #[y] e)).grownBy w' v.ownBlock → (v'.ownBlock = v.ownBlock ∨ v'.ownBlock = some (w.heap.size + 1)) → wpList P ops Q rest (a.put o.dst v') w') : wpList P ops Q (o :: rest) a (w.alloc (.cells #[y] e)) := by
  obtain ⟨i, hi, hz, hsize, hby⟩ := info_parts hi
  refine wpList_append_own_at (w := w.alloc (.cells #[y] e)) hgd s x t ho base e i z 1 bytes ht hi hz hsize hby hzs (by decide) v n xs hs (hown.alloc _) ⟨w.heap.size, 0, none⟩ 1 1 [y] hx rfl (fun j u hj => ?_) (fun u hu => ?_) h63 hbytes (by simp; omega) (fun v' w' h1 h2 _ h5 => h v' w' h1 h2 (by simpa using h5))
  · match j, hj with
    | 0, hj => simp at hj; subst hj; simp [Addr.add]
  · simp at hu; subst hu; exact h1
theorem own_slice {w : World} {b : Nat} {e : TypeId} {size : Nat} {v : Value} {n : Nat} {xs : List Value} (h : w.ownsRow b e size v n xs) : ∃ ao c, v = .slice ao n c := by
  rcases h.2 with ⟨rfl, rfl⟩ | ⟨g, cap, cur, rfl, _⟩
  · exact ⟨_, _, rfl⟩
  · exact ⟨_, _, rfl⟩
theorem own_some {w : World} {b : Nat} {e : TypeId} {size : Nat} {v : Value} {n : Nat} {xs : List Value} (h : w.ownsRow b e size v n xs) : ∃ ao m c, v = .slice ao m c := by
  obtain ⟨ao, c, h⟩ := own_slice h
  exact ⟨ao, n, c, h⟩
theorem own_lt {w : World} {b e n g : Nat} {v : Value} {xs : List Value} (h : w.ownsRow b e 1 v n xs) (hg : v.ownBlock = some g) : b ≤ g ∧ g < w.heap.size := by
  rcases h.2 with ⟨rfl, _⟩ | ⟨g2, cap, cur, rfl, hb, hh, _⟩
  · cases hg
  · injection hg with hg
    dsimp only at hg
    subst hg
    exact ⟨hb, lt_of_get hh⟩
end
theorem mixed : Tryz.prog.follows .mixedOrders = true := by kernel_rfl
theorem ret_bool {x y : Bool} (h : x = y) : Ending.returned (Value.bool x) = .returned (.bool y) := by rw [h]
theorem ret_int {x y : Int} (h : x = y) : Ending.returned (Value.int .i64 x) = .returned (.int .i64 y) := by rw [h]
end Go.Proofs.YthejclgihhfenaaGreat.Pl

/-
  Layer 13: a table as plain data: places in their order, each with a key and a value.
-/
namespace Go.Proofs.YthejclgihhfenaaGreat.Tb
open Go

/-- Blocks of the law's own, with what they hold. -/
abbrev Own := List (Nat × Obj)
/-- A value: its kind, its number. -/
structure Vl where
  kind : Nat
  n : Int
  deriving DecidableEq
def nilV : Vl := ⟨0, 0⟩
def numV (n : Int) : Vl := ⟨3, n⟩
def strV (n : Int) : Vl := ⟨4, n⟩
def Vl.cells (v : Vl) : Array Value := #[.int .u8 (v.kind : Int), .int .i64 v.n]
def Vl.val (v : Vl) : Value := .agg v.cells
def Vl.In (v : Vl) : Prop := v.kind < 256 ∧ Pl.In64 v.n
def plainB (v : Vl) : Bool := decide (2 < v.kind) || decide (v.n = 0)
def keyB (k : Vl) : Bool := decide (1 ≤ k.kind) && (decide (k.kind ≤ 8) && plainB k)
def valB (v : Vl) : Bool := decide (v.kind ≤ 8) && plainB v
abbrev Tbl := List (Vl × Vl)
def alive (p : Vl × Vl) : Bool := decide (p.2.kind ≠ 0)
def hasT (t : Tbl) (k : Vl) : Bool := t.any (fun p => decide (p.1 = k))
def getT (t : Tbl) (k : Vl) : Vl := match t.find? (fun p => decide (p.1 = k)) with
  | none => nilV
  | some p => p.2
def putT (t : Tbl) (k v : Vl) : Tbl := t.map (fun p => if p.1 = k then (p.1, v) else p)
/-- Set: the table then, and the error. -/
def setT (t : Tbl) (k v : Vl) : Tbl × Int :=
  if keyB k && valB v then
    if hasT t k then (putT t k v, 0) else if v.kind = 0 then (t, 0) else if 65536 ≤ (t.filter alive).length then (t.filter alive, 5) else (t.filter alive ++ [(k, v)], 0)
  else (t, 150)
def countT (t : Tbl) : Nat := (t.filter alive).length
def firstT (t : Tbl) : Vl × Vl := match t.find? alive with
  | none => (nilV, nilV)
  | some p => p
/-- What stands behind a key's place. -/
def behindT (t : Tbl) (k : Vl) : Tbl := match t with
  | [] => []
  | p :: t => if p.1 = k then t else behindT t k
def nextT (t : Tbl) (k : Vl) : Vl × Vl × Int :=
  if k.kind = 0 then ((firstT t).1, (firstT t).2, 0) else if hasT t k then ((firstT (behindT t k)).1, (firstT (behindT t k)).2, 0) else (nilV, nilV, 2)
/-- The border: numbers from 1 on have values up to it, the next one has none. -/
def BorderT (t : Tbl) (n : Nat) : Prop := (∀ i : Nat, i < n → (getT t (numV ((i : Int) + 1))).kind ≠ 0) ∧ (getT t (numV ((n : Int) + 1))).kind = 0

theorem put_keys (t : Tbl) (k v : Vl) : (putT t k v).map (·.1) = t.map (·.1) := by
  unfold putT
  rw [List.map_map]
  apply List.map_congr_left
  intro p _
  show (if p.1 = k then (p.1, v) else p).1 = p.1
  split <;> rfl
theorem has_iff (t : Tbl) (k : Vl) : hasT t k = true ↔ k ∈ t.map (·.1) := by
  unfold hasT
  rw [List.any_eq_true, List.mem_map]
  constructor
  · rintro ⟨p, h1, h2⟩; exact ⟨p, h1, of_decide_eq_true h2⟩
  · rintro ⟨p, h1, h2⟩; exact ⟨p, h1, decide_eq_true h2⟩
theorem get_none (t : Tbl) (k : Vl) (h : hasT t k = false) : getT t k = nilV := by
  unfold getT
  have : t.find? (fun p => decide (p.1 = k)) = none := by
    rw [List.find?_eq_none]
    intro p hp hd
    have := (has_iff t k).2 (List.mem_map.2 ⟨p, hp, of_decide_eq_true hd⟩)
    rw [h] at this; cases this
  rw [this]
theorem get_cons (p : Vl × Vl) (t : Tbl) (k : Vl) : getT (p :: t) k = if p.1 = k then p.2 else getT t k := by
  unfold getT
  rw [List.find?_cons]
  by_cases h : p.1 = k
  · rw [decide_eq_true h, if_pos h]
  · rw [decide_eq_false h, if_neg h]
theorem get_put : ∀ (t : Tbl) (k v k' : Vl), getT (putT t k v) k' = if k' = k ∧ hasT t k = true then v else getT t k'
  | [], k, v, k' => by
    rw [if_neg (fun h => by cases h.2)]; rfl
  | p :: t, k, v, k' => by
    have ih := get_put t k v k'
    show getT ((if p.1 = k then (p.1, v) else p) :: putT t k v) k' = _
    rw [get_cons, get_cons, ih]
    have hh : hasT (p :: t) k = (decide (p.1 = k) || hasT t k) := by unfold hasT; rw [List.any_cons]
    rw [hh]
    by_cases h1 : p.1 = k
    · rw [if_pos h1, decide_eq_true h1, Bool.true_or]
      by_cases h2 : p.1 = k'
      · rw [if_pos h2, if_pos ⟨by rw [← h2, h1], rfl⟩]
      · rw [if_neg h2, if_neg h2]
        have h3 : ¬ k' = k := fun e => h2 (by rw [h1, e])
        rw [if_neg (fun h => h3 h.1), if_neg (fun h => h3 h.1)]
    · rw [if_neg h1, decide_eq_false h1, Bool.false_or]
      by_cases h2 : p.1 = k'
      · rw [if_pos h2, if_neg (fun h => h1 (by rw [h2, h.1]))]; split <;> rfl
      · rw [if_neg h2, if_neg h2]
theorem get_filter : ∀ (t : Tbl) (k : Vl), (t.map (·.1)).Nodup → (getT (t.filter alive) k).kind = 0 ∧ (getT t k).kind = 0 ∨ getT (t.filter alive) k = getT t k
  | [], _, _ => .inr rfl
  | p :: t, k, hn => by
    have hn2 : (t.map (·.1)).Nodup := (List.nodup_cons.1 hn).2
    have hno : p.1 ∉ t.map (·.1) := (List.nodup_cons.1 hn).1
    rw [get_cons, List.filter_cons]
    by_cases ha : alive p = true
    · rw [if_pos ha, get_cons]
      by_cases h1 : p.1 = k
      · rw [if_pos h1, if_pos h1]; exact .inr rfl
      · rw [if_neg h1, if_neg h1]; exact get_filter t k hn2
    · rw [if_neg ha]
      by_cases h1 : p.1 = k
      · rw [if_pos h1]
        left
        have h2 : hasT (t.filter alive) k = false := by
          cases h3 : hasT (t.filter alive) k with
          | false => rfl
          | true =>
            obtain ⟨q, hq, he⟩ := List.mem_map.1 ((has_iff _ _).1 h3)
            exact absurd (List.mem_map.2 ⟨q, (List.mem_filter.1 hq).1, he.trans h1.symm⟩) hno
        rw [get_none _ _ h2]
        refine ⟨rfl, ?_⟩
        unfold alive at ha
        simpa using ha
      · rw [if_neg h1]; exact get_filter t k hn2
theorem get_app (t : Tbl) (k v k' : Vl) : getT (t ++ [(k, v)]) k' = if hasT t k' = true then getT t k' else if k = k' then v else nilV := by
  induction t with
  | nil =>
    rw [if_neg (by intro h; cases h)]
    show getT [(k, v)] k' = _
    rw [get_cons]; rfl
  | cons p t ih =>
    have hh : hasT (p :: t) k' = (decide (p.1 = k') || hasT t k') := by unfold hasT; rw [List.any_cons]
    rw [List.cons_append, get_cons, get_cons, ih, hh]
    by_cases h : p.1 = k'
    · rw [if_pos h, if_pos h, decide_eq_true h, Bool.true_or, if_pos rfl]
    · rw [if_neg h, if_neg h, decide_eq_false h, Bool.false_or]
end Go.Proofs.YthejclgihhfenaaGreat.Tb
