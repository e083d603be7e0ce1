/-
  Layer 12: a pool of the document's that is being made: its box, two lists of its own.
-/
import Derived.Test.YtpfhaafaoedgpaaPlRefC
namespace Go.Proofs.Ytpfhaafaoedgpaa.Pl
open Go Go.RowKit

/-- The box lies where w1 ended; both lists behind it, apart. -/
structure Two (w1 : World) (b : Int) (vI vS : Value) (I S : List Int) (w : World) : Prop where
  box : w.heap[w1.heap.size]? = some (.cells #[.int .i64 b, vI, vS] 38 (0, 0))
  oi : w.ownsRow (w1.heap.size + 1) 3 1 vI I.length (ints I)
  os : w.ownsRow (w1.heap.size + 1) 3 1 vS S.length (ints S)
  apart : vI.ownBlock = none ∨ vI.ownBlock ≠ vS.ownBlock
  low : Below w1.heap.size w1 w

theorem Two.new (w1 : World) (b : Int) : Two w1 b (.slice none 0 0) (.slice none 0 0) [] [] (w1.alloc (.cells #[.int .i64 b, .slice none 0 0, .slice none 0 0] 38)) :=
  ⟨new_block _ _, World.ownsRow_nil _ _ _ _, World.ownsRow_nil _ _ _ _, .inl rfl, (Below.refl _ _).alloc (Nat.le_refl _) _⟩
section
variable {w1 w w2 w3 : World} {b : Int} {vI vS v' : Value} {I S l : List Int}
theorem Two.drew (h : Two w1 b vI vS I S w) : Two w1 b vI vS I S w.drew := ⟨h.box, h.oi, h.os, h.apart, h.low.drew⟩
/-- An append to the numbers, or to the sizes, leaves the box. -/
theorem Two.box_kept {row : Option Nat} (h : Two w1 b vI vS I S w) (h2 : Below w.heap.size w w2) (hg : w2.grownBy w3 row) (hr : row = vI.ownBlock ∨ row = vS.ownBlock) :
    w3.heap[w1.heap.size]? = some (.cells #[.int .i64 b, vI, vS] 38 (0, 0)) := by
  have hz := lt_of_get h.box
  rw [hg.block _ (Nat.lt_of_lt_of_le hz h2.size) (fun e => by
    rcases hr with e2 | e2
    · have := (own_lt h.oi (e2.symm.trans e.symm)).1; omega
    · have := (own_lt h.os (e2.symm.trans e.symm)).1; omega), h2.block _ hz]
  exact h.box
theorem ints_app (l m : List Int) : ints l ++ ints m = ints (l ++ m) := (List.map_append ..).symm
/-- Behind an append to the numbers. -/
theorem Two.addI (h : Two w1 b vI vS I S w) (h2 : Below w.heap.size w w2) (h3 : w3.ownsRow (w1.heap.size + 1) 3 1 v' (I ++ l).length (ints (I ++ l))) (hg : w2.grownBy w3 vI.ownBlock) (ha : v'.ownBlock = vI.ownBlock ∨ v'.ownBlock = some w2.heap.size) :
    Two w1 b v' vS (I ++ l) S (w3.setCell ⟨w1.heap.size, 1, none⟩ v') := by
  have hz := lt_of_get h.box
  have hI : ∀ k, vI.ownBlock = some k → w1.heap.size + 1 ≤ k := fun k hk => (own_lt h.oi hk).1
  have hbox : w3.heap[w1.heap.size]? = some (.cells #[.int .i64 b, vI, vS] 38 (0, 0)) := by
    rw [hg.block _ (Nat.lt_of_lt_of_le hz h2.size) (fun e => by have := hI _ e.symm; omega), h2.block _ hz]; exact h.box
  have hos : w3.ownsRow (w1.heap.size + 1) 3 1 vS S.length (ints S) := (h.os.kept (w' := w2) (row := none) ⟨h2.os, h2.tape, h2.output, h2.size, fun k hk _ => h2.block k hk⟩ (by
      cases h4 : vS.ownBlock with
      | none => exact .inl rfl
      | some k => exact .inr (by simp))).kept hg (by
    rcases h.apart with e | e
    · rw [e]
      cases h4 : vS.ownBlock with
      | none => exact .inl rfl
      | some k => exact .inr (by simp)
    · exact .inr (fun x => e x.symm))
  refine ⟨heap_setCell_same w3 _ 1 _ _ v' hbox, ownsRow_setCell_below h3 (Nat.lt_succ_self _) _, ownsRow_setCell_below hos (Nat.lt_succ_self _) _, ?_, ?_⟩
  · rcases ha with e | e
    · rw [e]; exact h.apart
    · right
      rw [e]
      intro e2
      have := (own_lt h.os e2.symm).2
      have := h2.size
      omega
  · exact ((h.low.trans (h2.mono (by omega))).grown hg (by have := h2.size; omega) (fun k hk => by have := hI k hk; omega)).setCell (Nat.le_refl _) _
/-- Behind an append to the sizes. -/
theorem Two.addS (h : Two w1 b vI vS I S w) (h2 : Below w.heap.size w w2) (h3 : w3.ownsRow (w1.heap.size + 1) 3 1 v' (S ++ l).length (ints (S ++ l))) (hg : w2.grownBy w3 vS.ownBlock) (ha : v'.ownBlock = vS.ownBlock ∨ v'.ownBlock = some w2.heap.size) :
    Two w1 b vI v' I (S ++ l) (w3.setCell ⟨w1.heap.size, 2, none⟩ v') := by
  have hz := lt_of_get h.box
  have hI : ∀ k, vS.ownBlock = some k → w1.heap.size + 1 ≤ k := fun k hk => (own_lt h.os hk).1
  have hbox : w3.heap[w1.heap.size]? = some (.cells #[.int .i64 b, vI, vS] 38 (0, 0)) := by
    rw [hg.block _ (Nat.lt_of_lt_of_le hz h2.size) (fun e => by have := hI _ e.symm; omega), h2.block _ hz]; exact h.box
  have hoi : w3.ownsRow (w1.heap.size + 1) 3 1 vI I.length (ints I) := (h.oi.kept (w' := w2) (row := none) ⟨h2.os, h2.tape, h2.output, h2.size, fun k hk _ => h2.block k hk⟩ (by
      cases h4 : vI.ownBlock with
      | none => exact .inl rfl
      | some k => exact .inr (by simp))).kept hg h.apart
  refine ⟨heap_setCell_same w3 _ 2 _ _ v' hbox, ownsRow_setCell_below hoi (Nat.lt_succ_self _) _, ownsRow_setCell_below h3 (Nat.lt_succ_self _) _, ?_, ?_⟩
  · rcases ha with e | e
    · rw [e]; exact h.apart
    · cases h4 : vI.ownBlock with
      | none => exact .inl rfl
      | some k =>
        right
        rw [e]
        intro e2
        injection e2 with e2
        have := (own_lt h.oi h4).2
        have := h2.size
        omega
  · exact ((h.low.trans (h2.mono (by omega))).grown hg (by have := h2.size; omega) (fun k hk => by have := hI k hk; omega)).setCell (Nat.le_refl _) _
end
/-- 'q.Ids = append(q.Ids, x)', the append as an equation. -/
theorem Two.one_I {w1 w : World} {b : Int} {vI vS : Value} {I S : List Int} (h : Two w1 b vI vS I S w) (x : Int) (hl : I.length ≤ 200000) :
    ∃ a m c w2, (Builtin.append_ #[36, 36] 36 #[vI, .slice (some ⟨w.heap.size, 0, none⟩) 1 1]).run Try.prog (w.alloc (.cells #[.int .i64 x] 3)) = .ok (.slice a m c) w2 ∧
      w2.heap[w1.heap.size]? = some (.cells #[.int .i64 b, vI, vS] 38 (0, 0)) ∧ Two w1 b (.slice a m c) vS (I ++ [x]) S (w2.setCell ⟨w1.heap.size, 1, none⟩ (.slice a m c)) ∧ Below w1.heap.size w w2 := by
  obtain ⟨inf, hi, hz, hsize, hby⟩ := info_parts infoInt
  have hal := (Below.refl w.heap.size w).alloc (Nat.le_refl _) (.cells #[.int .i64 x] 3)
  obtain ⟨v2, w2, hr, h1, h2, _, h4⟩ := run_append_own_at (P := Try.prog) (w.alloc (.cells #[.int .i64 x] 3)) (w1.heap.size + 1) 36 36 3 inf _ 1 8 Try.underlying36 hi hz hsize hby rfl (by decide) vI I.length (ints I) (h.oi.alloc _) ⟨w.heap.size, 0, none⟩ 1 1 [.int .i64 x] rfl (cell_one_new w (.int .i64 x) 3) (fun u hu => by
      rw [List.mem_singleton.1 hu]; rfl) (Nat.le_trans (Nat.succ_le_succ hl) (by decide)) (Nat.le_trans (Nat.mul_le_mul_right 8 (Nat.succ_le_succ hl)) (by decide)) (by have := lt_of_get h.box; have := hal.size; omega)
  obtain ⟨a, m, c, rfl⟩ := own_some h1
  have h1' : w2.ownsRow (w1.heap.size + 1) 3 1 (.slice a m c) (I ++ [x]).length (ints (I ++ [x])) := by simpa [ints] using h1
  refine ⟨a, m, c, w2, hr, h.box_kept hal h2 (.inl rfl), h.addI hal h1' h2 h4, ?_⟩
  exact (hal.mono (by have := lt_of_get h.box; omega)).grown h2 (by have := lt_of_get h.box; have := hal.size; omega) (fun k hk => by have := (own_lt h.oi hk).1; omega)
theorem Two.one_S {w1 w : World} {b : Int} {vI vS : Value} {I S : List Int} (h : Two w1 b vI vS I S w) (x : Int) (hl : S.length ≤ 200000) :
    ∃ a m c w2, (Builtin.append_ #[36, 36] 36 #[vS, .slice (some ⟨w.heap.size, 0, none⟩) 1 1]).run Try.prog (w.alloc (.cells #[.int .i64 x] 3)) = .ok (.slice a m c) w2 ∧
      w2.heap[w1.heap.size]? = some (.cells #[.int .i64 b, vI, vS] 38 (0, 0)) ∧ Two w1 b vI (.slice a m c) I (S ++ [x]) (w2.setCell ⟨w1.heap.size, 2, none⟩ (.slice a m c)) ∧ Below w1.heap.size w w2 := by
  obtain ⟨inf, hi, hz, hsize, hby⟩ := info_parts infoInt
  have hal := (Below.refl w.heap.size w).alloc (Nat.le_refl _) (.cells #[.int .i64 x] 3)
  obtain ⟨v2, w2, hr, h1, h2, _, h4⟩ := run_append_own_at (P := Try.prog) (w.alloc (.cells #[.int .i64 x] 3)) (w1.heap.size + 1) 36 36 3 inf _ 1 8 Try.underlying36 hi hz hsize hby rfl (by decide) vS S.length (ints S) (h.os.alloc _) ⟨w.heap.size, 0, none⟩ 1 1 [.int .i64 x] rfl (cell_one_new w (.int .i64 x) 3) (fun u hu => by
      rw [List.mem_singleton.1 hu]; rfl) (Nat.le_trans (Nat.succ_le_succ hl) (by decide)) (Nat.le_trans (Nat.mul_le_mul_right 8 (Nat.succ_le_succ hl)) (by decide)) (by have := lt_of_get h.box; have := hal.size; omega)
  obtain ⟨a, m, c, rfl⟩ := own_some h1
  have h1' : w2.ownsRow (w1.heap.size + 1) 3 1 (.slice a m c) (S ++ [x]).length (ints (S ++ [x])) := by simpa [ints] using h1
  refine ⟨a, m, c, w2, hr, h.box_kept hal h2 (.inr rfl), h.addS hal h1' h2 h4, ?_⟩
  exact (hal.mono (by have := lt_of_get h.box; omega)).grown h2 (by have := lt_of_get h.box; have := hal.size; omega) (fun k hk => by have := (own_lt h.os hk).1; omega)
theorem wp_append_run {P : Program} {o : Go.Oper} {a : Act} {w w2 : World} {K : Act → World → Prop} {Q : Exit → Act → World → Prop} {x y : Operand} {t ty : TypeId} {u v v2 : Value} (hr : (Builtin.append_ #[t, t] ty #[u, v]).run P w = .ok v2 w2)
    (ho : o = { dst := o.dst, op := .call { callee := .builtin .append, args := #[x, y], argTypes := #[t, t] }, type := ty, pos := o.pos, after := o.after, guard := o.guard }) (hx : a.eval x = u) (hy : a.eval y = v) (hK : K (a.put o.dst v2) w2) : o.wp P a w K Q := by
  unfold Oper.wp execOp
  have e1 : o.op = .call { callee := .builtin .append, args := #[x, y], argTypes := #[t, t] } := by rw [ho]
  have e2 : o.type = ty := by rw [ho]
  simp only [e1, e2, resolve, invoke, builtin, Sem.run_bind, Sem.run_pure, Result.andThen_ok, List.map_toArray, List.map_cons, List.map_nil, hx, hy, hr]
  exact hK
/-- One place left out. -/
theorem erase_next {l : List Int} {k m : Nat} (hk : k < l.length) (hne : k ≠ m) : (l.take (k + 1)).eraseIdx m = (l.take k).eraseIdx m ++ [l[k]] := by
  rw [List.take_succ_eq_append_getElem hk]
  by_cases h : m < k
  · rw [List.eraseIdx_append_of_lt_length (by rw [List.length_take]; omega)]
  · rw [List.eraseIdx_of_length_le (by rw [List.length_append, List.length_take]; simp; omega), List.eraseIdx_of_length_le (by rw [List.length_take]; omega)]
theorem erase_here {l : List Int} {k : Nat} (hk : k < l.length) : (l.take (k + 1)).eraseIdx k = (l.take k).eraseIdx k := by
  rw [List.take_succ_eq_append_getElem hk, List.eraseIdx_append_of_length_le (by rw [List.length_take]; omega)]
  rw [List.length_take, show k - min k l.length = 0 by omega, List.eraseIdx_of_length_le (l := l.take k) (by rw [List.length_take]; omega)]
  simp
end Go.Proofs.Ytpfhaafaoedgpaa.Pl
