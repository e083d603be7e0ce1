/-
  Layer 9: stmtFits.
-/
import Derived.Test.YtnnjkejejlhkdaaDoorRtSt
import Derived.StillTailTactics
import Derived.Deep.RegionHeld3
namespace Go.Proofs.YtnnjkejejlhkdaaDoor.Rt
open Go Go.RowKit

def rowsG : Nat := 0
def rowsCells : List Value := rowsT.flatMap fun r => (rowCells r).toList
/-- What the table of the kinds' rows holds. -/
def RowsTab (w : World) : Prop := ∃ Ty fr, w.heap[rowsG]? = some (.cells rowsCells.toArray Ty fr)
theorem RowsTab.below {w w' : World} (h : RowsTab w) (hb : Below w.heap.size w w') : RowsTab w' := by
  obtain ⟨Ty, fr, h⟩ := h
  exact ⟨Ty, fr, at_below h hb⟩
theorem row_part (k : Nat) (h : k < 12) : (rowsCells.drop (k * 8)).take 8 = (rowCells (rowOf k)).toList := by
  match k, h with
  | 0, _ => rfl
  | 1, _ => rfl
  | 2, _ => rfl
  | 3, _ => rfl
  | 4, _ => rfl
  | 5, _ => rfl
  | 6, _ => rfl
  | 7, _ => rfl
  | 8, _ => rfl
  | 9, _ => rfl
  | 10, _ => rfl
  | 11, _ => rfl
theorem RowsTab.cell {w : World} (h : RowsTab w) {k : Nat} (hk : k < 12) (j : Nat) (hj : j < 8) (v : Value) (hv : (rowCells (rowOf k))[j]? = some v) : w.cell? ⟨rowsG, k * 8 + j, none⟩ = some v := by
  obtain ⟨Ty, fr, h⟩ := h
  refine cell_of h _ _ ?_
  have e := row_part k hk
  have e2 : ((rowsCells.drop (k * 8)).take 8)[j]? = rowsCells[k * 8 + j]? := by
    rw [List.getElem?_take_of_lt hj, List.getElem?_drop]
  rw [e, Array.getElem?_toList, hv] at e2
  rw [List.getElem?_toArray]
  exact e2.symm

def StAt (b : Nat) (s : St) (vs vt ve : Value) (w : World) : Prop := w.heap[b]? = some (.cells (stCells s vs vt ve) 44 (0, 0))
/-- What stands while a statement is asked. -/
structure Hold (w0 : World) (F : Nat) (f : Pr) (strs protos bs br bt bf : Nat) (s : St) (vs vt ve : Value) (r : Row) (w : World) : Prop where
  fn : FnAt F f strs protos w
  st : StAt bs s vs vt ve w
  row : RowAt br r w
  ofs : OfAt bt bf F [8, 9, 10, 11] w
  ls : LstB w.heap.size w vs (ints s.slots)
  lt : LstB w.heap.size w vt (ints s.targets)
  le : LstB w.heap.size w ve (ints s.exprs)
  low : Below w0.heap.size w0 w
theorem Hold.below {w0 : World} {F : Nat} {f : Pr} {strs protos bs br bt bf : Nat} {s : St} {vs vt ve : Value} {r : Row} {w w' : World} (h : Hold w0 F f strs protos bs br bt bf s vs vt ve r w) (hb : Below w.heap.size w w') : Hold w0 F f strs protos bs br bt bf s vs vt ve r w' :=
  ⟨h.fn.below hb, at_below h.st hb, at_below h.row hb, h.ofs.below hb, (h.ls.below hb).mono hb.size, (h.lt.below hb).mono hb.size, (h.le.below hb).mono hb.size, h.low.trans (hb.mono h.low.size)⟩

set_option maxHeartbeats 8000000 in
set_option maxRecDepth 100000 in
theorem stmt_no (F : Nat) (s : St) (vs vt ve : Value) (w : World) (hs : ∃ a n c, vs = .slice a n c) (ht : ∃ a n c, vt = .slice a n c) (hv : ∃ a n c, ve = .slice a n c) (h : s.k < 1 ∨ 11 < s.k ∨ s.line < 1) (i : Int) :
    Calls Tryd.prog 29 #[.pointer (some ⟨F, 0, none⟩), .int .i64 i, .agg (stCells s vs vt ve)] w fun e w' => e = .returned (.bool false) ∧ Below w.heap.size w w' := by
  obtain ⟨a0, n0, c0, rfl⟩ := hs
  obtain ⟨a1, n1, c1, rfl⟩ := ht
  obtain ⟨a2, n2, c2, rfl⟩ := hv
  obtain ⟨k, sl, tg, xs, nx, el, ln⟩ := s
  dsimp only at h
  unfold stCells
  dsimp only
  by_cases h1 : k < 1
  · obtain rfl : k = 0 := by omega
    go_enter Tryd.func29, Tryd.ntmps29
    go_wp2_with fail
    go_ret
    exact ⟨rfl, (Below.refl _ _).alloc (Nat.le_refl _) _⟩
  have h1' : ¬ (k : Int) < 1 := by omega
  by_cases h2 : 11 < k
  · have h2' : (11 : Int) < k := by omega
    go_enter Tryd.func29, Tryd.ntmps29
    go_wp2_with fail
    go_ret
    exact ⟨rfl, (Below.refl _ _).alloc (Nat.le_refl _) _⟩
  have h2' : ¬ (11 : Int) < k := by omega
  have h3 : ln < 1 := by omega
  go_enter Tryd.func29, Tryd.ntmps29
  go_wp2_with fail
  go_ret
  exact ⟨rfl, (Below.refl _ _).alloc (Nat.le_refl _) _⟩

end Go.Proofs.YtnnjkejejlhkdaaDoor.Rt
