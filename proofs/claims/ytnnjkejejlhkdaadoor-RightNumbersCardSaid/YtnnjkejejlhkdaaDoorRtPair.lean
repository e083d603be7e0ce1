/-
  Layer 9: the pair of functions of the examples, as it is made.
-/
import Derived.Test.YtnnjkejejlhkdaaDoorRtAwake
import Derived.Test.YtnnjkejejlhkdaaDoorRtPairM
namespace Go.Proofs.YtnnjkejejlhkdaaDoor.Rt
open Go Go.RowKit

def xStmtC (q : Nat) : Array Value := #[.int .u8 9, sl (q + 2) 1, nilS, sl (q + 3) 1, .int .i64 (-1), .int .i64 0, .int .i64 1]
def xExprC : Array Value := #[.int .u8 7, .int .i64 1, nilS]
def yStmtC (q : Nat) : Array Value := #[.int .u8 10, nilS, nilS, sl (q + 8) 1, .int .i64 (-1), .int .i64 0, .int .i64 1]
def yExprC : Array Value := #[.int .u8 9, .int .i64 0, nilS]
def xyC (q : Nat) : Array Value := #[.int .i64 0, .bool true, .int .i64 2, sl (q + 1) 2, nilS, sl (q + 4) 1, sl (q + 5) 1, .int .i64 0, .int .i64 1, .bool false, .int .i64 1, sl (q + 6) 1, sl (q + 7) 1, sl (q + 9) 1, sl (q + 10) 1, .int .i64 0]
/-- The pair's blocks, behind q; seven of them hold what they are said to hold. -/
structure PairAt (q : Nat) (c1 c4 c5 c7 c9 c10 c11 : Array Value) (w : World) : Prop where
  b1 : w.heap[q + 1]? = some (.cells c1 4 (0, 0))
  b2 : w.heap[q + 2]? = some (.cells #[.int .i64 1] 3 (0, 0))
  b3 : w.heap[q + 3]? = some (.cells #[.int .i64 0] 3 (0, 0))
  b4 : w.heap[q + 4]? = some (.cells c4 44 (0, 0))
  b5 : w.heap[q + 5]? = some (.cells c5 41 (0, 0))
  b6 : w.heap[q + 6]? = some (.cells #[.bool false] 4 (0, 0))
  b7 : w.heap[q + 7]? = some (.cells c7 37 (0, 0))
  b8 : w.heap[q + 8]? = some (.cells #[.int .i64 0] 3 (0, 0))
  b9 : w.heap[q + 9]? = some (.cells c9 44 (0, 0))
  b10 : w.heap[q + 10]? = some (.cells c10 41 (0, 0))
  b11 : w.heap[q + 11]? = some (.cells c11 35 (0, 0))
theorem PairAt.below {q : Nat} {c1 c4 c5 c7 c9 c10 c11 : Array Value} {w w' : World} (h : PairAt q c1 c4 c5 c7 c9 c10 c11 w) (hb : Below w.heap.size w w') : PairAt q c1 c4 c5 c7 c9 c10 c11 w' :=
  ⟨at_below h.b1 hb, at_below h.b2 hb, at_below h.b3 hb, at_below h.b4 hb, at_below h.b5 hb, at_below h.b6 hb, at_below h.b7 hb, at_below h.b8 hb, at_below h.b9 hb, at_below h.b10 hb, at_below h.b11 hb⟩

/-- A program of two functions, from their rows. -/
theorem two_pg {w : World} {g : Nat} {vs : Value} {strs : List ByteArray} {xc yc : Array Value} {x y : Pr} (hs : LstB w.heap.size w vs (texts strs)) (h : w.heap[g]? = some (.cells (xc.toList ++ yc.toList).toArray 35 (0, 0))) (hx : PrC w.heap.size w xc x) (hy : PrC w.heap.size w yc y) : PgV w.heap.size w (.agg #[vs, sl g 2]) ⟨strs, [x, y]⟩ := by
  have sx : xc.size = 8 := by obtain ⟨_, _, _, _, rfl, _⟩ := hx; rfl
  have sy : yc.size = 8 := by obtain ⟨_, _, _, _, rfl, _⟩ := hy; rfl
  refine ⟨_, _, rfl, hs, rows_of (l := [x, y]) (T := 35) [xc, yc] (by rw [h]; simp) (fun cs hc => ?_) rfl (show 2 ≤ 9223372036854775807 by decide) (fun i hi _ => ?_)⟩
  · simp only [List.mem_cons, List.not_mem_nil, or_false] at hc
    rcases hc with rfl | rfl
    · exact sx
    · exact sy
  · match i, hi with
    | 0, _ => exact hx
    | 1, _ => exact hy

set_option maxHeartbeats 4000000 in
set_option maxRecDepth 100000 in
theorem pair_fn (w : World) : Calls Tryd.prog 5 #[] w fun e w' => e = .returned (.agg #[nilS, sl (w.heap.size + 11) 2]) ∧ PairAt w.heap.size #[.bool true, .bool false] (xStmtC w.heap.size) xExprC #[.bool true, .int .i64 0] (yStmtC w.heap.size) yExprC (xyC w.heap.size) w' ∧ Below w.heap.size w w' ∧ w'.heap.size = w.heap.size + 12 := by
  obtain ⟨q, hq⟩ : ∃ q, q = w.heap.size := ⟨_, rfl⟩
  obtain ⟨h1, h2, h3⟩ := grows w [.cells #[nilS, sl (q + 11) 2] 26, .cells #[.bool true, .bool false] 4, .cells #[.int .i64 1] 3, .cells #[.int .i64 0] 3, .cells (xStmtC q) 44, .cells xExprC 41, .cells #[.bool false] 4, .cells #[.bool true, .int .i64 0] 37, .cells #[.int .i64 0] 3, .cells (yStmtC q) 44, .cells yExprC 41, .cells (xyC q) 35] _ rfl
  rw [← hq] at h3 ⊢
  have hT : PairAt q #[.bool true, .bool false] (xStmtC q) xExprC #[.bool true, .int .i64 0] (yStmtC q) yExprC (xyC q) _ := ⟨h3 1 (by simp), h3 2 (by simp), h3 3 (by simp), h3 4 (by simp), h3 5 (by simp), h3 6 (by simp), h3 7 (by simp), h3 8 (by simp), h3 9 (by simp), h3 10 (by simp), h3 11 (by simp)⟩
  have H := Lib.hid (show _ ∧ _ ∧ _ from ⟨hT, h1, h2⟩)
  clear h1 h2 h3 hT
  subst hq
  go_enter Tryd.func5, Tryd.ntmps5
  go_wp2_with fail
  refine bodyPost_ret (v := .agg #[nilS, sl (w.heap.size + 11) 2]) ?_ rfl ?_
  · simp [results, Tryd.results5, go_sem, nilS, sl]
  · exact ⟨rfl, H.out.1, H.out.2.1, H.out.2.2⟩

end Go.Proofs.YtnnjkejejlhkdaaDoor.Rt
