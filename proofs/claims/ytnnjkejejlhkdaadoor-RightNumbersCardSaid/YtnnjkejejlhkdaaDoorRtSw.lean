/-
  Layer 9: what a round of the loop of spoilt pairs begins and ends with.
-/
import Derived.Test.YtnnjkejejlhkdaaDoorRtSp
import Derived.Deep.RegionHeld3
import Derived.Deep.CutBlock
import Derived.Deep.DeepCutAuto
import Derived.Deep.LoopGhost
namespace Go.Proofs.YtnnjkejejlhkdaaDoor.Rt
open Go Go.RowKit

def spoiltsP (k : Nat) : List Pg := (List.range k).map spoiltP
theorem spoilts_len (k : Nat) : (spoiltsP k).length = k := by simp [spoiltsP]
theorem spoilts_succ (k : Nat) : spoiltsP (k + 1) = spoiltsP k ++ [spoiltP k] := by simp [spoiltsP, List.range_succ]

/-- The cells of a pair that are read, or stored into. -/
theorem PairAt.cells {q : Nat} {w : World} (h : PairAt q #[.bool true, .bool false] (xStmtC q) xExprC #[.bool true, .int .i64 0] (yStmtC q) yExprC (xyC q) w) :
    w.cell? ⟨q + 11, 3, none⟩ = some (.slice (some ⟨q + 1, 0, none⟩) 2 2) ∧ w.cell? ⟨q + 11, 5, none⟩ = some (.slice (some ⟨q + 4, 0, none⟩) 1 1) ∧ w.cell? ⟨q + 11, 6, none⟩ = some (.slice (some ⟨q + 5, 0, none⟩) 1 1) ∧ w.cell? ⟨q + 11, 12, none⟩ = some (.slice (some ⟨q + 7, 0, none⟩) 1 1) ∧ w.cell? ⟨q + 11, 13, none⟩ = some (.slice (some ⟨q + 9, 0, none⟩) 1 1) ∧ w.cell? ⟨q + 11, 14, none⟩ = some (.slice (some ⟨q + 10, 0, none⟩) 1 1) :=
  ⟨cell_of h.b11 3 _ rfl, cell_of h.b11 5 _ rfl, cell_of h.b11 6 _ rfl, cell_of h.b11 12 _ rfl, cell_of h.b11 13 _ rfl, cell_of h.b11 14 _ rfl⟩
theorem PairAt.has {q : Nat} {w : World} (h : PairAt q #[.bool true, .bool false] (xStmtC q) xExprC #[.bool true, .int .i64 0] (yStmtC q) yExprC (xyC q) w) :
    w.cell? ⟨q + 1, 0, none⟩ = some (.bool true) ∧ w.cell? ⟨q + 7, 0, none⟩ = some (.bool true) ∧ w.cell? ⟨q + 7, 1, none⟩ = some (.int .i64 0) ∧ w.cell? ⟨q + 5, 1, none⟩ = some (.int .i64 1) ∧ w.cell? ⟨q + 11, 8, none⟩ = some (.int .i64 1) ∧ w.cell? ⟨q + 11, 0, none⟩ = some (.int .i64 0) ∧ w.cell? ⟨q + 11, 1, none⟩ = some (.bool true) ∧ w.cell? ⟨q + 11, 15, none⟩ = some (.int .i64 0) ∧ w.cell? ⟨q + 9, 4, none⟩ = some (.int .i64 (-1)) ∧ w.cell? ⟨q + 10, 0, none⟩ = some (.int .u8 9) ∧ w.cell? ⟨q + 10, 1, none⟩ = some (.int .i64 0) ∧ w.cell? ⟨q + 4, 5, none⟩ = some (.int .i64 0) :=
  ⟨cell_of h.b1 0 _ rfl, cell_of h.b7 0 _ rfl, cell_of h.b7 1 _ rfl, cell_of h.b5 1 _ rfl, cell_of h.b11 8 _ rfl, cell_of h.b11 0 _ rfl, cell_of h.b11 1 _ rfl, cell_of h.b11 15 _ rfl, cell_of h.b9 4 _ rfl, cell_of h.b10 0 _ rfl, cell_of h.b10 1 _ rfl, cell_of h.b4 5 _ rfl⟩
theorem PairAt.free {q : Nat} {c1 c4 c5 c7 c9 c10 c11 : Array Value} {w : World} (h : PairAt q c1 c4 c5 c7 c9 c10 c11 w) :
    (∀ j, w.frozen? ⟨q + 1, j, none⟩ = false) ∧ (∀ j, w.frozen? ⟨q + 4, j, none⟩ = false) ∧ (∀ j, w.frozen? ⟨q + 5, j, none⟩ = false) ∧ (∀ j, w.frozen? ⟨q + 7, j, none⟩ = false) ∧ (∀ j, w.frozen? ⟨q + 9, j, none⟩ = false) ∧ (∀ j, w.frozen? ⟨q + 10, j, none⟩ = false) ∧ ∀ j, w.frozen? ⟨q + 11, j, none⟩ = false :=
  ⟨fun j => frozen_of_row w _ j _ _ h.b1, fun j => frozen_of_row w _ j _ _ h.b4, fun j => frozen_of_row w _ j _ _ h.b5, fun j => frozen_of_row w _ j _ _ h.b7, fun j => frozen_of_row w _ j _ _ h.b9, fun j => frozen_of_row w _ j _ _ h.b10, fun j => frozen_of_row w _ j _ _ h.b11⟩

/-- What a round's switch leaves. -/
def Spoils (B q : Nat) (o : Option Nat) (w0 w : World) (p : Pg) : Prop :=
  ∃ vs vp : Value, w.heap[q + 12]? = some (.cells #[vs, vp] 26 (0, 0)) ∧ Firm o w (.agg #[vs, vp]) p ∧ Below B w0 w ∧ vs.oneCell' = true ∧ vp.oneCell' = true
theorem spoils_set {q b j : Nat} {o : Option Nat} {w0 w : World} {p : Pg} {v : Value} {c1 c4 c5 c7 c9 c10 c11 : Array Value} (hp : w.heap[q + 12]? = some (.cells #[nilS, sl (q + 11) 2] 26 (0, 0))) (hb : Below q w0 w) (hj : q + 1 ≤ b ∧ b < q + 12) (h : PairAt q c1 c4 c5 c7 c9 c10 c11 (w.setCell ⟨b, j, none⟩ v)) (ho : ∀ k, o = some k → k ≤ q) (pg : ∀ {w'}, PairAt q c1 c4 c5 c7 c9 c10 c11 w' → PgV w'.heap.size w' (.agg #[nilS, sl (q + 11) 2]) p) : Spoils q q o w0 (w.setCell ⟨b, j, none⟩ v) p :=
  ⟨nilS, sl (q + 11) 2, (heap_setCell_other w ⟨b, j, none⟩ _ v (by show q + 12 ≠ b; omega)).trans hp, h.firm ho pg, hb.setCell (by show q ≤ b; omega) _, rfl, rfl⟩

theorem pair_at (w : World) (q : Nat) (hq : q = w.heap.size) : Calls Tryd.prog 5 #[] w fun e w' => e = .returned (.agg #[.slice none 0 0, .slice (some ⟨q + 11, 0, none⟩) 2 2]) ∧ PairAt q #[.bool true, .bool false] (xStmtC q) xExprC #[.bool true, .int .i64 0] (yStmtC q) yExprC (xyC q) w' ∧ Below q w w' ∧ w'.heap.size = q + 12 := by
  subst hq
  exact pair_fn w

def Start (q : Nat) (w0 w : World) : Prop :=
  (PairAt q #[.bool true, .bool false] (xStmtC q) xExprC #[.bool true, .int .i64 0] (yStmtC q) yExprC (xyC q) w ∧ w.heap[q + 12]? = some (.cells #[nilS, sl (q + 11) 2] 26 (0, 0))) ∧ Below q w0 w ∧ w.heap.size = q + 13
def findBlk (n : Nat) : Code → Option Code
  | .seq a b => match findBlk n a with
    | some r => some r
    | none => findBlk n b
  | .block k c => if k = n then some (.block k c) else findBlk n c
  | .loop c => findBlk n c
  | .scope c => findBlk n c
  | .cond _ a b => match findBlk n a with
    | some r => some r
    | none => findBlk n b
  | _ => none
theorem at_set {w : World} {b j k : Nat} {v : Value} {x : Obj} (h : w.heap[k]? = some x) (hn : k ≠ b) : (w.setCell ⟨b, j, none⟩ v).heap[k]? = some x := (heap_setCell_other w ⟨b, j, none⟩ k v hn).trans h
theorem PairAt.far {q : Nat} {c1 c4 c5 c7 c9 c10 c11 : Array Value} {w : World} (h : PairAt q c1 c4 c5 c7 c9 c10 c11 w) {b j : Nat} (v : Value) (hf : q + 11 < b) : PairAt q c1 c4 c5 c7 c9 c10 c11 (w.setCell ⟨b, j, none⟩ v) :=
  ⟨at_set h.b1 (by omega), at_set h.b2 (by omega), at_set h.b3 (by omega), at_set h.b4 (by omega), at_set h.b5 (by omega), at_set h.b6 (by omega), at_set h.b7 (by omega), at_set h.b8 (by omega), at_set h.b9 (by omega), at_set h.b10 (by omega), at_set h.b11 (by omega)⟩
theorem new_at {w : World} {n : Nat} (x : Obj) (h : w.heap.size = n) : (w.alloc x).heap[n]? = some x := by
  subst h
  exact new_block w x
theorem size_set {w : World} {n : Nat} {a : Addr} {v : Value} (h : w.heap.size = n) : (w.setCell a v).heap.size = n := by simpa using h
theorem size_grow {w : World} {n : Nat} (x : Obj) (h : w.heap.size = n) : (w.alloc x).heap.size = n + 1 := by simp [h]
theorem grow_at {w : World} {k : Nat} {x : Obj} (y : Obj) (h : w.heap[k]? = some x) : (w.alloc y).heap[k]? = some x := at_below h ((Below.refl _ _).alloc (Nat.le_refl _) y)
theorem PairAt.grow {q : Nat} {c1 c4 c5 c7 c9 c10 c11 : Array Value} {w : World} (h : PairAt q c1 c4 c5 c7 c9 c10 c11 w) (y : Obj) : PairAt q c1 c4 c5 c7 c9 c10 c11 (w.alloc y) := h.below ((Below.refl _ _).alloc (Nat.le_refl _) y)
noncomputable def swCode : Code := ((Tryd.f3.body).bind (findBlk 2)).getD .skip

end Go.Proofs.YtnnjkejejlhkdaaDoor.Rt
