/-
  Layer 9: that the chapter's examples come out as written.
-/
import Derived.Test.YtnnjkejejlhkdaaDoorRtText
namespace Go.Proofs.YtnnjkejejlhkdaaDoor.Rt
open Go Go.RowKit

theorem TextAt.far {q : Nat} {next slots n1 : Int} {ex1 : Value} {w : World} (h : TextAt q next slots ex1 n1 w) {g j : Nat} (v : Value) (hf : g < q + 1 ∨ q + 10 < g) : TextAt q next slots ex1 n1 (w.setCell ⟨g, j, none⟩ v) :=
  h.same fun b h1 h2 => heap_setCell_other w ⟨g, j, none⟩ b v (by show b ≠ g; omega)
theorem TextAt.next {q : Nat} {next slots n1 : Int} {ex1 : Value} {w : World} (h : TextAt q next slots ex1 n1 w) (x : Int) : TextAt q x slots ex1 n1 (w.setCell ⟨q + 7, 4, none⟩ (.int .i64 x)) := by
  have o : ∀ b, b ≠ q + 7 → (w.setCell ⟨q + 7, 4, none⟩ (.int .i64 x)).heap[b]? = w.heap[b]? := fun b hb => heap_setCell_other w ⟨q + 7, 4, none⟩ b _ hb
  exact ⟨(o _ (by omega)).trans h.b1, (o _ (by omega)).trans h.b2, (o _ (by omega)).trans h.b3, (o _ (by omega)).trans h.b4, (o _ (by omega)).trans h.b5, (o _ (by omega)).trans h.b6, heap_setCell_same w _ 4 _ _ _ h.b7, (o _ (by omega)).trans h.b8, (o _ (by omega)).trans h.b9, (o _ (by omega)).trans h.b10⟩
theorem TextAt.ex1 {q : Nat} {next slots n1 : Int} {ex1 : Value} {w : World} (h : TextAt q next slots ex1 n1 w) (x : Value) : TextAt q next slots x n1 (w.setCell ⟨q + 7, 10, none⟩ x) := by
  have o : ∀ b, b ≠ q + 7 → (w.setCell ⟨q + 7, 10, none⟩ x).heap[b]? = w.heap[b]? := fun b hb => heap_setCell_other w ⟨q + 7, 10, none⟩ b _ hb
  exact ⟨(o _ (by omega)).trans h.b1, (o _ (by omega)).trans h.b2, (o _ (by omega)).trans h.b3, (o _ (by omega)).trans h.b4, (o _ (by omega)).trans h.b5, (o _ (by omega)).trans h.b6, heap_setCell_same w _ 10 _ _ _ h.b7, (o _ (by omega)).trans h.b8, (o _ (by omega)).trans h.b9, (o _ (by omega)).trans h.b10⟩
theorem TextAt.n1 {q : Nat} {next slots n1 : Int} {ex1 : Value} {w : World} (h : TextAt q next slots ex1 n1 w) (x : Int) : TextAt q next slots ex1 x (w.setCell ⟨q + 9, 4, none⟩ (.int .i64 x)) := by
  have o : ∀ b, b ≠ q + 9 → (w.setCell ⟨q + 9, 4, none⟩ (.int .i64 x)).heap[b]? = w.heap[b]? := fun b hb => heap_setCell_other w ⟨q + 9, 4, none⟩ b _ hb
  exact ⟨(o _ (by omega)).trans h.b1, (o _ (by omega)).trans h.b2, (o _ (by omega)).trans h.b3, (o _ (by omega)).trans h.b4, (o _ (by omega)).trans h.b5, (o _ (by omega)).trans h.b6, (o _ (by omega)).trans h.b7, (o _ (by omega)).trans h.b8, heap_setCell_same w _ 4 _ _ _ h.b9, (o _ (by omega)).trans h.b10⟩
theorem TextAt.slots {q : Nat} {next slots n1 : Int} {ex1 : Value} {w : World} (h : TextAt q next slots ex1 n1 w) (x : Int) : TextAt q next x ex1 n1 (w.setCell ⟨q + 10, 2, none⟩ (.int .i64 x)) := by
  have o : ∀ b, b ≠ q + 10 → (w.setCell ⟨q + 10, 2, none⟩ (.int .i64 x)).heap[b]? = w.heap[b]? := fun b hb => heap_setCell_other w ⟨q + 10, 2, none⟩ b _ hb
  exact ⟨(o _ (by omega)).trans h.b1, (o _ (by omega)).trans h.b2, (o _ (by omega)).trans h.b3, (o _ (by omega)).trans h.b4, (o _ (by omega)).trans h.b5, (o _ (by omega)).trans h.b6, (o _ (by omega)).trans h.b7, (o _ (by omega)).trans h.b8, (o _ (by omega)).trans h.b9, heap_setCell_same w _ 2 _ _ _ h.b10⟩

def BoxAt (b q : Nat) (w : World) : Prop := w.heap[b]? = some (.cells #[sl (q + 1) 1, sl (q + 10) 1] 26 (0, 0))
theorem BoxAt.far {b q : Nat} {w : World} (h : BoxAt b q w) {g j : Nat} (v : Value) (hf : b ≠ g) : BoxAt b q (w.setCell ⟨g, j, none⟩ v) := (heap_setCell_other w ⟨g, j, none⟩ b v hf).trans h
/-- Four texts, each in its own blocks, and a box for each. -/
structure Four (w0 : World) (q : Nat) (na sb : Int) (exc : Value) (nd : Int) (w : World) : Prop where
  ta : TextAt q na 1 (sl (q + 6) 1) 0 w
  tb : TextAt (q + 11) 1 sb (sl (q + 11 + 6) 1) 0 w
  tc : TextAt (q + 22) 1 1 exc 0 w
  td : TextAt (q + 33) 1 1 (sl (q + 33 + 6) 1) nd w
  pa : BoxAt (q + 44) q w
  pb : BoxAt (q + 44 + 1) (q + 11) w
  pc : BoxAt (q + 44 + 1 + 1) (q + 22) w
  pd : BoxAt (q + 44 + 1 + 1 + 1) (q + 33) w
  low : Below w0.heap.size w0 w
  hq : w0.heap.size = q
theorem Four.below {w0 : World} {q : Nat} {na sb nd : Int} {exc : Value} {w w' : World} (h : Four w0 q na sb exc nd w) (hb : Below w.heap.size w w') : Four w0 q na sb exc nd w' :=
  ⟨h.ta.below hb, h.tb.below hb, h.tc.below hb, h.td.below hb, at_below h.pa hb, at_below h.pb hb, at_below h.pc hb, at_below h.pd hb, h.low.trans (hb.mono h.low.size), h.hq⟩
theorem Four.setA {w0 : World} {q : Nat} {na sb nd : Int} {exc : Value} {w : World} (h : Four w0 q na sb exc nd w) (x : Int) : Four w0 q x sb exc nd (w.setCell ⟨q + 7, 4, none⟩ (.int .i64 x)) :=
  ⟨h.ta.next x, h.tb.far _ (by omega), h.tc.far _ (by omega), h.td.far _ (by omega), h.pa.far _ (by omega), h.pb.far _ (by omega), h.pc.far _ (by omega), h.pd.far _ (by omega), h.low.setCell (by show w0.heap.size ≤ q + 7; have := h.hq; omega) _, h.hq⟩
theorem Four.setB {w0 : World} {q : Nat} {na sb nd : Int} {exc : Value} {w : World} (h : Four w0 q na sb exc nd w) (x : Int) : Four w0 q na x exc nd (w.setCell ⟨q + 11 + 10, 2, none⟩ (.int .i64 x)) :=
  ⟨h.ta.far _ (by omega), h.tb.slots x, h.tc.far _ (by omega), h.td.far _ (by omega), h.pa.far _ (by omega), h.pb.far _ (by omega), h.pc.far _ (by omega), h.pd.far _ (by omega), h.low.setCell (by show w0.heap.size ≤ q + 11 + 10; have := h.hq; omega) _, h.hq⟩
theorem Four.setC {w0 : World} {q : Nat} {na sb nd : Int} {exc : Value} {w : World} (h : Four w0 q na sb exc nd w) (x : Value) : Four w0 q na sb x nd (w.setCell ⟨q + 22 + 7, 10, none⟩ x) :=
  ⟨h.ta.far _ (by omega), h.tb.far _ (by omega), h.tc.ex1 x, h.td.far _ (by omega), h.pa.far _ (by omega), h.pb.far _ (by omega), h.pc.far _ (by omega), h.pd.far _ (by omega), h.low.setCell (by show w0.heap.size ≤ q + 22 + 7; have := h.hq; omega) _, h.hq⟩
theorem Four.setD {w0 : World} {q : Nat} {na sb nd : Int} {exc : Value} {w : World} (h : Four w0 q na sb exc nd w) (x : Int) : Four w0 q na sb exc x (w.setCell ⟨q + 33 + 9, 4, none⟩ (.int .i64 x)) :=
  ⟨h.ta.far _ (by omega), h.tb.far _ (by omega), h.tc.far _ (by omega), h.td.n1 x, h.pa.far _ (by omega), h.pb.far _ (by omega), h.pc.far _ (by omega), h.pd.far _ (by omega), h.low.setCell (by show w0.heap.size ≤ q + 33 + 9; have := h.hq; omega) _, h.hq⟩

theorem good : rightB (textP 1 1 [4] 0) = true := by decide +kernel
theorem good0 : protoB (textP 1 1 [4] 0) 0 = true := by decide +kernel
theorem bad1 : protoB (textP 1 1 [4] 0) 1 = false := by decide +kernel
theorem badA : rightB (textP 2 1 [4] 0) = false := by decide +kernel
theorem badB : rightB (textP 1 0 [4] 0) = false := by decide +kernel
theorem badC : rightB (textP 1 1 [4, 4] 0) = false := by decide +kernel
theorem badD : rightB (textP 1 1 [4] 1) = false := by decide +kernel

theorem right_text {q : Nat} {next slots n1 : Int} {ex1 : Value} {exl : List Int} {w : World} {z : Bool} (h : TextAt q next slots ex1 n1 w) (he : LstB w.heap.size w ex1 (ints exl)) (hn : In64 next) (hs : In64 slots) (h1 : In64 n1) (hx : ∀ c ∈ exl, In64 c) (hR : RowsTab w) (hz : rightB (textP next slots exl n1) = z) :
    Calls Tryd.prog 4 #[.agg #[.slice (some ⟨q + 1, 0, none⟩) 1 1, .slice (some ⟨q + 10, 0, none⟩) 1 1]] w fun e w' => e = .returned (.bool z) ∧ Below w.heap.size w w' := by
  have c := right_fn (textV q) _ w (h.pg he hn hs h1 hx) hR
  rw [hz] at c
  exact c
theorem d64 (x : Int) (h : -9223372036854775808 ≤ x ∧ x ≤ 9223372036854775807) : In64 x := h
theorem lst_own {q : Nat} {next slots n1 : Int} {ex1 : Value} {w : World} (h : TextAt q next slots ex1 n1 w) : LstB w.heap.size w (sl (q + 6) 1) (ints [4]) := lst_of (vs := [.int .i64 4]) h.b6 (by unfold Len; decide)
theorem in_one {x : Int} (h : In64 x) : ∀ c ∈ [x], In64 c := fun c hc => by rw [List.mem_singleton.1 hc]; exact h

theorem proto_text {q : Nat} {w : World} {n : Int} {z : Bool} (h : TextAt q 1 1 (sl (q + 6) 1) 0 w) (hR : RowsTab w) (hz : protoB (textP 1 1 [4] 0) n = z) :
    Calls Tryd.prog 10 #[.agg #[.slice (some ⟨q + 1, 0, none⟩) 1 1, .slice (some ⟨q + 10, 0, none⟩) 1 1], .int .i64 n] w fun e w' => e = .returned (.bool z) ∧ Below w.heap.size w w' := by
  have c := proto_fn w.heap.size (textV q) _ n w (h.pg (lst_own h) ⟨by decide, by decide⟩ ⟨by decide, by decide⟩ ⟨by decide, by decide⟩ (in_one ⟨by decide, by decide⟩)) (Nat.le_refl _) hR
  rw [hz] at c
  exact c
theorem text_at (w : World) (q : Nat) (hq : w.heap.size = q) : Calls Tryd.prog 6 #[] w fun e w' => e = .returned (.agg #[.slice (some ⟨q + 1, 0, none⟩) 1 1, .slice (some ⟨q + 10, 0, none⟩) 1 1]) ∧ TextAt q 1 1 (sl (q + 6) 1) 0 w' ∧ Below w.heap.size w w' ∧ w'.heap.size = q + 11 := by
  subst hq; exact text_fn w

/-- The cells of a text that are read, or stored into. -/
theorem TextAt.cells {q : Nat} {next slots n1 : Int} {ex1 : Value} {w : World} (h : TextAt q next slots ex1 n1 w) : w.cell? ⟨q + 10, 5, none⟩ = some (.slice (some ⟨q + 7, 0, none⟩) 2 2) ∧ w.cell? ⟨q + 10, 6, none⟩ = some (.slice (some ⟨q + 9, 0, none⟩) 5 5) ∧ w.cell? ⟨q + 10, 2, none⟩ = some (.int .i64 slots) ∧ w.cell? ⟨q + 7, 4, none⟩ = some (.int .i64 next) ∧ w.cell? ⟨q + 7, 10, none⟩ = some ex1 ∧ w.cell? ⟨q + 9, 4, none⟩ = some (.int .i64 n1) ∧ (∀ j, w.frozen? ⟨q + 7, j, none⟩ = false) ∧ (∀ j, w.frozen? ⟨q + 9, j, none⟩ = false) ∧ ∀ j, w.frozen? ⟨q + 10, j, none⟩ = false :=
  ⟨cell_of h.b10 5 _ rfl, cell_of h.b10 6 _ rfl, cell_of h.b10 2 _ rfl, cell_of h.b7 4 _ rfl, cell_of h.b7 10 _ rfl, cell_of h.b9 4 _ rfl, fun j => frozen_of_row w _ j _ _ h.b7, fun j => frozen_of_row w _ j _ _ h.b9, fun j => frozen_of_row w _ j _ _ h.b10⟩
theorem BoxAt.cells {b q : Nat} {w : World} (h : BoxAt b q w) : w.cell? ⟨b, 0, none⟩ = some (.slice (some ⟨q + 1, 0, none⟩) 1 1) ∧ w.cell? ⟨b, 1, none⟩ = some (.slice (some ⟨q + 10, 0, none⟩) 1 1) := ⟨cell_of h 0 _ rfl, cell_of h 1 _ rfl⟩

set_option maxHeartbeats 8000000 in
set_option maxRecDepth 100000 in
theorem awake_fn (w : World) (hR : RowsTab w) : Calls Tryd.prog 8 #[] w fun e w' => e = .returned (.bool true) ∧ Below w.heap.size w w' := by
  have HR := Lib.hid hR
  obtain ⟨q, hq⟩ : ∃ q, w.heap.size = q := ⟨_, rfl⟩
  clear hR
  go_enter Tryd.func8, Tryd.ntmps8
  go_wp2_with fail
  refine (text_at _ q hq).mono ?_
  rintro e wa ⟨rfl, ta, ba, sa⟩
  go_wp2_with fail
  refine (text_at _ (q + 11) sa).mono ?_
  rintro e wb ⟨rfl, tb, bb, sb⟩
  replace sb : wb.heap.size = q + 22 := by omega
  go_wp2_with fail
  refine (text_at _ (q + 22) sb).mono ?_
  rintro e wc ⟨rfl, tc, bc, sc⟩
  replace sc : wc.heap.size = q + 33 := by omega
  go_wp2_with fail
  refine (text_at _ (q + 33) sc).mono ?_
  rintro e wd ⟨rfl, td, bd, sd⟩
  replace sd : wd.heap.size = q + 44 := by omega
  obtain ⟨g1, g2, g3⟩ := grows wd [.cells #[sl (q + 1) 1, sl (q + 10) 1] 26, .cells #[sl (q + 11 + 1) 1, sl (q + 11 + 10) 1] 26, .cells #[sl (q + 22 + 1) 1, sl (q + 22 + 10) 1] 26, .cells #[sl (q + 33 + 1) 1, sl (q + 33 + 10) 1] 26] _ rfl
  rw [sd] at g3
  obtain ⟨W, hW⟩ : ∃ W, W = [.cells #[sl (q + 1) 1, sl (q + 10) 1] 26, .cells #[sl (q + 11 + 1) 1, sl (q + 11 + 10) 1] 26, .cells #[sl (q + 22 + 1) 1, sl (q + 22 + 10) 1] 26, .cells #[sl (q + 33 + 1) 1, sl (q + 33 + 10) 1] 26].foldl World.alloc wd := ⟨_, rfl⟩
  rw [← hW] at g1 g2 g3
  have F0 : Four w q 1 1 (sl (q + 22 + 6) 1) 0 W :=
    ⟨((((ta.below bb).below bc).below bd).below g1), (((tb.below bc).below bd).below g1), ((tc.below bd).below g1), td.below g1, g3 0 (by simp), g3 1 (by simp), g3 2 (by simp), g3 3 (by simp), ((((ba.trans (bb.mono ba.size)).trans (bc.mono (by omega))).trans (bd.mono (by omega))).trans (g1.mono (by omega))), hq⟩
  clear ta tb tc td ba bb bc bd g1 g2 g3
  go_upto_region 2 with (fail)
  have hW2 : (((wd.alloc (.cells #[.slice (some ⟨q + 1, 0, none⟩) 1 1, .slice (some ⟨q + 10, 0, none⟩) 1 1] 26)).alloc (.cells #[.slice (some ⟨q + 11 + 1, 0, none⟩) 1 1, .slice (some ⟨q + 11 + 10, 0, none⟩) 1 1] 26)).alloc (.cells #[.slice (some ⟨q + 22 + 1, 0, none⟩) 1 1, .slice (some ⟨q + 22 + 10, 0, none⟩) 1 1] 26)).alloc (.cells #[.slice (some ⟨q + 33 + 1, 0, none⟩) 1 1, .slice (some ⟨q + 33 + 10, 0, none⟩) 1 1] 26) = W := hW.symm
  rw [hW2]
  clear hW hW2 sa sb sc sd
  obtain ⟨x1, x2⟩ := F0.pa.cells
  obtain ⟨y1, y2, y3, y4, y5, y6, z7, z9, z10⟩ := F0.ta.cells
  have z := z7 4
  have F1 := Lib.hid (F0.setA 2)
  clear F0 y2 y3 y5 y6 z7 z9 z10
  go_upto_region 3 with (fail)
  obtain ⟨W1, hW1⟩ : ∃ X, X = W.setCell ⟨q + 7, 4, none⟩ (.int .i64 2) := ⟨_, rfl⟩
  rw [← hW1] at F1 ⊢
  clear hW1 x1 x2 y1 y4 z
  obtain ⟨x1, x2⟩ := F1.out.pb.cells
  obtain ⟨y1, y2, y3, y4, y5, y6, z7, z9, z10⟩ := F1.out.tb.cells
  have z := z10 2
  have F2 := Lib.hid (F1.out.setB 0)
  clear F1 y1 y2 y4 y5 y6 z7 z9 z10
  go_upto_region 4 with (fail)
  obtain ⟨W2, hW2⟩ : ∃ X, X = W1.setCell ⟨q + 11 + 10, 2, none⟩ (.int .i64 0) := ⟨_, rfl⟩
  rw [← hW2] at F2 ⊢
  clear hW2 x1 x2 y3 z
  obtain ⟨x1, x2⟩ := F2.out.pc.cells
  obtain ⟨y1, y2, y3, y4, y5, y6, z7, z9, z10⟩ := F2.out.tc.cells
  have z := z7 10
  have zz := frozen_of_row (W2.alloc (.cells #[.int .i64 4, .int .i64 4] 3)) (q + 22 + 7) 10 _ _ ((F2.out.tc.below ((Below.refl W2.heap.size W2).alloc (Nat.le_refl _) (.cells #[.int .i64 4, .int .i64 4] 3))).b7)
  have yy := cell_of ((F2.out.tc.below ((Below.refl W2.heap.size W2).alloc (Nat.le_refl _) (.cells #[.int .i64 4, .int .i64 4] 3))).b7) 10 _ rfl
  have hcw := lt_of_get F2.out.pd
  have hb3 := (Below.refl W2.heap.size W2).alloc (Nat.le_refl _) (.cells #[.int .i64 4, .int .i64 4] 3)
  have F3 := Lib.hid ((F2.out.below hb3).setC (.slice (some ⟨W2.heap.size, 0, none⟩) 2 2))
  have hn3 : ((W2.alloc (.cells #[.int .i64 4, .int .i64 4] 3)).setCell ⟨q + 22 + 7, 10, none⟩ (.slice (some ⟨W2.heap.size, 0, none⟩) 2 2)).heap[W2.heap.size]? = some (.cells #[.int .i64 4, .int .i64 4] 3 (0, 0)) := by
    rw [heap_setCell_other _ _ _ _ (by show W2.heap.size ≠ q + 22 + 7; omega)]
    exact new_block W2 _
  have L3 := Lib.hid (lst_of (c := 2) (vs := [.int .i64 4, .int .i64 4]) hn3 (by unfold Len; decide))
  clear F2 y2 y3 y4 y6 z7 z9 z10 hb3 hn3
  go_upto_region 5 with (fail)
  obtain ⟨W3, hW3⟩ : ∃ X, X = (W2.alloc (.cells #[.int .i64 4, .int .i64 4] 3)).setCell ⟨q + 22 + 7, 10, none⟩ (.slice (some ⟨W2.heap.size, 0, none⟩) 2 2) := ⟨_, rfl⟩
  rw [← hW3] at F3 L3 ⊢
  clear hW3 x1 x2 y1 y5 z zz yy
  have EXC := Lib.hid (show ∀ (g o c : Nat), Value.slice (some ⟨W2.heap.size, 0, none⟩) 2 2 = .slice (some ⟨g, o, none⟩) (ints [4, 4]).length c → q + 33 + 9 ≠ g from fun g o c e => by injection e with e; injection e with e; injection e with e; omega)
  generalize (Value.slice (some ⟨W2.heap.size, 0, none⟩) 2 2) = exc at *
  obtain ⟨x1, x2⟩ := F3.out.pd.cells
  obtain ⟨y1, y2, y3, y4, y5, y6, z7, z9, z10⟩ := F3.out.td.cells
  have z := z9 4
  have F4 := Lib.hid (F3.out.setD 1)
  have hw3 : W2.heap.size < W3.heap.size ∨ True := .inr trivial
  clear F3 y1 y3 y4 y5 z7 z10 hw3 hcw
  go_upto_region 6 with (fail)
  obtain ⟨W4, hW4⟩ : ∃ X, X = W3.setCell ⟨q + 33 + 9, 4, none⟩ (.int .i64 1) := ⟨_, rfl⟩
  have hs4 : W4.heap.size = W3.heap.size := by rw [hW4]; simp
  have L4 : LstB W4.heap.size W4 exc (ints [4, 4]) := by
    obtain ⟨a, c, e1, e2, e3⟩ := L3.out
    refine ⟨a, c, e1, e2, fun hne => ?_⟩
    obtain ⟨g, o, hg, rfl, hx⟩ := e3 hne
    refine ⟨g, o, by rw [hs4]; exact hg, rfl, fun j hj => ?_⟩
    rw [hW4, World.cell?_setCell_other _ _ _ _ (fun e => EXC.out g o c e1 (by injection e))]
    exact hx j hj
  rw [← hW4] at F4 ⊢
  clear hW4 x1 x2 y2 y6 z9 z L3
  have L := Lib.hid L4
  clear hs4 EXC L4
  go_wp2_with fail
  refine (text_at W4 _ rfl).mono ?_
  rintro e w5 ⟨rfl, t5, b5, _⟩
  have F5 := Lib.hid (F4.out.below b5)
  have L5 := Lib.hid ((L.out.below b5).mono b5.size)
  have T5 := Lib.hid t5
  clear t5 b5 F4 L
  go_wp2_with fail
  refine (right_text T5.out (lst_own T5.out) ⟨by decide, by decide⟩ ⟨by decide, by decide⟩ ⟨by decide, by decide⟩ (in_one ⟨by decide, by decide⟩) (HR.out.below F5.out.low) good).mono ?_
  rintro e w6 ⟨rfl, b6⟩
  have F6 := Lib.hid (F5.out.below b6)
  have L6 := Lib.hid ((L5.out.below b6).mono b6.size)
  clear b6 F5 L5 T5
  go_wp2_with fail
  refine (text_at w6 _ rfl).mono ?_
  rintro e w7 ⟨rfl, t7, b7, _⟩
  have F7 := Lib.hid (F6.out.below b7)
  have L7 := Lib.hid ((L6.out.below b7).mono b7.size)
  have T7 := Lib.hid t7
  clear t7 b7 F6 L6
  go_wp2_with fail
  refine (proto_text T7.out (HR.out.below F7.out.low) good0).mono ?_
  rintro e w8 ⟨rfl, b8⟩
  have F8 := Lib.hid (F7.out.below b8)
  have L8 := Lib.hid ((L7.out.below b8).mono b8.size)
  clear b8 F7 L7 T7
  go_wp2_with fail
  refine (text_at w8 _ rfl).mono ?_
  rintro e w9 ⟨rfl, t9, b9, _⟩
  have F9 := Lib.hid (F8.out.below b9)
  have L9 := Lib.hid ((L8.out.below b9).mono b9.size)
  have T9 := Lib.hid t9
  clear t9 b9 F8 L8
  go_wp2_with fail
  refine (proto_text T9.out (HR.out.below F9.out.low) bad1).mono ?_
  rintro e v0 ⟨rfl, c0⟩
  have G0 := Lib.hid (F9.out.below c0)
  have M0 := Lib.hid ((L9.out.below c0).mono c0.size)
  clear c0 F9 L9 T9
  obtain ⟨x1, x2⟩ := G0.out.pa.cells
  go_wp2_with fail
  refine (right_text G0.out.ta (lst_own G0.out.ta) ⟨by decide, by decide⟩ ⟨by decide, by decide⟩ ⟨by decide, by decide⟩ (in_one ⟨by decide, by decide⟩) (HR.out.below G0.out.low) badA).mono ?_
  rintro e v1 ⟨rfl, c1⟩
  have G1 := Lib.hid (G0.out.below c1)
  have M1 := Lib.hid ((M0.out.below c1).mono c1.size)
  clear c1 G0 M0 x1 x2
  obtain ⟨x1, x2⟩ := G1.out.pb.cells
  go_wp2_with fail
  refine (right_text G1.out.tb (lst_own G1.out.tb) ⟨by decide, by decide⟩ ⟨by decide, by decide⟩ ⟨by decide, by decide⟩ (in_one ⟨by decide, by decide⟩) (HR.out.below G1.out.low) badB).mono ?_
  rintro e v2 ⟨rfl, c2⟩
  have G2 := Lib.hid (G1.out.below c2)
  have M2 := Lib.hid ((M1.out.below c2).mono c2.size)
  clear c2 G1 M1 x1 x2
  obtain ⟨x1, x2⟩ := G2.out.pc.cells
  go_wp2_with fail
  refine (right_text G2.out.tc M2.out ⟨by decide, by decide⟩ ⟨by decide, by decide⟩ ⟨by decide, by decide⟩ (fun c hc => by
    simp only [List.mem_cons, List.not_mem_nil, or_false] at hc
    rcases hc with rfl | rfl <;> exact ⟨by decide, by decide⟩) (HR.out.below G2.out.low) badC).mono ?_
  rintro e v3 ⟨rfl, c3⟩
  have G3 := Lib.hid (G2.out.below c3)
  clear c3 G2 M2 x1 x2
  obtain ⟨x1, x2⟩ := G3.out.pd.cells
  go_wp2_with fail
  refine (right_text G3.out.td (lst_own G3.out.td) ⟨by decide, by decide⟩ ⟨by decide, by decide⟩ ⟨by decide, by decide⟩ (in_one ⟨by decide, by decide⟩) (HR.out.below G3.out.low) badD).mono ?_
  rintro e v4 ⟨rfl, c4⟩
  have G4 := Lib.hid (G3.out.below c4)
  clear c4 G3 x1 x2
  go_wp2_with fail
  go_ret
  exact ⟨rfl, G4.out.low⟩

end Go.Proofs.YtnnjkejejlhkdaaDoor.Rt
