/-
  Layer 9: whether each item of a list is so.
-/
import Derived.Test.YtnnjkejejlhkdaaDoorRtAre2
import Derived.Test.YtnnjkejejlhkdaaDoorRtAre3
import Derived.Deep.LoopGhost
import Derived.Deep.DeepCutAuto
namespace Go.Proofs.YtnnjkejejlhkdaaDoor.Rt
open Go Go.RowKit

theorem span_all (n : Nat) : spanB 0 n n = true := by unfold spanB; rw [decide_eq_true (by omega), decide_eq_true (by omega)]; rfl

set_option maxHeartbeats 2000000 in
set_option maxRecDepth 100000 in
theorem all_ex {S : Type} (B : Nat) (w : World) (v : Value) (l : List Ex) (f : Nat) (bound caps : Array Value) (step : Nat → S → Option S) (I : S → World → Prop) (s0 : S)
    (hv : RowsB 3 (ExC B w) B w v l) (hB : B ≤ w.heap.size) (he : Enters f) (hI : Kept I)
    (hc : ∀ i (_ : i < l.length) s w' cs, Below B w w' → w.heap.size ≤ w'.heap.size → I s w' → runN step i s0 = some s → ExC B w' cs l[i] → Calls Tryd.prog f (bound ++ (#[.int .i64 (i : Int), .agg cs] ++ caps)) w' (StepSays B (step i s) I w'))
    (h0 : I s0 w) :
    Calls Tryd.prog 26 #[v, .func (.func f) bound caps] w (AreSays B true (runN step l.length s0) I w) := by
  have c := are_ex (S := S) B w v l (0 : Int) (l.length : Int) f bound caps step I s0 hv hB he hI hc h0
  rw [span_all] at c
  obtain ⟨ao, cap, rfl, hl⟩ := hv.slice
  unfold Len at hl
  generalize runN step l.length s0 = R at *
  clear hv hc
  go_enter Tryd.func26, Tryd.ntmps26
  go_wp2_with fail
  refine c.mono ?_
  rintro e w1 ⟨hb, hsz, rfl, hs⟩
  have HS := Lib.hid hs
  have HB1 := Lib.hid hb
  have HSZ := Lib.hid hsz
  clear hs hb hsz
  go_wp2_with fail
  go_ret
  exact ⟨HB1.out, HSZ.out, rfl, fun s _ h => HS.out s trivial h⟩

set_option maxHeartbeats 2000000 in
set_option maxRecDepth 100000 in
theorem all_st {S : Type} (B : Nat) (w : World) (v : Value) (l : List St) (f : Nat) (bound caps : Array Value) (step : Nat → S → Option S) (I : S → World → Prop) (s0 : S)
    (hv : RowsB 7 (StC B w) B w v l) (hB : B ≤ w.heap.size) (he : Enters f) (hI : Kept I)
    (hc : ∀ i (_ : i < l.length) s w' cs, Below B w w' → w.heap.size ≤ w'.heap.size → I s w' → runN step i s0 = some s → StC B w' cs l[i] → Calls Tryd.prog f (bound ++ (#[.int .i64 (i : Int), .agg cs] ++ caps)) w' (StepSays B (step i s) I w'))
    (h0 : I s0 w) :
    Calls Tryd.prog 28 #[v, .func (.func f) bound caps] w (AreSays B true (runN step l.length s0) I w) := by
  have c := are_st (S := S) B w v l (0 : Int) (l.length : Int) f bound caps step I s0 hv hB he hI hc h0
  rw [span_all] at c
  obtain ⟨ao, cap, rfl, hl⟩ := hv.slice
  unfold Len at hl
  generalize runN step l.length s0 = R at *
  clear hv hc
  go_enter Tryd.func28, Tryd.ntmps28
  go_wp2_with fail
  refine c.mono ?_
  rintro e w1 ⟨hb, hsz, rfl, hs⟩
  have HS := Lib.hid hs
  have HB1 := Lib.hid hb
  have HSZ := Lib.hid hsz
  clear hs hb hsz
  go_wp2_with fail
  go_ret
  exact ⟨HB1.out, HSZ.out, rfl, fun s _ h => HS.out s trivial h⟩

set_option maxHeartbeats 2000000 in
set_option maxRecDepth 100000 in
theorem all_pr {S : Type} (B : Nat) (w : World) (v : Value) (l : List Pr) (f : Nat) (bound caps : Array Value) (step : Nat → S → Option S) (I : S → World → Prop) (s0 : S)
    (hv : RowsB 8 (PrC B w) B w v l) (hB : B ≤ w.heap.size) (he : Enters f) (hI : Kept I)
    (hc : ∀ i (_ : i < l.length) s w' cs, Below B w w' → w.heap.size ≤ w'.heap.size → I s w' → runN step i s0 = some s → PrC B w' cs l[i] → Calls Tryd.prog f (bound ++ (#[.int .i64 (i : Int), .agg cs] ++ caps)) w' (StepSays B (step i s) I w'))
    (h0 : I s0 w) :
    Calls Tryd.prog 20 #[v, .func (.func f) bound caps] w (AreSays B true (runN step l.length s0) I w) := by
  have c := are_pr (S := S) B w v l (0 : Int) (l.length : Int) f bound caps step I s0 hv hB he hI hc h0
  rw [span_all] at c
  obtain ⟨ao, cap, rfl, hl⟩ := hv.slice
  unfold Len at hl
  generalize runN step l.length s0 = R at *
  clear hv hc
  go_enter Tryd.func20, Tryd.ntmps20
  go_wp2_with fail
  refine c.mono ?_
  rintro e w1 ⟨hb, hsz, rfl, hs⟩
  have HS := Lib.hid hs
  have HB1 := Lib.hid hb
  have HSZ := Lib.hid hsz
  clear hs hb hsz
  go_wp2_with fail
  go_ret
  exact ⟨HB1.out, HSZ.out, rfl, fun s _ h => HS.out s trivial h⟩

set_option maxHeartbeats 2000000 in
set_option maxRecDepth 100000 in
theorem all_up {S : Type} (B : Nat) (w : World) (v : Value) (l : List Up) (f : Nat) (bound caps : Array Value) (step : Nat → S → Option S) (I : S → World → Prop) (s0 : S)
    (hv : RowsB 2 UpC B w v l) (hB : B ≤ w.heap.size) (he : Enters f) (hI : Kept I)
    (hc : ∀ i (_ : i < l.length) s w' cs, Below B w w' → w.heap.size ≤ w'.heap.size → I s w' → runN step i s0 = some s → UpC cs l[i] → Calls Tryd.prog f (bound ++ (#[.int .i64 (i : Int), .agg cs] ++ caps)) w' (StepSays B (step i s) I w'))
    (h0 : I s0 w) :
    Calls Tryd.prog 22 #[v, .func (.func f) bound caps] w (AreSays B true (runN step l.length s0) I w) := by
  have c := are_up (S := S) B w v l (0 : Int) (l.length : Int) f bound caps step I s0 hv hB he hI hc h0
  rw [span_all] at c
  obtain ⟨ao, cap, rfl, hl⟩ := hv.slice
  unfold Len at hl
  generalize runN step l.length s0 = R at *
  clear hv hc
  go_enter Tryd.func22, Tryd.ntmps22
  go_wp2_with fail
  refine c.mono ?_
  rintro e w1 ⟨hb, hsz, rfl, hs⟩
  have HS := Lib.hid hs
  have HB1 := Lib.hid hb
  have HSZ := Lib.hid hsz
  clear hs hb hsz
  go_wp2_with fail
  go_ret
  exact ⟨HB1.out, HSZ.out, rfl, fun s _ h => HS.out s trivial h⟩

set_option maxHeartbeats 2000000 in
set_option maxRecDepth 100000 in
theorem all_int {S : Type} (B : Nat) (w : World) (v : Value) (l : List Int) (f : Nat) (bound caps : Array Value) (step : Nat → S → Option S) (I : S → World → Prop) (s0 : S)
    (hv : LstB B w v (ints l)) (hB : B ≤ w.heap.size) (he : Enters f) (hI : Kept I)
    (hc : ∀ i (_ : i < l.length) s w', Below B w w' → w.heap.size ≤ w'.heap.size → I s w' → runN step i s0 = some s → Calls Tryd.prog f (bound ++ (#[.int .i64 (i : Int), .int .i64 l[i]] ++ caps)) w' (StepSays B (step i s) I w'))
    (h0 : I s0 w) :
    Calls Tryd.prog 36 #[v, .func (.func f) bound caps] w (AreSays B true (runN step l.length s0) I w) := by
  have c := are_int (S := S) B w v l (0 : Int) (l.length : Int) f bound caps step I s0 hv hB he hI hc h0
  rw [span_all] at c
  obtain ⟨ao, cap, rfl, hl⟩ := hv.slice
  unfold Len at hl
  rw [ints_len] at hl c ⊢
  generalize runN step l.length s0 = R at *
  clear hv hc
  go_enter Tryd.func36, Tryd.ntmps36
  go_wp2_with fail
  refine c.mono ?_
  rintro e w1 ⟨hb, hsz, rfl, hs⟩
  have HS := Lib.hid hs
  have HB1 := Lib.hid hb
  have HSZ := Lib.hid hsz
  clear hs hb hsz
  go_wp2_with fail
  go_ret
  exact ⟨HB1.out, HSZ.out, rfl, fun s _ h => HS.out s trivial h⟩

end Go.Proofs.YtnnjkejejlhkdaaDoor.Rt
