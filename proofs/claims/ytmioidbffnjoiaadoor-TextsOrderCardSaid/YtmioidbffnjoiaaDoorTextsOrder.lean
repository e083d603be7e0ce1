/-
  TextsOrder.
-/
import Derived.Test.YtmioidbffnjoiaaDoorTextsAwake
namespace Go.Proofs.YtmioidbffnjoiaaDoor
open Go.RowKit

theorem cmp_app (c a b : ByteArray) : cmpL (c ++ a).data.toList (c ++ b).data.toList = cmpL a.data.toList b.data.toList := by
  rw [cat_list, cat_list, cmpL_ahead]
theorem cmp_beg (a b : ByteArray) (h : b ≠ ByteArray.empty) : cmpL a.data.toList (a ++ b).data.toList = -1 := by
  rw [cat_list]
  refine cmpL_begins _ _ fun e => h ?_
  apply ByteArray.ext
  apply Array.ext'
  rw [e]; rfl
theorem list_same {a b : ByteArray} : a.data.toList = b.data.toList ↔ a = b :=
  ⟨fun h => ByteArray.ext (Array.ext' h), fun h => by rw [h]⟩

set_option maxHeartbeats 4000000 in
set_option maxRecDepth 100000 in
theorem textsOrder_walk (a b c : ByteArray) (w : World) :
    Calls Tryd.prog 6 #[.string a, .string b, .string c] w fun e w' => e = .returned (.bool true) ∧ Below w.heap.size w w' := by
  by_cases h3 : 3000 < a.size ∨ 3000 < b.size ∨ 3000 < c.size
  · by_cases g1 : (3000 : Int) < a.size
    · go_enter Tryd.func6, Tryd.ntmps6
      go_wp2_with fail
      refine (awake_texts _).mono ?_
      rintro e w1 ⟨rfl, b1⟩
      go_wp2
      go_ret
      exact ⟨rfl, b1⟩
    · by_cases g2 : (3000 : Int) < b.size
      · go_enter Tryd.func6, Tryd.ntmps6
        go_wp2_with fail
        refine (awake_texts _).mono ?_
        rintro e w1 ⟨rfl, b1⟩
        go_wp2
        go_ret
        exact ⟨rfl, b1⟩
      · have g3 : (3000 : Int) < c.size := by omega
        go_enter Tryd.func6, Tryd.ntmps6
        go_wp2_with fail
        refine (awake_texts _).mono ?_
        rintro e w1 ⟨rfl, b1⟩
        go_wp2
        go_ret
        exact ⟨rfl, b1⟩
  have h3a : (a.size : Int) ≤ 3000 := by omega
  have h3b : (b.size : Int) ≤ 3000 := by omega
  have h3c : (c.size : Int) ≤ 3000 := by omega
  clear h3
  have c1 := fun w => own_compare a b w (by omega) (by omega)
  have c2 := fun w => own_compare b a w (by omega) (by omega)
  have c3 := fun w => own_compare b c w (by omega) (by omega)
  have c4 := fun w => own_compare a c w (by omega) (by omega)
  have z1 : (c ++ a).size ≤ 6000 := by rw [ByteArray.size_append]; omega
  have z2 : (c ++ b).size ≤ 6000 := by rw [ByteArray.size_append]; omega
  have z3 : (a ++ b).size ≤ 6000 := by rw [ByteArray.size_append]; omega
  have k1 := fun w => run_string_add_sum (P := Tryd.prog) (w := w) c a (by omega)
  have k2 := fun w => run_string_add_sum (P := Tryd.prog) (w := w) c b (by omega)
  have k3 := fun w => run_string_add_sum (P := Tryd.prog) (w := w) a b (by omega)
  have c5 := fun w => own_compare (c ++ a) (c ++ b) w (by omega) (by omega)
  have c6 := fun w => own_compare a (a ++ b) w (by omega) (by omega)
  unfold CmpIs at c1 c2 c3 c4 c5 c6
  rw [cmp_app] at c5
  have hz := cmpL_zero a.data.toList b.data.toList
  rw [list_same] at hz
  have ht := cmpL_turn a.data.toList b.data.toList
  have hr := cmpL_trans a.data.toList b.data.toList c.data.toList
  have q1 := cmpL_three a.data.toList b.data.toList
  have q2 := cmpL_three b.data.toList c.data.toList
  have q3 := cmpL_three a.data.toList c.data.toList
  have hb := cmp_beg a b
  generalize cmpL a.data.toList b.data.toList = x at *
  generalize cmpL b.data.toList a.data.toList = y at *
  generalize cmpL b.data.toList c.data.toList = z at *
  generalize cmpL a.data.toList c.data.toList = v at *
  generalize cmpL a.data.toList (a ++ b).data.toList = u at *
  generalize c ++ a = ca at *
  generalize c ++ b = cb at *
  generalize a ++ b = ab at *
  have hy : y = 0 - x := by omega
  have hr1 : x ≤ 0 → z ≤ 0 → v ≤ 0 := fun h1 h2 => (hr h1 h2).1
  have hr2 : x < 0 → z < 0 → v = -1 := fun h1 h2 => (hr (by omega) (by omega)).2 (by omega)
  clear hr ht z1 z2 z3
  go_enter Tryd.func6, Tryd.ntmps6
  go_wp2_with fail
  refine (c1 _).mono ?_
  rintro e w1 ⟨rfl, b1⟩
  go_wp2_with fail
  refine (c2 _).mono ?_
  rintro e w2 ⟨rfl, b2⟩
  have B2 := Lib.hid (trans_below b1 b2)
  clear b1 b2
  go_wp2_with fail
  refine (c3 _).mono ?_
  rintro e w3 ⟨rfl, b3⟩
  have B3 := Lib.hid (trans_below B2.out b3)
  clear b3
  go_wp2_with fail
  refine (c4 _).mono ?_
  rintro e w4 ⟨rfl, b4⟩
  have B4 := Lib.hid (trans_below B3.out b4)
  clear b4 c1 c2 c3 c4
  subst hy
  have hab : (a.toList == b.toList) = decide (x = 0) := by
    rw [Bool.eq_iff_iff, beq_iff_eq, decide_eq_true_iff, ByteArray.toList_eq, ByteArray.toList_eq, list_same]; exact hz.symm
  have he : ¬ b.toList = [] → u = -1 := fun h => hb fun g => h (by rw [g, ByteArray.toList_eq]; rfl)
  clear hz hb h3a h3b h3c
  rcases q1 with rfl | rfl | rfl
  all_goals
    first | replace hab : (a.toList == b.toList) = false := hab | replace hab : (a.toList == b.toList) = true := hab
    rcases q2 with rfl | rfl | rfl
  all_goals
    rcases q3 with rfl | rfl | rfl
  all_goals
    first
    | (exfalso; have := hr1 (by decide) (by decide); revert this; decide; done)
    | (exfalso; have := hr2 (by decide) (by decide); revert this; decide; done)
    | skip
  all_goals clear hr1 hr2
  all_goals go_wp2_with fail
  all_goals refine (c5 _).mono ?_
  all_goals rintro e w5 ⟨rfl, b5⟩
  all_goals have B5 := Lib.hid (trans_below B4.out b5)
  all_goals clear b5 c5 k1 k2
  all_goals
    by_cases hbe : b.toList = []
    · clear he c6 k3
      go_wp2_with fail
      refine (awake_texts _).mono ?_
      rintro e w9 ⟨rfl, b9⟩
      go_wp2
      go_ret
      exact ⟨rfl, trans_below B5.out b9⟩
    · obtain rfl := he hbe
      clear he
      go_wp2_with fail
      refine (c6 _).mono ?_
      rintro e w6 ⟨rfl, b6⟩
      have B6 := Lib.hid (trans_below B5.out b6)
      clear b6 c6 k3
      go_wp2_with fail
      refine (awake_texts _).mono ?_
      rintro e w9 ⟨rfl, b9⟩
      go_wp2
      go_ret
      exact ⟨rfl, trans_below B6.out b9⟩

end Go.Proofs.YtmioidbffnjoiaaDoor
