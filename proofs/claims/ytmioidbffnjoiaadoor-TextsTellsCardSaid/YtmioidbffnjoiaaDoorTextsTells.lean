/-
  TextsTells.
-/
import Derived.Test.YtmioidbffnjoiaaDoorTextsAwake
namespace Go.Proofs.YtmioidbffnjoiaaDoor
open Go.RowKit

set_option maxHeartbeats 2000000 in
set_option maxRecDepth 100000 in
theorem textsTells_walk (a b : ByteArray) (w : World) :
    Calls Tryd.prog 4 #[.string a, .string b] w fun e w' => e = .returned (.bool true) ∧ Below w.heap.size w w' := by
  by_cases h3 : (3000 : Int) < a.size
  · go_enter Tryd.func4, Tryd.ntmps4
    go_wp2_with fail
    refine (awake_texts _).mono ?_
    rintro e w1 ⟨rfl, b1⟩
    go_wp2
    go_ret
    exact ⟨rfl, b1⟩
  by_cases h4 : (3000 : Int) < b.size
  · go_enter Tryd.func4, Tryd.ntmps4
    go_wp2_with fail
    refine (awake_texts _).mono ?_
    rintro e w1 ⟨rfl, b1⟩
    go_wp2
    go_ret
    exact ⟨rfl, b1⟩
  have ha : a.size ≤ 100000000 := by omega
  have hb : b.size ≤ 100000000 := by omega
  have c1 := fun w => own_unquote a w ha
  have c2 := fun w => ref_unquote a w ha
  have c3 := fun w => own_long a w ha
  have c4 := fun w => ref_long a w ha
  have c5 := fun w => own_quote b w hb
  have c6 := fun w => ref_quote b w hb
  have c7 := fun w => own_compare a b w (by omega) (by omega)
  have c8 := fun w => ref_compare a b w (by omega) (by omega)
  unfold UnqIs at c1 c2
  unfold LongIs at c3 c4
  unfold CmpIs at c7 c8
  generalize unqT a.data.toList = t at *
  generalize unqE a.data.toList = n at *
  generalize longV a.data.toList = l at *
  generalize longO a.data.toList = o at *
  generalize quoteT b.data.toList = q at *
  generalize cmpL a.data.toList b.data.toList = x at *
  clear ha hb
  go_enter Tryd.func4, Tryd.ntmps4
  go_wp2_with fail
  refine (c1 _).mono ?_
  rintro e w1 ⟨rfl, b1⟩
  go_wp2_with fail
  refine (c2 _).mono ?_
  rintro e w2 ⟨rfl, b2⟩
  have B2 := Lib.hid (trans_below b1 b2)
  clear b1 b2
  go_wp2_with fail
  refine (c3 _).mono ?_
  rintro e w3 ⟨rfl, b3⟩
  have B3 := Lib.hid (trans_below B2.out b3)
  clear b3
  go_wp2_with fail
  refine (c4 _).mono ?_
  rintro e w4 ⟨rfl, b4⟩
  have B4 := Lib.hid (trans_below B3.out b4)
  clear b4
  go_wp2_with fail
  refine (c5 _).mono ?_
  rintro e w5 ⟨rfl, b5⟩
  have B5 := Lib.hid (trans_below B4.out b5)
  clear b5
  go_wp2_with fail
  refine (c6 _).mono ?_
  rintro e w6 ⟨rfl, b6⟩
  have B6 := Lib.hid (trans_below B5.out b6)
  clear b6
  go_wp2_with fail
  refine (c7 _).mono ?_
  rintro e w7 ⟨rfl, b7⟩
  have B7 := Lib.hid (trans_below B6.out b7)
  clear b7
  go_wp2_with fail
  refine (c8 _).mono ?_
  rintro e w8 ⟨rfl, b8⟩
  have B8 := Lib.hid (trans_below B7.out b8)
  clear b8 c1 c2 c3 c4 c5 c6 c7 c8
  go_wp2_with fail
  refine (awake_texts _).mono ?_
  rintro e w9 ⟨rfl, b9⟩
  go_wp2
  go_ret
  exact ⟨rfl, trans_below B8.out b9⟩

end Go.Proofs.YtmioidbffnjoiaaDoor
