/-
  IntsTells.
-/
import Derived.Test.YtboclbmankbngaaDoorIntsK
namespace Go.Proofs.YtboclbmankbngaaDoor
open Go.RowKit

set_option maxHeartbeats 2000000 in
set_option maxRecDepth 100000 in
theorem intsTells_walk (o a b : Int) (s : ByteArray) (w : World) (ho : 0 ≤ o ∧ o ≤ 255) (ha : In64 a) (hb : In64 b) (hv : Vars w) :
    Calls Tryd.prog 4 #[.int .u8 o, .int .i64 a, .int .i64 b, .string s] w fun e w' => e = .returned (.bool true) ∧ Below w.heap.size w w' := by
  have HV := Lib.hid hv
  clear hv
  by_cases h3 : (3000 : Int) < s.size
  · clear ho ha hb
    go_enter Tryd.func4, Tryd.ntmps4
    go_wp2_with fail
    refine (awake_any _ HV.out).mono ?_
    rintro e w1 ⟨rfl, b1⟩
    go_wp2
    go_ret
    exact ⟨rfl, b1⟩
  · have hs : s.size ≤ 1000000000 := by omega
    have c1 := fun w => arith_any o a b w hb
    have c2 := fun w => ref_arith o a b w hb ho
    have c3 := fun w => compare_any o a b w
    have c4 := fun w => ref_compare o a b w ho
    have c5 := fun w hv => parse_any s w hs hv
    have c6 := fun w => ref_parse s w hs
    have c7 := fun w hv => text_any a w ha hv
    have c8 := fun w => ref_text a w ha
    unfold ArithSays at c1 c2
    unfold CmpSays at c3 c4
    unfold ParseSays at c5
    unfold TextSays at c7
    generalize arithN o a b = n at *
    generalize arithE o b = k at *
    generalize cmpB o a b = x at *
    generalize cmpE o = y at *
    generalize (parseOf s).1 = p at *
    generalize (parseOf s).2 = q at *
    generalize textOf a = t at *
    clear hs ho ha hb
    go_enter Tryd.func4, Tryd.ntmps4
    go_wp2_with fail
    refine (c1 _).mono ?_
    rintro e w1 ⟨rfl, rfl⟩
    go_wp2_with fail
    refine (c2 _).mono ?_
    rintro e w1 ⟨rfl, rfl⟩
    go_wp2_with fail
    refine (c3 _).mono ?_
    rintro e w1 ⟨rfl, rfl⟩
    go_wp2_with fail
    refine (c4 _).mono ?_
    rintro e w1 ⟨rfl, rfl⟩
    go_wp2_with fail
    refine (c5 _ HV.out).mono ?_
    rintro e w2 ⟨rfl, b2⟩
    have HV2 := Lib.hid (HV.out.below b2)
    go_wp2_with fail
    refine (c6 _).mono ?_
    rintro e w1 ⟨rfl, rfl⟩
    go_wp2_with fail
    refine (c7 _ HV2.out).mono ?_
    rintro e w3 ⟨rfl, b3⟩
    have HV3 := Lib.hid (HV2.out.below b3)
    go_wp2_with fail
    refine (c8 _).mono ?_
    rintro e w1 ⟨rfl, rfl⟩
    clear c1 c2 c3 c4 c5 c6 c7 c8
    go_wp2_with fail
    refine (awake_any _ HV3.out).mono ?_
    rintro e w4 ⟨rfl, b4⟩
    go_wp2
    go_ret
    exact ⟨rfl, grew_trans (grew_trans b2 b3) b4⟩

end Go.Proofs.YtboclbmankbngaaDoor
