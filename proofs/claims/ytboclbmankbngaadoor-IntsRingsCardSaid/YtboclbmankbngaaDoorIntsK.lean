/-
  The laws' helpers, and 'awake'.
-/
import Derived.Test.YtboclbmankbngaaDoorIntsH
import Derived.Test.YtboclbmankbngaaDoorIntsI
import Derived.Test.YtboclbmankbngaaDoorIntsJ
namespace Go.Proofs.YtboclbmankbngaaDoor
open Go.RowKit

/-- Arith at an operator that tells a number. -/
theorem arith_is (o a b n : Int) (w : World) (hb : In64 b) (hn : arithN o a b = n) (he : arithE o b = 0) :
    Calls Tryd.prog 9 #[.int .u8 o, .int .i64 a, .int .i64 b] w fun e w' => e = .returned (.tuple #[.int .i64 n, .int .i64 0]) ∧ w = w' := by
  have := arith_any o a b w hb
  unfold ArithSays at this
  rwa [hn, he] at this
theorem arith_err (o a b k : Int) (w : World) (hb : In64 b) (hn : arithN o a b = 0) (he : arithE o b = k) :
    Calls Tryd.prog 9 #[.int .u8 o, .int .i64 a, .int .i64 b] w fun e w' => e = .returned (.tuple #[.int .i64 0, .int .i64 k]) ∧ w = w' := by
  have := arith_any o a b w hb
  unfold ArithSays at this
  rwa [hn, he] at this
theorem cmp_is (o a b k : Int) (c : Bool) (w : World) (hc : cmpB o a b = c) (he : cmpE o = k) :
    Calls Tryd.prog 10 #[.int .u8 o, .int .i64 a, .int .i64 b] w fun e w' => e = .returned (.tuple #[.bool c, .int .i64 k]) ∧ w = w' := by
  have := compare_any o a b w
  unfold CmpSays at this
  rwa [hc, he] at this
theorem text_is (n : Int) (t : ByteArray) (w : World) (hn : In64 n) (hv : Vars w) (ht : textOf n = t) :
    Calls Tryd.prog 11 #[.int .i64 n] w fun e w' => e = .returned (.string t) ∧ Below w.heap.size w w' := by
  have := text_any n w hn hv
  unfold TextSays at this
  rwa [ht] at this
theorem parse_is (s : ByteArray) (n : Int) (c : Bool) (w : World) (hs : s.size ≤ 1000000000) (hv : Vars w) (h : parseOf s = (n, c)) :
    Calls Tryd.prog 16 #[.string s] w fun e w' => e = .returned (.tuple #[.int .i64 n, .bool c]) ∧ Below w.heap.size w w' := by
  have := parse_any s w hs hv
  unfold ParseSays at this
  rwa [h] at this

set_option maxHeartbeats 400000 in
theorem arith_yes (o a b n : Int) (w : World) (hb : In64 b) (hn : arithN o a b = n) (he : arithE o b = 0) :
    Calls Tryd.prog 8 #[.int .u8 o, .int .i64 a, .int .i64 b, .int .i64 n] w fun e w' => e = .returned (.bool true) ∧ w = w' := by
  have c := arith_is o a b n w hb hn he
  clear hn he
  go_enter Tryd.func8, Tryd.ntmps8
  go_wp2_with fail
  refine c.mono ?_
  rintro e w1 ⟨rfl, rfl⟩
  go_wp2
  go_ret
  exact ⟨rfl, rfl⟩

set_option maxHeartbeats 400000 in
theorem parse_yes (s : ByteArray) (n : Int) (c : Bool) (w : World) (hs : s.size ≤ 1000000000) (hv : Vars w) (h : parseOf s = (n, c)) :
    Calls Tryd.prog 12 #[.string s, .int .i64 n, .bool c] w fun e w' => e = .returned (.bool true) ∧ Below w.heap.size w w' := by
  have c := parse_is s n c w hs hv h
  clear h hv hs
  go_enter Tryd.func12, Tryd.ntmps12
  go_wp2_with fail
  refine c.mono ?_
  rintro e w1 ⟨rfl, hb⟩
  go_wp2
  go_ret
  exact ⟨rfl, hb⟩

theorem text_five : textOf (-5) = ⟨#[45, 53]⟩ := by
  unfold textOf
  rw [Lib.itoa, if_pos (by decide), show (-5 : Int).natAbs = 5 from rfl, Lib.decDigits_one (by decide)]
  rfl

set_option maxHeartbeats 2000000 in
theorem awake_any (w : World) (hv : Vars w) :
    Calls Tryd.prog 13 #[] w fun e w' => e = .returned (.bool true) ∧ Below w.heap.size w w' := by
  have HV := Lib.hid hv
  clear hv
  go_enter Tryd.func13, Tryd.ntmps13
  go_wp2_with fail
  refine (arith_err 4 1 0 20 _ ⟨by decide, by decide⟩ (by decide +kernel) (by decide +kernel)).mono ?_
  rintro e w1 ⟨rfl, rfl⟩
  go_wp2_with fail
  refine (cmp_is 14 1 2 0 true _ (by decide +kernel) (by decide +kernel)).mono ?_
  rintro e w1 ⟨rfl, rfl⟩
  go_wp2_with fail
  refine (arith_yes 4 7 (-2) (-4) _ ⟨by decide, by decide⟩ (by decide +kernel) (by decide +kernel)).mono ?_
  rintro e w1 ⟨rfl, rfl⟩
  go_wp2_with fail
  refine (arith_yes 5 7 (-2) (-1) _ ⟨by decide, by decide⟩ (by decide +kernel) (by decide +kernel)).mono ?_
  rintro e w1 ⟨rfl, rfl⟩
  go_wp2_with fail
  refine (arith_yes 9 1 63 (-9223372036854775808) _ ⟨by decide, by decide⟩ (by decide +kernel) (by decide +kernel)).mono ?_
  rintro e w1 ⟨rfl, rfl⟩
  go_wp2_with fail
  refine (text_is (-5) ⟨#[45, 53]⟩ _ ⟨by decide, by decide⟩ HV.out text_five).mono ?_
  rintro e w1 ⟨rfl, b1⟩
  have HV1 := Lib.hid (HV.out.below b1)
  go_wp2_with fail
  refine (parse_yes ⟨#[32, 48, 120, 49, 48, 32]⟩ 16 true _ (by decide) HV1.out (by decide +kernel)).mono ?_
  rintro e w2 ⟨rfl, b2⟩
  go_wp2
  go_ret
  exact ⟨rfl, grew_trans b1 b2⟩

end Go.Proofs.YtboclbmankbngaaDoor
