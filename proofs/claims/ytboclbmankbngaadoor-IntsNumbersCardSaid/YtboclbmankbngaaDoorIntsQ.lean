/-
  IntsNumbers.
-/
import Derived.Test.YtboclbmankbngaaDoorIntsN
import Derived.Deep.DeepCutAuto
namespace Go.Proofs.YtboclbmankbngaaDoor
open Go.RowKit

theorem shl_far (a b : Int) (h : b ≤ -64) : arithN 10 a b = 0 := by
  show move64 a b false = 0
  rw [move64, if_pos (by omega), if_neg (by decide)]
  exact shl_over _ _ (by omega)
theorem shr_far (a b : Int) (h : b ≤ -64) : arithN 9 a b = 0 := by
  show move64 a b true = 0
  rw [move64, if_pos (by omega), if_pos rfl]
  exact shr_over _ _ (by omega)
theorem digits_step {u : Nat} (h : ¬ u < 10) : Lib.decDigits u = Lib.decDigits (u / 10) ++ [UInt8.ofNat (48 + u % 10)] := by
  conv => lhs; rw [Lib.decDigits]
  rw [dif_neg h]
theorem text_least : textOf (-9223372036854775808) = ⟨#[45, 57, 50, 50, 51, 51, 55, 50, 48, 51, 54, 56, 53, 52, 55, 55, 53, 56, 48, 56]⟩ := by
  unfold textOf
  rw [Lib.itoa, if_pos (by decide), show (-9223372036854775808 : Int).natAbs = 9223372036854775808 from rfl]
  iterate 18 (rw [digits_step (by decide)]; simp only [Nat.reduceDiv, Nat.reduceMod, Nat.reduceAdd])
  rw [Lib.decDigits_one (by decide)]
  rfl
theorem text_zero : textOf 0 = ⟨#[48]⟩ := by
  unfold textOf
  rw [Lib.itoa, if_neg (by decide), show (0 : Int).toNat = 0 from rfl, Lib.decDigits_one (by decide)]
  rfl

theorem awake_from (w0 w : World) (hv : Vars w0) (hb : Below w0.heap.size w0 w) :
    Calls Tryd.prog 13 #[] w fun e w' => e = .returned (.bool true) ∧ Below w0.heap.size w0 w' :=
  (awake_any w (hv.below hb)).mono fun _ _ ⟨h, h'⟩ => ⟨h, grew_trans hb h'⟩

set_option maxHeartbeats 8000000 in
set_option maxRecDepth 100000 in
theorem intsNumbers_walk (w : World) (hv : Vars w) :
    Calls Tryd.prog 3 #[] w fun e w' => e = .returned (.bool true) ∧ Below w.heap.size w w' := by
  have HV := Lib.hid hv
  clear hv
  go_enter Tryd.func3, Tryd.ntmps3
  go_upto_region 1 with fail
  go_cut [1] (fun v wx => v = .bool true ∧ wx = w)
  case first =>
    go_wp2_with fail
    refine (arith_yes 5 (-7) 2 1 _ ⟨by decide, by decide⟩ (by decide +kernel) (by decide +kernel)).mono ?_
    rintro e w1 ⟨rfl, rfl⟩
    go_wp2_with fail
    refine (arith_yes 4 (-9223372036854775808) (-1) (-9223372036854775808) _ ⟨by decide, by decide⟩ (by decide +kernel) (by decide +kernel)).mono ?_
    rintro e w1 ⟨rfl, rfl⟩
    go_wp2_with fail
    refine (arith_yes 5 (-9223372036854775808) (-1) 0 _ ⟨by decide, by decide⟩ (by decide +kernel) (by decide +kernel)).mono ?_
    rintro e w1 ⟨rfl, rfl⟩
    go_wp2_with fail
    refine (arith_yes 10 (-1) 60 15 _ ⟨by decide, by decide⟩ (by decide +kernel) (by decide +kernel)).mono ?_
    rintro e w1 ⟨rfl, rfl⟩
    go_wp2_with fail
    refine (arith_yes 9 1 (-1) 0 _ ⟨by decide, by decide⟩ (by decide +kernel) (by decide +kernel)).mono ?_
    rintro e w1 ⟨rfl, rfl⟩
    go_wp2_with fail
    refine (arith_yes 9 1 64 0 _ ⟨by decide, by decide⟩ (by decide +kernel) (by decide +kernel)).mono ?_
    rintro e w1 ⟨rfl, rfl⟩
    go_wp2_with fail
    refine (arith_yes 10 1 (-9223372036854775808) 0 _ ⟨by decide, by decide⟩ (shl_far _ _ (by decide)) (by decide +kernel)).mono ?_
    rintro e w1 ⟨rfl, rfl⟩
    go_wp2_with fail
    refine (arith_yes 9 (-1) (-9223372036854775808) 0 _ ⟨by decide, by decide⟩ (shr_far _ _ (by decide)) (by decide +kernel)).mono ?_
    rintro e w1 ⟨rfl, rfl⟩
    go_wp2_with fail
    refine (arith_yes 10 (-1) 64 0 _ ⟨by decide, by decide⟩ (by decide +kernel) (by decide +kernel)).mono ?_
    rintro e w1 ⟨rfl, rfl⟩
    go_wp2_with fail
    refine (arith_yes 18 (-9223372036854775808) 0 (-9223372036854775808) _ ⟨by decide, by decide⟩ (by decide +kernel) (by decide +kernel)).mono ?_
    rintro e w1 ⟨rfl, rfl⟩
    go_wp2_with fail
    refine (arith_yes 21 0 0 (-1) _ ⟨by decide, by decide⟩ (by decide +kernel) (by decide +kernel)).mono ?_
    rintro e w1 ⟨rfl, rfl⟩
    go_wp2_with fail
    refine (arith_yes 3 (-9223372036854775808) (-1) (-9223372036854775808) _ ⟨by decide, by decide⟩ (by decide +kernel) (by decide +kernel)).mono ?_
    rintro e w1 ⟨rfl, rfl⟩
    go_wp2_with fail
    refine (arith_yes 5 5 (-9223372036854775808) (-9223372036854775803) _ ⟨by decide, by decide⟩ (by decide +kernel) (by decide +kernel)).mono ?_
    rintro e w1 ⟨rfl, rfl⟩
    go_wp2_with fail
    go_meet
    exact ⟨rfl, rfl⟩
  case rest =>
    obtain ⟨rfl, rfl⟩ := hcut
    go_wp2_with fail
    refine (arith_err 11 1 1 2 _ ⟨by decide, by decide⟩ (by decide +kernel) (by decide +kernel)).mono ?_
    rintro e w1 ⟨rfl, rfl⟩
    go_wp2_with fail
    refine (arith_err 5 1 0 20 _ ⟨by decide, by decide⟩ (by decide +kernel) (by decide +kernel)).mono ?_
    rintro e w1 ⟨rfl, rfl⟩
    go_wp2_with fail
    refine (cmp_is 1 1 1 2 false _ (by decide +kernel) (by decide +kernel)).mono ?_
    rintro e w1 ⟨rfl, rfl⟩
    go_wp2_with fail
    refine (arith_err 0 1 1 2 _ ⟨by decide, by decide⟩ (by decide +kernel) (by decide +kernel)).mono ?_
    rintro e w1 ⟨rfl, rfl⟩
    go_upto_region 6 with fail
    go_cut [10] (fun v wx => v = .bool true ∧ Below wc.heap.size wc wx)
    case first =>
      go_wp2_with fail
      refine (text_is (-9223372036854775808) _ _ ⟨by decide, by decide⟩ HV.out text_least).mono ?_
      rintro e w1 ⟨rfl, b1⟩
      have HV1 := Lib.hid (HV.out.below b1)
      go_wp2_with fail
      refine (text_is 0 _ _ ⟨by decide, by decide⟩ HV1.out text_zero).mono ?_
      rintro e w2 ⟨rfl, b2⟩
      go_wp2_with fail
      go_meet
      exact ⟨rfl, grew_trans b1 b2⟩
    case rest =>
      obtain ⟨rfl, hb⟩ := hcut
      have HB := Lib.hid hb
      have HV0 := Lib.hid (HV.out.below hb)
      clear hb HV
      go_upto_region 7 with fail
      go_cut [11] (fun v wx => v = .bool true ∧ Below wc.heap.size wc wx)
      case first =>
        go_wp2_with fail
        refine (parse_yes ⟨#[45, 57, 50, 50, 51, 51, 55, 50, 48, 51, 54, 56, 53, 52, 55, 55, 53, 56, 48, 56]⟩ (-9223372036854775808) true _ (by decide) HV0.out (by decide +kernel)).mono ?_
        rintro e x1 ⟨rfl, b1⟩
        have B1 := Lib.hid b1
        have HV1 := Lib.hid (HV0.out.below b1)
        clear b1
        go_wp2_with fail
        refine (parse_yes ⟨#[57, 50, 50, 51, 51, 55, 50, 48, 51, 54, 56, 53, 52, 55, 55, 53, 56, 48, 56]⟩ 0 false _ (by decide) HV1.out (by decide +kernel)).mono ?_
        rintro e x2 ⟨rfl, b2⟩
        have B2 := Lib.hid (grew_trans B1.out b2)
        have HV2 := Lib.hid (HV1.out.below b2)
        clear b2
        go_wp2_with fail
        refine (parse_yes ⟨#[57, 50, 50, 51, 51, 55, 50, 48, 51, 54, 56, 53, 52, 55, 55, 53, 56, 48, 55]⟩ 9223372036854775807 true _ (by decide) HV2.out (by decide +kernel)).mono ?_
        rintro e x3 ⟨rfl, b3⟩
        have B3 := Lib.hid (grew_trans B2.out b3)
        have HV3 := Lib.hid (HV2.out.below b3)
        clear b3
        go_wp2_with fail
        refine (parse_yes ⟨#[49, 46, 48]⟩ 0 false _ (by decide) HV3.out (by decide +kernel)).mono ?_
        rintro e x4 ⟨rfl, b4⟩
        have B4 := Lib.hid (grew_trans B3.out b4)
        have HV4 := Lib.hid (HV3.out.below b4)
        clear b4
        go_wp2_with fail
        refine (parse_yes ⟨#[48, 120]⟩ 0 false _ (by decide) HV4.out (by decide +kernel)).mono ?_
        rintro e x5 ⟨rfl, b5⟩
        have B5 := Lib.hid (grew_trans B4.out b5)
        have HV5 := Lib.hid (HV4.out.below b5)
        clear b5
        go_wp2_with fail
        refine (parse_yes ⟨#[]⟩ 0 false _ (by decide) HV5.out (by decide +kernel)).mono ?_
        rintro e x6 ⟨rfl, b6⟩
        have B6 := Lib.hid (grew_trans B5.out b6)
        have HV6 := Lib.hid (HV5.out.below b6)
        clear b6
        go_wp2_with fail
        refine (parse_yes ⟨#[49, 32, 50]⟩ 0 false _ (by decide) HV6.out (by decide +kernel)).mono ?_
        rintro e x7 ⟨rfl, b7⟩
        have B7 := Lib.hid (grew_trans B6.out b7)
        have HV7 := Lib.hid (HV6.out.below b7)
        clear b7
        go_wp2_with fail
        refine (parse_yes ⟨#[48, 120, 102, 102, 102, 102, 102, 102, 102, 102, 102, 102, 102, 102, 102, 102, 102, 102]⟩ (-1) true _ (by decide) HV7.out (by decide +kernel)).mono ?_
        rintro e x8 ⟨rfl, b8⟩
        have B8 := Lib.hid (grew_trans B7.out b8)
        have HV8 := Lib.hid (HV7.out.below b8)
        clear b8
        go_wp2_with fail
        refine (parse_yes ⟨#[45, 48, 120, 49]⟩ (-1) true _ (by decide) HV8.out (by decide +kernel)).mono ?_
        rintro e x9 ⟨rfl, b9⟩
        have B9 := Lib.hid (grew_trans B8.out b9)
        have HV9 := Lib.hid (HV8.out.below b9)
        clear b9
        go_wp2_with fail
        refine (parse_yes ⟨#[43, 55, 10]⟩ 7 true _ (by decide) HV9.out (by decide +kernel)).mono ?_
        rintro e x10 ⟨rfl, b10⟩
        have B10 := Lib.hid (grew_trans B9.out b10)
        have HV10 := Lib.hid (HV9.out.below b10)
        clear b10
        go_wp2_with fail
        refine (parse_yes ⟨#[45, 45, 55]⟩ 0 false _ (by decide) HV10.out (by decide +kernel)).mono ?_
        rintro e x11 ⟨rfl, b11⟩
        have B11 := Lib.hid (grew_trans B10.out b11)
        have HV11 := Lib.hid (HV10.out.below b11)
        clear b11
        go_wp2_with fail
        refine (parse_yes ⟨#[45]⟩ 0 false _ (by decide) HV11.out (by decide +kernel)).mono ?_
        rintro e x12 ⟨rfl, b12⟩
        have B12 := Lib.hid (grew_trans B11.out b12)
        have HV12 := Lib.hid (HV11.out.below b12)
        clear b12
        go_wp2_with fail
        refine (parse_yes ⟨#[48, 88, 49, 102, 102, 102, 102, 102, 102, 102, 102, 102, 102, 102, 102, 102, 102, 102, 102, 102]⟩ (-1) true _ (by decide) HV12.out (by decide +kernel)).mono ?_
        rintro e x13 ⟨rfl, b13⟩
        have B13 := Lib.hid (grew_trans B12.out b13)
        have HV13 := Lib.hid (HV12.out.below b13)
        clear b13
        go_wp2_with fail
        refine (parse_yes ⟨#[45, 57, 50, 50, 51, 51, 55, 50, 48, 51, 54, 56, 53, 52, 55, 55, 53, 56, 48, 57]⟩ 0 false _ (by decide) HV13.out (by decide +kernel)).mono ?_
        rintro e x14 ⟨rfl, b14⟩
        have B14 := Lib.hid (grew_trans B13.out b14)
        have HV14 := Lib.hid (HV13.out.below b14)
        clear b14
        go_wp2_with fail
        refine (parse_yes ⟨#[48, 48, 55]⟩ 7 true _ (by decide) HV14.out (by decide +kernel)).mono ?_
        rintro e x15 ⟨rfl, b15⟩
        have B15 := Lib.hid (grew_trans B14.out b15)
        have HV15 := Lib.hid (HV14.out.below b15)
        clear b15
        go_wp2_with fail
        refine (parse_yes ⟨#[49, 95, 48]⟩ 0 false _ (by decide) HV15.out (by decide +kernel)).mono ?_
        rintro e x16 ⟨rfl, b16⟩
        have B16 := Lib.hid (grew_trans B15.out b16)
        have HV16 := Lib.hid (HV15.out.below b16)
        clear b16
        go_wp2_with fail
        go_meet
        exact ⟨rfl, B16.out⟩
      case rest =>
        obtain ⟨rfl, hb⟩ := hcut
        have HB2 := Lib.hid (grew_trans HB.out hb)
        have HV2 := Lib.hid (HV0.out.below hb)
        clear hb HB HV0
        go_wp2_with fail
        refine wp_loop_rounds 9 ?_
        rw [rounds_succ]
        go_wp2_with fail
        refine (cmp_is 17 5 5 0 true _ (by decide +kernel) (by decide +kernel)).mono ?_
        rintro e w1 ⟨rfl, rfl⟩
        go_wp2_with fail
        rw [rounds_succ]
        go_wp2_with fail
        refine (cmp_is 17 4 5 0 false _ (by decide +kernel) (by decide +kernel)).mono ?_
        rintro e w1 ⟨rfl, rfl⟩
        go_wp2_with fail
        rw [rounds_succ]
        go_wp2_with fail
        refine (cmp_is 16 5 5 0 false _ (by decide +kernel) (by decide +kernel)).mono ?_
        rintro e w1 ⟨rfl, rfl⟩
        go_wp2_with fail
        rw [rounds_succ]
        go_wp2_with fail
        refine (cmp_is 15 5 5 0 true _ (by decide +kernel) (by decide +kernel)).mono ?_
        rintro e w1 ⟨rfl, rfl⟩
        go_wp2_with fail
        rw [rounds_succ]
        go_wp2_with fail
        refine (cmp_is 14 5 5 0 false _ (by decide +kernel) (by decide +kernel)).mono ?_
        rintro e w1 ⟨rfl, rfl⟩
        go_wp2_with fail
        rw [rounds_succ]
        go_wp2_with fail
        refine (cmp_is 14 (-9223372036854775808) 0 0 true _ (by decide +kernel) (by decide +kernel)).mono ?_
        rintro e w1 ⟨rfl, rfl⟩
        go_wp2_with fail
        rw [rounds_succ]
        go_wp2_with fail
        refine (cmp_is 13 5 5 0 false _ (by decide +kernel) (by decide +kernel)).mono ?_
        rintro e w1 ⟨rfl, rfl⟩
        go_wp2_with fail
        rw [rounds_succ]
        go_wp2_with fail
        refine (cmp_is 12 5 5 0 true _ (by decide +kernel) (by decide +kernel)).mono ?_
        rintro e w1 ⟨rfl, rfl⟩
        go_wp2_with fail
        rw [rounds_succ]
        go_wp2_with fail
        refine (awake_from wc _ HV2.out ?_).mono ?_
        · repeat (refine Below.alloc ?_ (by first | omega | (simp only [World.size_alloc]; omega)) _)
          exact Below.refl _ _
        · rintro e w4 ⟨rfl, b4⟩
          go_wp2
          go_ret
          exact ⟨rfl, grew_trans HB2.out b4⟩

end Go.Proofs.YtboclbmankbngaaDoor
