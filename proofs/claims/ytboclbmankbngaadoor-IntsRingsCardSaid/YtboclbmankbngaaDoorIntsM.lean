/-
  IntsRings.
-/
import Derived.Test.YtboclbmankbngaaDoorIntsK
import Derived.Deep.DeepCutAuto
namespace Go.Proofs.YtboclbmankbngaaDoor
open Go.RowKit

/-! ### Rings -/
theorem do_is (o x y n : Int) (w : World) (hy : In64 y) (hn : arithN o x y = n) (he : arithE o y = 0) :
    Calls Tryd.prog 19 #[.int .u8 o, .int .i64 x, .int .i64 y] w fun e w' => e = .returned (.int .i64 n) ∧ w = w' := by
  have c := arith_is o x y n w hy hn he
  clear hn he
  go_enter Tryd.func19, Tryd.ntmps19
  go_wp2_with fail
  refine c.mono ?_
  rintro e w1 ⟨rfl, rfl⟩
  go_wp2
  go_ret
  exact ⟨rfl, rfl⟩

/-- What the law's sums and products come to. -/
structure Ring (a b c S P U T V Q R X N Y Z A O : Int) : Prop where
  s1 : arithN 1 a b = S
  s2 : arithN 1 b a = S
  p1 : arithN 3 a b = P
  p2 : arithN 3 b a = P
  t1 : arithN 1 S c = T
  u1 : arithN 1 b c = U
  t2 : arithN 1 a U = T
  q1 : arithN 3 P c = Q
  v1 : arithN 3 b c = V
  q2 : arithN 3 a V = Q
  r1 : arithN 3 a U = R
  x1 : arithN 3 a c = X
  r2 : arithN 1 P X = R
  a1 : arithN 2 S b = a
  n1 : arithN 18 a 0 = N
  a2 : arithN 18 N 0 = a
  y1 : arithN 8 a b = Y
  a3 : arithN 8 Y b = a
  z1 : arithN 21 a 0 = Z
  a4 : arithN 21 Z 0 = a
  b1 : arithN 6 a b = A
  b2 : arithN 7 a b = O
  b3 : wrap64 (A + O) = S
  z2 : arithN 2 N 1 = Z
  iU : In64 U
  iV : In64 V
  iX : In64 X

theorem ring_any (a b c : Int) (ha : In64 a) (hb : In64 b) :
    Ring a b c (wrap64 (a + b)) (wrap64 (a * b)) (wrap64 (b + c)) (wrap64 (wrap64 (a + b) + c)) (wrap64 (b * c)) (wrap64 (wrap64 (a * b) * c)) (wrap64 (a * wrap64 (b + c))) (wrap64 (a * c)) (wrap64 (0 - a))
      (bits .xor .i64 a b) (bits .xor .i64 (-1) a) (bits .and .i64 a b) (bits .or .i64 a b) := by
  refine ⟨rfl, ?_, rfl, ?_, rfl, rfl, ?_, rfl, rfl, ?_, rfl, rfl, ?_, ?_, rfl, ?_, rfl, ?_, rfl, ?_, rfl, rfl, ?_, ?_, wrap64_in64 _, wrap64_in64 _, wrap64_in64 _⟩
  · show wrap64 (b + a) = _; rw [Int.add_comm]
  · show wrap64 (b * a) = _; rw [Int.mul_comm]
  · show wrap64 (a + wrap64 (b + c)) = wrap64 (wrap64 (a + b) + c)
    simp only [wrap64_bmod, Int.bmod_add_bmod, Int.add_bmod_bmod, Int.add_assoc]
  · show wrap64 (a * wrap64 (b * c)) = wrap64 (wrap64 (a * b) * c)
    simp only [wrap64_bmod, Int.bmod_mul_bmod, Int.mul_bmod_bmod, Int.mul_assoc]
  · show wrap64 (wrap64 (a * b) + wrap64 (a * c)) = wrap64 (a * wrap64 (b + c))
    simp only [wrap64_bmod, Int.bmod_add_bmod, Int.add_bmod_bmod, Int.mul_bmod_bmod, Int.mul_add]
  · show wrap64 (wrap64 (a + b) - b) = a
    rw [← wrap64_of_in ha]
    simp only [wrap64_bmod, Int.bmod_sub_bmod, Int.bmod_add_bmod]
    congr 1; omega
  · show wrap64 (0 - wrap64 (0 - a)) = a
    rw [← wrap64_of_in ha]
    simp only [wrap64_bmod, Int.sub_bmod_bmod]
    congr 1; omega
  · show bits .xor .i64 (bits .xor .i64 a b) b = a
    rw [bits_xor_i64, bits_xor_i64, bv_toInt, BitVec.xor_assoc, BitVec.xor_self, BitVec.xor_zero, toInt_bv ha]
  · show bits .xor .i64 (-1) (bits .xor .i64 (-1) a) = a
    rw [bits_not_i64, bits_not_i64, bv_toInt, BitVec.not_not, toInt_bv ha]
  · rw [bits_and_i64, bits_or_i64, and_or_sum, toInt_bv ha, toInt_bv hb]
  · show wrap64 (wrap64 (0 - a) - 1) = _
    rw [bits_not_i64, not_neg]

theorem near_is (a b : Int) (ha : In64 a) (hb : In64 b) (h0 : b ≠ 0) : ∃ q r M : Int, arithN 4 a b = q ∧ arithN 5 a b = r ∧ arithE 4 b = 0 ∧ arithE 5 b = 0 ∧ arithN 3 b q = M ∧ arithN 1 M r = a ∧ In64 q ∧ In64 r ∧
    (r = 0 ∨ (r < 0 ∧ b < 0 ∧ b < r) ∨ (0 < r ∧ 0 < b ∧ r < b)) := by
  obtain ⟨r, hr, hn⟩ := quo64_rest a b hb h0
  refine ⟨quo64 a b, r, wrap64 (b * quo64 a b), ?_, ?_, ?_, ?_, rfl, ?_, quo64_in a b, ?_, hn⟩
  · show divN 4 a b = _
    rw [divN, if_neg h0, if_pos rfl]
  · show divN 5 a b = _
    rw [divN, if_neg h0, if_neg (by decide), hr]
  · show divE b = 0
    rw [divE, if_neg h0]
  · show divE b = 0
    rw [divE, if_neg h0]
  · show wrap64 (wrap64 (b * quo64 a b) + r) = a
    rw [← hr]
    generalize wrap64 (b * quo64 a b) = K
    rw [wrap64_bmod, wrap64_bmod, Int.add_bmod_bmod, show K + (a - K) = a from by omega, ← wrap64_bmod, wrap64_of_in ha]
  · rw [← hr]; exact wrap64_in64 _

set_option maxHeartbeats 8000000 in
set_option maxRecDepth 100000 in
theorem intsRings_at (a b c S P U T V Q R X N Y Z A O : Int) (w : World) (ha : In64 a) (hb : In64 b) (hc : In64 c) (hr : Ring a b c S P U T V Q R X N Y Z A O) (hv : Vars w) :
    Calls Tryd.prog 5 #[.int .i64 a, .int .i64 b, .int .i64 c] w fun e w' => e = .returned (.bool true) ∧ Below w.heap.size w w' := by
  have hn := near_is a b ha hb
  have HV := Lib.hid hv
  have HA := Lib.hid ha
  have HC := Lib.hid hc
  have HB := Lib.hid hb
  have HR := Lib.hid hr
  have HN := Lib.hid hn
  clear hv ha hc hb hr hn
  go_enter Tryd.func5, Tryd.ntmps5
  go_upto_region 2 with fail
  go_cut [8] (fun v wx => v = .bool true ∧ wx = w)
  case first =>
    go_wp2_with fail
    refine (do_is 1 a b S _ HB.out HR.out.s1 rfl).mono ?_
    rintro e w1 ⟨rfl, rfl⟩
    go_wp2_with fail
    refine (do_is 1 b a S _ HA.out HR.out.s2 rfl).mono ?_
    rintro e w1 ⟨rfl, rfl⟩
    go_wp2_with fail
    refine (do_is 3 a b P _ HB.out HR.out.p1 rfl).mono ?_
    rintro e w1 ⟨rfl, rfl⟩
    go_wp2_with fail
    refine (do_is 3 b a P _ HA.out HR.out.p2 rfl).mono ?_
    rintro e w1 ⟨rfl, rfl⟩
    go_wp2_with fail
    refine (do_is 1 a b S _ HB.out HR.out.s1 rfl).mono ?_
    rintro e w1 ⟨rfl, rfl⟩
    go_wp2_with fail
    refine (do_is 1 S c T _ HC.out HR.out.t1 rfl).mono ?_
    rintro e w1 ⟨rfl, rfl⟩
    go_wp2_with fail
    refine (do_is 1 b c U _ HC.out HR.out.u1 rfl).mono ?_
    rintro e w1 ⟨rfl, rfl⟩
    go_wp2_with fail
    refine (do_is 1 a U T _ HR.out.iU HR.out.t2 rfl).mono ?_
    rintro e w1 ⟨rfl, rfl⟩
    go_wp2_with fail
    refine (do_is 3 a b P _ HB.out HR.out.p1 rfl).mono ?_
    rintro e w1 ⟨rfl, rfl⟩
    go_wp2_with fail
    refine (do_is 3 P c Q _ HC.out HR.out.q1 rfl).mono ?_
    rintro e w1 ⟨rfl, rfl⟩
    go_wp2_with fail
    refine (do_is 3 b c V _ HC.out HR.out.v1 rfl).mono ?_
    rintro e w1 ⟨rfl, rfl⟩
    go_wp2_with fail
    refine (do_is 3 a V Q _ HR.out.iV HR.out.q2 rfl).mono ?_
    rintro e w1 ⟨rfl, rfl⟩
    go_wp2_with fail
    refine (do_is 1 b c U _ HC.out HR.out.u1 rfl).mono ?_
    rintro e w1 ⟨rfl, rfl⟩
    go_wp2_with fail
    refine (do_is 3 a U R _ HR.out.iU HR.out.r1 rfl).mono ?_
    rintro e w1 ⟨rfl, rfl⟩
    go_wp2_with fail
    refine (do_is 3 a b P _ HB.out HR.out.p1 rfl).mono ?_
    rintro e w1 ⟨rfl, rfl⟩
    go_wp2_with fail
    refine (do_is 3 a c X _ HC.out HR.out.x1 rfl).mono ?_
    rintro e w1 ⟨rfl, rfl⟩
    go_wp2_with fail
    refine (do_is 1 P X R _ HR.out.iX HR.out.r2 rfl).mono ?_
    rintro e w1 ⟨rfl, rfl⟩
    go_wp2_with fail
    refine (do_is 1 a b S _ HB.out HR.out.s1 rfl).mono ?_
    rintro e w1 ⟨rfl, rfl⟩
    go_wp2_with fail
    refine (do_is 2 S b a _ HB.out HR.out.a1 rfl).mono ?_
    rintro e w1 ⟨rfl, rfl⟩
    go_wp2_with fail
    refine (do_is 18 a 0 N _ ⟨by decide, by decide⟩ HR.out.n1 rfl).mono ?_
    rintro e w1 ⟨rfl, rfl⟩
    go_wp2_with fail
    refine (do_is 18 N 0 a _ ⟨by decide, by decide⟩ HR.out.a2 rfl).mono ?_
    rintro e w1 ⟨rfl, rfl⟩
    go_wp2_with fail
    go_meet
    exact ⟨rfl, rfl⟩
  case rest =>
    obtain ⟨rfl, rfl⟩ := hcut
    go_upto_region 3 with fail
    go_cut [9] (fun v wx => v = .bool true ∧ wx = wc)
    case first =>
      have hbs : (wrap64 (A + O) == S) = true := by rw [HR.out.b3]; exact beq_self_eq_true S
      go_wp2_with fail
      refine (do_is 8 a b Y _ HB.out HR.out.y1 rfl).mono ?_
      rintro e w1 ⟨rfl, rfl⟩
      go_wp2_with fail
      refine (do_is 8 Y b a _ HB.out HR.out.a3 rfl).mono ?_
      rintro e w1 ⟨rfl, rfl⟩
      go_wp2_with fail
      refine (do_is 21 a 0 Z _ ⟨by decide, by decide⟩ HR.out.z1 rfl).mono ?_
      rintro e w1 ⟨rfl, rfl⟩
      go_wp2_with fail
      refine (do_is 21 Z 0 a _ ⟨by decide, by decide⟩ HR.out.a4 rfl).mono ?_
      rintro e w1 ⟨rfl, rfl⟩
      go_wp2_with fail
      refine (do_is 6 a b A _ HB.out HR.out.b1 rfl).mono ?_
      rintro e w1 ⟨rfl, rfl⟩
      go_wp2_with fail
      refine (do_is 7 a b O _ HB.out HR.out.b2 rfl).mono ?_
      rintro e w1 ⟨rfl, rfl⟩
      go_wp2_with fail
      refine (do_is 1 a b S _ HB.out HR.out.s1 rfl).mono ?_
      rintro e w1 ⟨rfl, rfl⟩
      go_wp2_with fail
      refine (do_is 21 a 0 Z _ ⟨by decide, by decide⟩ HR.out.z1 rfl).mono ?_
      rintro e w1 ⟨rfl, rfl⟩
      go_wp2_with fail
      refine (do_is 18 a 0 N _ ⟨by decide, by decide⟩ HR.out.n1 rfl).mono ?_
      rintro e w1 ⟨rfl, rfl⟩
      go_wp2_with fail
      refine (do_is 2 N 1 Z _ ⟨by decide, by decide⟩ HR.out.z2 rfl).mono ?_
      rintro e w1 ⟨rfl, rfl⟩
      go_wp2_with fail
      go_meet
      exact ⟨rfl, rfl⟩
    case rest =>
      obtain ⟨rfl, rfl⟩ := hcut
      by_cases h0 : b = 0
      · subst h0
        clear HN
        go_wp2_with fail
        refine (arith_err 4 a 0 20 _ HB.out rfl rfl).mono ?_
        rintro e w1 ⟨rfl, rfl⟩
        go_wp2_with fail
        refine (arith_err 5 a 0 20 _ HB.out rfl rfl).mono ?_
        rintro e w1 ⟨rfl, rfl⟩
        go_wp2_with fail
        refine (awake_any _ HV.out).mono ?_
        rintro e w1 ⟨rfl, b1⟩
        go_wp2
        go_ret
        exact ⟨rfl, b1⟩
      · obtain ⟨q, r, M, d1, d2, d3, d4, d5, d6, d7, d8, hn⟩ := HN.out h0
        have hb0 : (b == 0) = false := by simpa using h0
        have D1 := Lib.hid d1
        have D2 := Lib.hid d2
        have D3 := Lib.hid d3
        have D4 := Lib.hid d4
        have D5 := Lib.hid d5
        have D6 := Lib.hid d6
        have D7 := Lib.hid d7
        have D8 := Lib.hid d8
        clear h0 HN d1 d2 d3 d4 d5 d6 d7 d8
        rcases hn with rfl | ⟨n1, n2, n3⟩ | ⟨n1, n2, n3⟩
        · go_wp2_with fail
          refine (do_is 4 a b q _ HB.out D1.out D3.out).mono ?_
          rintro e w1 ⟨rfl, rfl⟩
          go_wp2_with fail
          refine (do_is 5 a b 0 _ HB.out D2.out D4.out).mono ?_
          rintro e w1 ⟨rfl, rfl⟩
          go_wp2_with fail
          refine (do_is 3 b q M _ D7.out D5.out rfl).mono ?_
          rintro e w1 ⟨rfl, rfl⟩
          go_wp2_with fail
          refine (do_is 1 M 0 a _ D8.out D6.out rfl).mono ?_
          rintro e w1 ⟨rfl, rfl⟩
          go_wp2_with fail
          refine (awake_any _ HV.out).mono ?_
          rintro e w1 ⟨rfl, b1⟩
          go_wp2
          go_ret
          exact ⟨rfl, b1⟩
        · have e1 : decide (r < 0) = true := by simp; omega
          have e2 : decide (b < 0) = true := by simp; omega
          have e3 : (r == 0) = false := by simp; omega
          have e4 : decide (b < r) = true := by simp; omega
          have e5 : decide (0 < b) = false := by simp; omega
          go_wp2_with fail
          refine (do_is 4 a b q _ HB.out D1.out D3.out).mono ?_
          rintro e w1 ⟨rfl, rfl⟩
          go_wp2_with fail
          refine (do_is 5 a b r _ HB.out D2.out D4.out).mono ?_
          rintro e w1 ⟨rfl, rfl⟩
          go_wp2_with fail
          refine (do_is 3 b q M _ D7.out D5.out rfl).mono ?_
          rintro e w1 ⟨rfl, rfl⟩
          go_wp2_with fail
          refine (do_is 1 M r a _ D8.out D6.out rfl).mono ?_
          rintro e w1 ⟨rfl, rfl⟩
          go_wp2_with fail
          refine (awake_any _ HV.out).mono ?_
          rintro e w1 ⟨rfl, b1⟩
          go_wp2
          go_ret
          exact ⟨rfl, b1⟩
        · have e1 : decide (r < 0) = false := by simp; omega
          have e2 : decide (b < 0) = false := by simp; omega
          have e3 : (r == 0) = false := by simp; omega
          have e4 : decide (r < b) = true := by simp; omega
          have e5 : decide (0 < b) = true := by simp; omega
          go_wp2_with fail
          refine (do_is 4 a b q _ HB.out D1.out D3.out).mono ?_
          rintro e w1 ⟨rfl, rfl⟩
          go_wp2_with fail
          refine (do_is 5 a b r _ HB.out D2.out D4.out).mono ?_
          rintro e w1 ⟨rfl, rfl⟩
          go_wp2_with fail
          refine (do_is 3 b q M _ D7.out D5.out rfl).mono ?_
          rintro e w1 ⟨rfl, rfl⟩
          go_wp2_with fail
          refine (do_is 1 M r a _ D8.out D6.out rfl).mono ?_
          rintro e w1 ⟨rfl, rfl⟩
          go_wp2_with fail
          refine (awake_any _ HV.out).mono ?_
          rintro e w1 ⟨rfl, b1⟩
          go_wp2
          go_ret
          exact ⟨rfl, b1⟩

theorem intsRings_walk (a b c : Int) (w : World) (ha : In64 a) (hb : In64 b) (hc : In64 c) (hv : Vars w) :
    Calls Tryd.prog 5 #[.int .i64 a, .int .i64 b, .int .i64 c] w fun e w' => e = .returned (.bool true) ∧ Below w.heap.size w w' :=
  intsRings_at _ _ _ _ _ _ _ _ _ _ _ _ _ _ _ _ w ha hb hc (ring_any a b c ha hb) hv

end Go.Proofs.YtboclbmankbngaaDoor
