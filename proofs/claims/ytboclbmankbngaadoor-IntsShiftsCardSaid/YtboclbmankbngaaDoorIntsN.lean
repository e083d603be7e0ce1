/-
  IntsShifts.
-/
import Derived.Test.YtboclbmankbngaaDoorIntsK
namespace Go.Proofs.YtboclbmankbngaaDoor
open Go.RowKit

theorem shift_is (o x y n : Int) (w : World) (hy : In64 y) (hn : arithN o x y = n) (he : arithE o y = 0) :
    Calls Tryd.prog 20 #[.int .u8 o, .int .i64 x, .int .i64 y] w fun e w' => e = .returned (.int .i64 n) ∧ w = w' := by
  have c := arith_is o x y n w hy hn he
  clear hn he
  go_enter Tryd.func20, Tryd.ntmps20
  go_wp2_with fail
  refine c.mono ?_
  rintro e w1 ⟨rfl, rfl⟩
  go_wp2
  go_ret
  exact ⟨rfl, rfl⟩

theorem shl_zero {a : Int} (h : In64 a) : shl64 a 0 = a := by unfold shl64; rw [BitVec.shiftLeft_zero, toInt_bv h]
theorem shl_is (a : Int) (x : Nat) : arithN 9 a x = shl64 a x := by
  show move64 a x true = _
  rw [move64, if_neg (by omega), if_pos rfl, Int.toNat_natCast]
theorem shr_is (a : Int) (x : Nat) : arithN 10 a x = shr64 a x := by
  show move64 a x false = _
  rw [move64, if_neg (by omega), if_neg (by decide), Int.toNat_natCast]
theorem shl_back (a : Int) (x : Nat) : arithN 9 a (-(x : Int)) = shr64 a x := by
  show move64 a (-(x : Int)) true = _
  by_cases h : x = 0
  · subst h; rw [move64, if_neg (by decide), if_pos rfl]; unfold shl64 shr64; simp
  · rw [move64, if_pos (by omega), if_pos rfl]; congr 1; omega
theorem shr_back (a : Int) (x : Nat) : arithN 10 a (-(x : Int)) = shl64 a x := by
  show move64 a (-(x : Int)) false = _
  by_cases h : x = 0
  · subst h; rw [move64, if_neg (by decide), if_neg (by decide)]; unfold shl64 shr64; simp
  · rw [move64, if_pos (by omega), if_neg (by decide)]; congr 1; omega
theorem shl_twice (a : Int) (x y : Nat) : shl64 (shl64 a x) y = shl64 a (x + y) := by unfold shl64; rw [bv_toInt, ← BitVec.shiftLeft_add]
theorem shr_twice (a : Int) (x y : Nat) : shr64 (shr64 a x) y = shr64 a (x + y) := by unfold shr64; rw [bv_toInt, ← BitVec.shiftRight_add]
theorem shl_double (a : Int) (k : Nat) : arithN 3 (shl64 a k) 2 = shl64 a (k + 1) := by
  show wrap64 (shl64 a k * 2) = _
  unfold shl64
  rw [BitVec.shiftLeft_add, BitVec.shiftLeft_eq_mul_twoPow (bv a <<< k) 1, BitVec.toInt_mul, wrap64_bmod]
  rfl

set_option maxHeartbeats 2000000 in
set_option maxRecDepth 100000 in
theorem intsShifts_walk (a one two : Int) (w : World) (ha : In64 a) (h1 : 0 ≤ one ∧ one ≤ 255) (h2 : 0 ≤ two ∧ two ≤ 255) (hv : Vars w) :
    Calls Tryd.prog 6 #[.int .i64 a, .int .u8 one, .int .u8 two] w fun e w' => e = .returned (.bool true) ∧ Below w.heap.size w w' := by
  obtain ⟨x, hx⟩ : ∃ x : Nat, one % 101 = x := ⟨(one % 101).toNat, by omega⟩
  obtain ⟨y, hy⟩ : ∃ y : Nat, two % 101 = y := ⟨(two % 101).toNat, by omega⟩
  obtain ⟨o1, o2⟩ := h1
  obtain ⟨t1, t2⟩ := h2
  have hx9 : (x : Int) ≤ 100 := by omega
  have hy9 : (y : Int) ≤ 100 := by omega
  have HV := Lib.hid hv
  have HA := Lib.hid ha
  have i1 : In64 x := by unfold In64; omega
  have i2 : In64 y := by unfold In64; omega
  have i3 : In64 ((x : Int) + y) := by unfold In64; omega
  have i4 : In64 (-(x : Int)) := by unfold In64; omega
  have k1 := shl_twice a x y
  have k2 := shr_twice a x y
  have c1 := fun w => shift_is 9 a x (shl64 a x) w i1 (shl_is a x) rfl
  have c2 := fun w => shift_is 9 (shl64 a x) y (shl64 a (x + y)) w i2 ((shl_is _ y).trans k1) rfl
  have c3 := fun w => shift_is 9 a ((x : Int) + y) (shl64 a (x + y)) w i3 (shl_is a (x + y)) rfl
  have c4 := fun w => shift_is 10 a x (shr64 a x) w i1 (shr_is a x) rfl
  have c5 := fun w => shift_is 10 (shr64 a x) y (shr64 a (x + y)) w i2 ((shr_is _ y).trans k2) rfl
  have c6 := fun w => shift_is 10 a ((x : Int) + y) (shr64 a (x + y)) w i3 (shr_is a (x + y)) rfl
  have c7 := fun w => shift_is 9 a (-(x : Int)) (shr64 a x) w i4 (shl_back a x) rfl
  have c8 := fun w => shift_is 10 a (-(x : Int)) (shl64 a x) w i4 (shr_back a x) rfl
  have hz := Lib.hid (shl_zero ha)
  clear ha hv i1 i2 i3 i4 k1 k2
  go_enter Tryd.func6, Tryd.ntmps6
  go_wp2_with fail
  refine (c1 _).mono ?_
  rintro e w1 ⟨rfl, rfl⟩
  go_wp2_with fail
  refine (c2 _).mono ?_
  rintro e w1 ⟨rfl, rfl⟩
  go_wp2_with fail
  refine (c3 _).mono ?_
  rintro e w1 ⟨rfl, rfl⟩
  go_wp2_with fail
  refine (c4 _).mono ?_
  rintro e w1 ⟨rfl, rfl⟩
  go_wp2_with fail
  refine (c5 _).mono ?_
  rintro e w1 ⟨rfl, rfl⟩
  go_wp2_with fail
  refine (c6 _).mono ?_
  rintro e w1 ⟨rfl, rfl⟩
  go_wp2_with fail
  refine (c7 _).mono ?_
  rintro e w1 ⟨rfl, rfl⟩
  go_wp2_with fail
  refine (c4 _).mono ?_
  rintro e w1 ⟨rfl, rfl⟩
  go_wp2_with fail
  refine (c8 _).mono ?_
  rintro e w1 ⟨rfl, rfl⟩
  go_wp2_with fail
  refine (c1 _).mono ?_
  rintro e w1 ⟨rfl, rfl⟩
  clear c2 c3 c4 c5 c6 c7 c8
  go_wp2
  go_loop [10, 11] (fun n i => ∃ k : Nat, (k : Int) ≤ x ∧ i = .int .i64 k ∧ n = .int .i64 (shl64 a k)) (fun _ i => x - (intOf i).toNat)
  case atStart => exact ⟨0, by omega, rfl, by rw [hz.out]⟩
  case round =>
    obtain ⟨k, hk, rfl, rfl⟩ := hrel
    by_cases hlt : (k : Int) < x
    · have d := fun w => shift_is 3 (shl64 a k) 2 (shl64 a (k + 1)) w ⟨by decide, by decide⟩ (shl_double a k) rfl
      go_wp2_with fail
      refine (d _).mono ?_
      rintro e w1 ⟨rfl, rfl⟩
      go_wp2
      go_round
      case rel => exact ⟨k + 1, by omega, by go_num, rfl⟩
      case measure => simp only [intOf]; omega
    · obtain rfl : k = x := by omega
      go_wp2_with fail
      refine (c1 _).mono ?_
      rintro e w1 ⟨rfl, rfl⟩
      go_wp2_with fail
      refine (awake_any _ HV.out).mono ?_
      rintro e w1 ⟨rfl, b1⟩
      go_wp2
      go_ret
      exact ⟨rfl, b1⟩

end Go.Proofs.YtboclbmankbngaaDoor
