/-
  The reference's arithmetic: bits, moved, quotient, Arith: the same answers as package ints.
-/
import Derived.Test.YtboclbmankbngaaDoorIntsA
namespace Go.Proofs.YtboclbmankbngaaDoor
open Go.RowKit

theorem ret_bool {a b : Bool} (h : a = b) : Ending.returned (.bool a) = .returned (.bool b) := by rw [h]

set_option maxHeartbeats 400000 in
theorem ref_bit (a i : Int) (w : World) (hi : In64 i) :
    Calls Tryd.prog 37 #[.int .i64 a, .int .i64 i] w fun e w' => e = .returned (.bool (bitI a i)) ∧ w = w' := by
  unfold In64 at hi
  rcases Int.lt_or_le i 0 with h | h
  · have hd : decide (0 ≤ i) = false := by simp; omega
    go_enter Tryd.func37, Tryd.ntmps37
    go_wp2
    go_ret
    exact ⟨ret_bool (bitI_low h).symm, rfl⟩
  · have h' : decide (0 ≤ i) = true := by simp; omega
    rcases Int.lt_or_le i 64 with g | g
    · have g' : decide (i < 64) = true := by simp; omega
      have e : IntKind.u64.wrap i = i := by rw [IntKind.wrap_u64]; omega
      have hx : bits .and .u64 (IntKind.u64.wrap a / 2 ^ i.toNat) 1 = IntKind.u64.wrap a / 2 ^ i.toNat % 2 := by
        have h1 : (0 : Int) ≤ IntKind.u64.wrap a / 2 ^ i.toNat := Int.ediv_nonneg (by rw [IntKind.wrap_u64]; omega) (Int.le_of_lt (Int.pow_pos (by decide)))
        have h2 : IntKind.u64.wrap a / 2 ^ i.toNat < 18446744073709551616 := by
          refine Int.lt_of_le_of_lt (Int.ediv_le_self _ (by rw [IntKind.wrap_u64]; omega)) ?_
          rw [IntKind.wrap_u64]; omega
        rw [u64_and _ _ h1 h2 (by decide) (by decide), show (1 : Int).toNat = 1 from rfl, nat_mask1]
        omega
      have hb := bitI_div (a := a) h g
      rw [← IntKind.wrap_u64] at hb
      have HX := Lib.hid hx
      have HB := Lib.hid hb
      have HE := Lib.hid e
      clear hx hb e
      go_enter Tryd.func37, Tryd.ntmps37
      go_wp2
      go_ret
      refine ⟨ret_bool ?_, rfl⟩
      rw [HX.out, HB.out]
      rfl
    · have g' : decide (i < 64) = false := by simp; omega
      go_enter Tryd.func37, Tryd.ntmps37
      go_wp2
      go_ret
      exact ⟨ret_bool (bitI_high g).symm, rfl⟩

theorem ref_quotient (a b : Int) (w : World) (hb : b ≠ 0) (hin : In64 b) :
    Calls Tryd.prog 24 #[.int .i64 a, .int .i64 b] w fun e w' => e = .returned (.int .i64 (quo64 a b)) ∧ w = w' := by
  have hb' : (b == 0) = false := by simpa using hb
  have hl := Lib.hid (left_over a b hin hb)
  go_enter Tryd.func24, Tryd.ntmps24
  go_wp2
  all_goals
    go_ret
    refine ⟨ret_i64 ?_, rfl⟩
    unfold quo64
    rw [← hl.out]
    split
    all_goals (first | rfl | (exfalso; simp_all; done) | (exfalso; simp_all; omega))

/-- The bits that the reference puts together. -/
def bitsB (what : Int) (x y : Bool) : Bool := if what = 1 then x && y else if what = 2 then x || y else if what = 3 then x != y else !x

theorem bit_added {X : BitVec 64} {k : Nat} (h : low X (k + 1) = low X k + 2 ^ k) :
    Value.int IntKind.u64 (IntKind.u64.wrap (((low X k : Nat) : Int) + IntKind.u64.wrap (2 ^ k))) = Value.int IntKind.u64 ((low X (k + 1) : Nat) : Int) := by
  have h1 := low_lt X (k + 1)
  have e : ((2 : Int) ^ k) = ((2 ^ k : Nat) : Int) := by simp
  congr 1
  rw [e, IntKind.wrap_u64, IntKind.wrap_u64, h]
  rw [h] at h1
  generalize 2 ^ k = p at *
  omega
theorem bits_summed (X : BitVec 64) : wrap64 ((low X 64 : Nat) : Int) = X.toInt := by rw [low_all, ← IntWalk.i64_left, wrap_i64_toNat]

set_option maxHeartbeats 2000000 in
theorem ref_bits4 (what a b : Int) (X : BitVec 64) (w : World) (hw : what = 1 ∨ what = 2 ∨ what = 3 ∨ what = 4)
    (hX : ∀ k : Nat, k < 64 → X.getLsbD k = bitsB what (bitI a k) (bitI b k)) :
    Calls Tryd.prog 25 #[.int .i64 what, .int .i64 a, .int .i64 b] w fun e w' => e = .returned (.int .i64 X.toInt) ∧ w = w' := by
  have HX := Lib.hid hX
  clear hX
  rcases hw with rfl | rfl | rfl | rfl
  all_goals
    go_enter Tryd.func25, Tryd.ntmps25
    go_wp2
    go_loop [7, 8] (fun n i => ∃ k : Nat, k ≤ 64 ∧ i = .int .i64 k ∧ n = .int .u64 (low X k : Nat)) (fun _ i => 64 - (intOf i).toNat)
    case atStart => exact ⟨0, by omega, rfl, by rw [low_zero]; rfl⟩
    case round =>
      obtain ⟨k, hk, rfl, rfl⟩ := hrel
      by_cases hlt : k < 64
      · have hx := HX.out k hlt
        have ly := low_yes X k
        have ln := low_no X k
        rw [hx] at ly ln
        have LY := Lib.hid ly
        have LN := Lib.hid ln
        clear hx ly ln
        have c1 := fun w => ref_bit a k w (by unfold In64; omega)
        have c2 := fun w => ref_bit b k w (by unfold In64; omega)
        revert c1 c2 LY LN
        generalize bitI a k = x
        generalize bitI b k = y
        intro LY LN c1 c2
        go_wp2_with fail
        refine (c1 _).mono ?_
        rintro e w1 ⟨rfl, rfl⟩
        go_wp2_with fail
        refine (c2 _).mono ?_
        rintro e w1 ⟨rfl, rfl⟩
        clear c1 c2
        cases x <;> cases y
        all_goals
          go_wp2
          go_round
          case rel => (first | exact ⟨k + 1, by omega, by go_num, by rw [LN.out rfl]⟩ | exact ⟨k + 1, by omega, by go_num, bit_added (LY.out rfl)⟩)
          case measure => simp only [intOf]; omega
      · obtain rfl : k = 64 := by omega
        go_wp2
        go_ret
        exact ⟨ret_i64 (bits_summed X), rfl⟩

set_option maxHeartbeats 2000000 in
theorem ref_bits5 (a b : Int) (X : BitVec 64) (w : World) (hb : -64 ≤ b ∧ b ≤ 64)
    (hX : ∀ k : Nat, k < 64 → X.getLsbD k = bitI a (k - b)) :
    Calls Tryd.prog 25 #[.int .i64 5, .int .i64 a, .int .i64 b] w fun e w' => e = .returned (.int .i64 X.toInt) ∧ w = w' := by
  obtain ⟨b1, b2⟩ := hb
  have HX := Lib.hid hX
  clear hX
  go_enter Tryd.func25, Tryd.ntmps25
  go_wp2
  go_loop [7, 8] (fun n i => ∃ k : Nat, k ≤ 64 ∧ i = .int .i64 k ∧ n = .int .u64 (low X k : Nat)) (fun _ i => 64 - (intOf i).toNat)
  case atStart => exact ⟨0, by omega, rfl, by rw [low_zero]; rfl⟩
  case round =>
    obtain ⟨k, hk, rfl, rfl⟩ := hrel
    by_cases hlt : k < 64
    · have hx := HX.out k hlt
      have ly := low_yes X k
      have ln := low_no X k
      rw [hx] at ly ln
      have LY := Lib.hid ly
      have LN := Lib.hid ln
      clear hx ly ln
      go_wp2_with fail
      refine (ref_bit a k _ (by unfold In64; omega)).mono ?_
      rintro e w1 ⟨rfl, rfl⟩
      go_wp2_with fail
      refine (ref_bit b k _ (by unfold In64; omega)).mono ?_
      rintro e w1 ⟨rfl, rfl⟩
      go_wp2_with fail
      refine (ref_bit a (k - b) _ (by unfold In64; omega)).mono ?_
      rintro e w1 ⟨rfl, rfl⟩
      revert LY LN
      generalize bitI a (k - b) = x
      intro LY LN
      cases x
      · have L := Lib.hid (LN.out rfl)
        clear LY LN
        go_wp2
        go_round
        case rel => exact ⟨k + 1, by omega, by go_num, by rw [L.out]⟩
        case measure => simp only [intOf]; omega
      · have L := Lib.hid (LY.out rfl)
        clear LY LN
        go_wp2
        go_round
        case rel => exact ⟨k + 1, by omega, by go_num, bit_added L.out⟩
        case measure => simp only [intOf]; omega
    · obtain rfl : k = 64 := by omega
      go_wp2
      go_ret
      exact ⟨ret_i64 (bits_summed X), rfl⟩

/-! ### The five -/
theorem ref_and (a b : Int) (w : World) : Calls Tryd.prog 25 #[.int .i64 1, .int .i64 a, .int .i64 b] w fun e w' => e = .returned (.int .i64 (bits .and .i64 a b)) ∧ w = w' := by
  rw [bits_and_i64]
  exact ref_bits4 1 a b _ w (by decide) fun k hk => by rw [bitI_nat a k hk, bitI_nat b k hk, BitVec.getLsbD_and]; rfl
theorem ref_or (a b : Int) (w : World) : Calls Tryd.prog 25 #[.int .i64 2, .int .i64 a, .int .i64 b] w fun e w' => e = .returned (.int .i64 (bits .or .i64 a b)) ∧ w = w' := by
  rw [bits_or_i64]
  exact ref_bits4 2 a b _ w (by decide) fun k hk => by rw [bitI_nat a k hk, bitI_nat b k hk, BitVec.getLsbD_or]; rfl
theorem ref_xor (a b : Int) (w : World) : Calls Tryd.prog 25 #[.int .i64 3, .int .i64 a, .int .i64 b] w fun e w' => e = .returned (.int .i64 (bits .xor .i64 a b)) ∧ w = w' := by
  rw [bits_xor_i64]
  exact ref_bits4 3 a b _ w (by decide) fun k hk => by
    rw [bitI_nat a k hk, bitI_nat b k hk, BitVec.getLsbD_xor]; cases (bv a).getLsbD k <;> cases (bv b).getLsbD k <;> rfl
theorem ref_not (a b : Int) (w : World) : Calls Tryd.prog 25 #[.int .i64 4, .int .i64 a, .int .i64 b] w fun e w' => e = .returned (.int .i64 (bits .xor .i64 (-1) a)) ∧ w = w' := by
  rw [bits_not_i64]
  exact ref_bits4 4 a b _ w (by decide) fun k hk => by
    rw [bitI_nat a k hk, BitVec.getLsbD_not, decide_eq_true hk]; rfl
theorem ref_shifted (a b : Int) (w : World) (hb : -64 ≤ b ∧ b ≤ 64) :
    Calls Tryd.prog 25 #[.int .i64 5, .int .i64 a, .int .i64 b] w fun e w' => e = .returned (.int .i64 (if b < 0 then shr64 a (-b).toNat else shl64 a b.toNat)) ∧ w = w' := by
  by_cases h : b < 0
  · rw [if_pos h]
    exact ref_bits5 a b _ w hb fun k hk => by
      rw [BitVec.getLsbD_ushiftRight]
      by_cases g : (k : Int) - b < 64
      · have e : ((k : Int) - b) = (((-b).toNat + k : Nat) : Int) := by omega
        rw [e, bitI_nat a _ (by omega)]
      · rw [bitI_high (by omega), BitVec.getLsbD_of_ge _ _ (by omega)]
  · rw [if_neg h]
    exact ref_bits5 a b _ w hb fun k hk => by
      rw [BitVec.getLsbD_shiftLeft, decide_eq_true hk]
      by_cases g : (k : Int) - b < 0
      · rw [bitI_low g, decide_eq_true (show k < b.toNat by omega)]; rfl
      · have e : ((k : Int) - b) = ((k - b.toNat : Nat) : Int) := by omega
        rw [e, bitI_nat a _ (by omega), decide_eq_false (show ¬ k < b.toNat by omega)]; rfl

theorem shl_over (a : Int) (n : Nat) (h : 64 ≤ n) : shl64 a n = 0 := by
  unfold shl64; rw [BitVec.shiftLeft_eq_zero h]; rfl
theorem shr_over (a : Int) (n : Nat) (h : 64 ≤ n) : shr64 a n = 0 := by
  unfold shr64; rw [BitVec.ushiftRight_eq_zero h]; rfl

/-- a's bits, b places to the left. -/
def moved64 (a b : Int) : Int := if b < 0 then shr64 a (-b).toNat else shl64 a b.toNat

set_option maxHeartbeats 400000 in
theorem ref_moved (a b : Int) (w : World) :
    Calls Tryd.prog 26 #[.int .i64 a, .int .i64 b] w fun e w' => e = .returned (.int .i64 (moved64 a b)) ∧ w = w' := by
  by_cases h1 : 64 < b
  · have c := fun w => ref_shifted a 64 w (by decide)
    have e : (if (64 : Int) < 0 then shr64 a (-64 : Int).toNat else shl64 a (64 : Int).toNat) = moved64 a b := by
      rw [if_neg (by decide), moved64, if_neg (by omega), shl_over a b.toNat (by omega), shl_over a _ (by decide)]
    rw [e] at c
    go_enter Tryd.func26, Tryd.ntmps26
    go_wp2_with fail
    refine (c _).mono ?_
    rintro e w1 ⟨rfl, rfl⟩
    go_wp2
    go_ret
    exact ⟨rfl, rfl⟩
  · by_cases h2 : b < -64
    · have c := fun w => ref_shifted a (-64) w (by decide)
      have e : (if (-64 : Int) < 0 then shr64 a (-(-64) : Int).toNat else shl64 a (-64 : Int).toNat) = moved64 a b := by
        rw [if_pos (by decide), moved64, if_pos (by omega), shr_over a (-b).toNat (by omega), shr_over a _ (by decide)]
      rw [e] at c
      go_enter Tryd.func26, Tryd.ntmps26
      go_wp2_with fail
      refine (c _).mono ?_
      rintro e w1 ⟨rfl, rfl⟩
      go_wp2
      go_ret
      exact ⟨rfl, rfl⟩
    · have c := fun w => ref_shifted a b w (by omega)
      rw [show (if b < 0 then shr64 a (-b).toNat else shl64 a b.toNat) = moved64 a b from rfl] at c
      go_enter Tryd.func26, Tryd.ntmps26
      go_wp2_with fail
      refine (c _).mono ?_
      rintro e w1 ⟨rfl, rfl⟩
      go_wp2
      go_ret
      exact ⟨rfl, rfl⟩

theorem move_true (a b : Int) : moved64 a b = move64 a b true := rfl
theorem move_false (a b : Int) : moved64 a (-b) = move64 a b false := by
  unfold moved64 move64
  simp only [Bool.false_eq_true, if_false, Int.neg_neg]
  by_cases h : b < 0
  · rw [if_neg (by omega), if_pos h]
  · rw [if_neg h]
    by_cases h0 : b = 0
    · subst h0; rw [if_neg (by decide)]; unfold shl64 shr64; simp
    · rw [if_pos (by omega)]

set_option maxHeartbeats 2000000 in
theorem ref_arith (o a b : Int) (w : World) (hb : In64 b) (ho : 0 ≤ o ∧ o ≤ 255) :
    Calls Tryd.prog 14 #[.int .u8 o, .int .i64 a, .int .i64 b] w (ArithSays o a b w) := by
  by_cases h4 : o = 4 ∨ o = 5
  · by_cases h0 : b = 0
    · subst h0
      rcases h4 with rfl | rfl
      all_goals
        go_enter Tryd.func14, Tryd.ntmps14
        go_wp2
        go_ret2
        exact says_at rfl rfl
    · have hb' : (b == 0) = false := by simpa using h0
      have H0 := Lib.hid h0
      have HB := Lib.hid hb
      clear h0 hb
      rcases h4 with rfl | rfl
      · go_enter Tryd.func14, Tryd.ntmps14
        go_wp2_with fail
        refine (ref_quotient a b _ H0.out HB.out).mono ?_
        rintro e w1 ⟨rfl, rfl⟩
        go_wp2
        go_ret2
        exact says_at (by rw [arithN, if_neg (by decide), if_neg (by decide), if_neg (by decide), if_pos rfl, divN, if_neg H0.out, if_pos rfl]) (by rw [arithE, if_pos (by decide), divE, if_neg H0.out])
      · go_enter Tryd.func14, Tryd.ntmps14
        go_wp2_with fail
        refine (ref_quotient a b _ H0.out HB.out).mono ?_
        rintro e w1 ⟨rfl, rfl⟩
        go_wp2
        go_ret2
        exact says_at (by rw [arithN, if_neg (by decide), if_neg (by decide), if_neg (by decide), if_neg (by decide), if_pos rfl, divN, if_neg H0.out, if_neg (by decide)]) (by rw [arithE, if_pos (by decide), divE, if_neg H0.out])
  · by_cases h9 : o = 9
    · subst h9
      go_enter Tryd.func14, Tryd.ntmps14
      go_wp2_with fail
      refine (ref_moved a b _).mono ?_
      rintro e w1 ⟨rfl, rfl⟩
      go_wp2
      go_ret2
      exact says_at rfl rfl
    · by_cases h10 : o = 10
      · subst h10
        unfold In64 at hb
        by_cases hl : b < -64
        · go_enter Tryd.func14, Tryd.ntmps14
          go_wp2_with fail
          refine (ref_moved a 64 _).mono ?_
          rintro e w1 ⟨rfl, rfl⟩
          go_wp2
          go_ret2
          exact says_at (by
            show moved64 a 64 = move64 a b false
            rw [moved64, if_neg (by decide), move64, if_pos (by omega), if_neg (by decide), shl_over a _ (by decide), shl_over a (-b).toNat (by omega)]) rfl
        · go_enter Tryd.func14, Tryd.ntmps14
          go_wp2_with fail
          refine (ref_moved a (-b) _).mono ?_
          rintro e w1 ⟨rfl, rfl⟩
          go_wp2
          go_ret2
          exact says_at (move_false a b) rfl
      · by_cases hk : o = 1 ∨ o = 2 ∨ o = 3 ∨ o = 18
        · rcases hk with rfl | rfl | rfl | rfl
          all_goals
            go_enter Tryd.func14, Tryd.ntmps14
            go_wp2
            go_ret2
            first | exact says_at rfl rfl | exact says_at (by simp [arithN]) rfl
        · by_cases hm : o = 6 ∨ o = 7 ∨ o = 8 ∨ o = 21
          · rcases hm with rfl | rfl | rfl | rfl
            · go_enter Tryd.func14, Tryd.ntmps14
              go_wp2_with fail
              refine (ref_and a b _).mono ?_
              rintro e w1 ⟨rfl, rfl⟩
              go_wp2
              go_ret2
              exact says_at rfl rfl
            · go_enter Tryd.func14, Tryd.ntmps14
              go_wp2_with fail
              refine (ref_or a b _).mono ?_
              rintro e w1 ⟨rfl, rfl⟩
              go_wp2
              go_ret2
              exact says_at rfl rfl
            · go_enter Tryd.func14, Tryd.ntmps14
              go_wp2_with fail
              refine (ref_xor a b _).mono ?_
              rintro e w1 ⟨rfl, rfl⟩
              go_wp2
              go_ret2
              exact says_at rfl rfl
            · go_enter Tryd.func14, Tryd.ntmps14
              go_wp2_with fail
              refine (ref_not a 0 _).mono ?_
              rintro e w1 ⟨rfl, rfl⟩
              go_wp2
              go_ret2
              exact says_at rfl rfl
          · have hn : arithN o a b = 0 := by unfold arithN; simp only [not_or] at *; simp [*]
            have he : arithE o b = 2 := by unfold arithE; simp only [not_or] at *; simp [*]
            have e1 : (o == 1) = false := by simp; omega
            have e2 : (o == 2) = false := by simp; omega
            have e3 : (o == 3) = false := by simp; omega
            have e4 : (o == 4) = false := by simp; omega
            have e5 : (o == 5) = false := by simp; omega
            have e6 : (o == 6) = false := by simp; omega
            have e7 : (o == 7) = false := by simp; omega
            have e8 : (o == 8) = false := by simp; omega
            have e9 : (o == 9) = false := by simp; omega
            have e10 : (o == 10) = false := by simp; omega
            have e18 : (o == 18) = false := by simp; omega
            have e21 : (o == 21) = false := by simp; omega
            clear h4 h9 h10 hk hm
            have HN := Lib.hid hn
            have HE := Lib.hid he
            clear hn he
            go_enter Tryd.func14, Tryd.ntmps14
            go_wp2
            go_ret2
            exact says_at HN.out.symm HE.out.symm

end Go.Proofs.YtboclbmankbngaaDoor
