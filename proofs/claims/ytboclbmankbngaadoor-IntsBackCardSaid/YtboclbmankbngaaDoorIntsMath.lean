/-
  Plain mathematics of 64 bits: nothing of the program.
-/
import Derived.IntWalk
import Derived.Laws.BitsAllLaws
import Derived.Laws.Entries
import Derived.Laws.Bits64
namespace Go.Proofs.YtboclbmankbngaaDoor
open Go.RowKit

theorem wrap64_bmod (n : Int) : wrap64 n = Int.bmod n (2 ^ 64) := by
  unfold wrap64 Int.bmod
  simp only [show ((2 ^ 64 : Nat) : Int) = 18446744073709551616 from rfl]
  split <;> omega

/-- Within what 64 bits with a sign have. -/
def In64 (n : Int) : Prop := -9223372036854775808 ≤ n ∧ n ≤ 9223372036854775807
theorem wrap64_in64 (n : Int) : In64 (wrap64 n) := by unfold In64 wrap64; omega
theorem wrap64_of_in {n : Int} (h : In64 n) : wrap64 n = n := IntWalk.wrap64_in n h

/-! ### Quotients -/
/-- The quotient, rounded down, as both texts reckon it. -/
def quo64 (a b : Int) : Int := if a.tmod b ≠ 0 ∧ (a < 0 ↔ ¬ b < 0) then wrap64 (wrap64 (a.tdiv b) - 1) else wrap64 (a.tdiv b)

theorem quo64_in (a b : Int) : In64 (quo64 a b) := by unfold quo64; split <;> exact wrap64_in64 _

theorem tmod_bound (a b : Int) (hb : b ≠ 0) : -(b.natAbs : Int) < a.tmod b ∧ a.tmod b < b.natAbs := by
  have h := Int.natAbs_tmod a b
  have h2 : a.natAbs % b.natAbs < b.natAbs := Nat.mod_lt _ (by omega)
  omega

theorem tmod_in (a b : Int) (hb : In64 b) (h0 : b ≠ 0) : In64 (a.tmod b) := by
  have := tmod_bound a b h0
  unfold In64 at *
  omega

/-- What is left over, by the wrapped quotient: the remainder. -/
theorem left_over (a b : Int) (hb : In64 b) (h0 : b ≠ 0) : wrap64 (a - wrap64 (wrap64 (a.tdiv b) * b)) = a.tmod b := by
  have e : a - a.tdiv b * b = a.tmod b := by have := Int.mul_tdiv_add_tmod a b; rw [Int.mul_comm]; omega
  rw [← wrap64_of_in (tmod_in a b hb h0)]
  simp only [wrap64_bmod, Int.bmod_mul_bmod, Int.sub_bmod_bmod, e]

/-- a is b times its quotient, and the rest, which is 0 or has b's sign, and is nearer to 0. -/
theorem quo64_rest (a b : Int) (hb : In64 b) (h0 : b ≠ 0) :
    ∃ r : Int, wrap64 (a - wrap64 (b * quo64 a b)) = r ∧ (r = 0 ∨ (r < 0 ∧ b < 0 ∧ b < r) ∨ (0 < r ∧ 0 < b ∧ r < b)) := by
  have e := Int.mul_tdiv_add_tmod a b
  have t := tmod_bound a b h0
  have sg : a.tmod b ≠ 0 → (a < 0 ↔ a.tmod b < 0) := by
    intro h
    rcases Int.lt_or_le a 0 with ha | ha
    · have : 0 ≤ (-a).tmod b := Int.tmod_nonneg b (by omega)
      rw [Int.neg_tmod] at this; omega
    · have : 0 ≤ a.tmod b := Int.tmod_nonneg b ha
      omega
  unfold quo64
  split
  · rename_i h
    refine ⟨a.tmod b + b, ?_, ?_⟩
    · have hin : In64 (a.tmod b + b) := by
        have := sg h.1
        unfold In64 at *; omega
      rw [← wrap64_of_in hin]
      simp only [wrap64_bmod, Int.mul_bmod_bmod, Int.sub_bmod_bmod]
      have e2 : a - b * ((a.tdiv b).bmod (2 ^ 64) - 1) = (a + b) - b * (a.tdiv b).bmod (2 ^ 64) := by rw [Int.mul_sub]; omega
      rw [e2]
      rw [← Int.sub_bmod_bmod (y := b * (a.tdiv b).bmod (2 ^ 64)), Int.mul_bmod_bmod, Int.sub_bmod_bmod]
      congr 1
      omega
    · have := sg h.1
      omega
  · rename_i h
    refine ⟨a.tmod b, ?_, ?_⟩
    · rw [← wrap64_of_in (tmod_in a b hb h0)]
      simp only [wrap64_bmod, Int.mul_bmod_bmod, Int.sub_bmod_bmod]
      congr 1
      omega
    · by_cases hz : a.tmod b = 0
      · exact .inl hz
      · have := sg hz
        omega

/-! ### Bits -/
abbrev bv (a : Int) : BitVec 64 := BitVec.ofInt 64 a

theorem wrap_i64_toNat (x : BitVec 64) : IntKind.i64.wrap (x.toNat : Int) = x.toInt := by
  rw [IntWalk.i64_left, wrap64_bmod, BitVec.toInt_eq_toNat_bmod]
theorem bits_and_i64 (a b : Int) : bits .and .i64 a b = (bv a &&& bv b).toInt := wrap_i64_toNat _
theorem bits_or_i64 (a b : Int) : bits .or .i64 a b = (bv a ||| bv b).toInt := wrap_i64_toNat _
theorem bits_xor_i64 (a b : Int) : bits .xor .i64 a b = (bv a ^^^ bv b).toInt := wrap_i64_toNat _
theorem bits_not_i64 (a : Int) : bits .xor .i64 (-1) a = (~~~ (bv a)).toInt := by
  rw [bits_xor_i64, show bv (-1) = BitVec.allOnes 64 from rfl, BitVec.allOnes_xor]
theorem bv_toInt (x : BitVec 64) : bv x.toInt = x := BitVec.ofInt_toInt
theorem toInt_bv {a : Int} (h : In64 a) : (bv a).toInt = a := by
  rw [BitVec.toInt_ofInt, ← wrap64_bmod, wrap64_of_in h]
theorem toInt_in (x : BitVec 64) : In64 x.toInt := by
  rw [← wrap_i64_toNat, IntWalk.i64_left]; exact wrap64_in64 _
theorem bv_wrap (n : Int) : bv (wrap64 n) = bv n := by
  apply BitVec.eq_of_toInt_eq
  rw [BitVec.toInt_ofInt, BitVec.toInt_ofInt, wrap64_bmod, Int.bmod_bmod]
theorem toNat_bv (a : Int) : (((bv a).toNat : Nat) : Int) = a % 18446744073709551616 := by
  rw [BitVec.toNat_ofInt]
  have : (0 : Int) ≤ a % ((2 ^ 64 : Nat) : Int) := Int.emod_nonneg _ (by decide)
  rw [Int.toNat_of_nonneg this]; rfl

theorem nat_and_or : ∀ (n x y : Nat), x < 2 ^ n → y < 2 ^ n → (x &&& y) + (x ||| y) = x + y
  | 0, x, y, hx, hy => by
    obtain rfl : x = 0 := by omega
    obtain rfl : y = 0 := by omega
    rfl
  | n + 1, x, y, hx, hy => by
    have ih := nat_and_or n (x / 2) (y / 2) (by rw [Nat.pow_succ] at hx; omega) (by rw [Nat.pow_succ] at hy; omega)
    have a1 : (x &&& y) / 2 = x / 2 &&& y / 2 := Nat.and_div_two
    have a2 : (x ||| y) / 2 = x / 2 ||| y / 2 := Nat.or_div_two
    have b1 : (x &&& y) % 2 = (x % 2) &&& (y % 2) := Nat.and_mod_two_pow (n := 1)
    have b2 : (x ||| y) % 2 = (x % 2) ||| (y % 2) := Nat.or_mod_two_pow (n := 1)
    have b3 : ((x % 2) &&& (y % 2)) + ((x % 2) ||| (y % 2)) = x % 2 + y % 2 := by
      rcases Nat.mod_two_eq_zero_or_one x with h | h <;> rcases Nat.mod_two_eq_zero_or_one y with h' | h' <;> rw [h, h'] <;> rfl
    omega

theorem and_or_sum (x y : BitVec 64) : wrap64 ((x &&& y).toInt + (x ||| y).toInt) = wrap64 (x.toInt + y.toInt) := by
  have e : (x &&& y) + (x ||| y) = x + y := by
    apply BitVec.eq_of_toNat_eq
    rw [BitVec.toNat_add, BitVec.toNat_add, BitVec.toNat_and, BitVec.toNat_or, nat_and_or 64 _ _ x.isLt y.isLt]
  rw [wrap64_bmod, wrap64_bmod, ← BitVec.toInt_add, ← BitVec.toInt_add, e]

theorem not_neg (a : Int) : (~~~ (bv a)).toInt = wrap64 (wrap64 (0 - a) - 1) := by
  have e : ~~~ (bv a) = bv (wrap64 (0 - a) - 1) := by
    have h1 : -(bv a) = ~~~ (bv a) + 1#64 := BitVec.neg_eq_not_add _
    have h2 : bv (wrap64 (0 - a) - 1) = bv (-a) - 1#64 := by
      apply BitVec.eq_of_toInt_eq
      rw [BitVec.toInt_sub, BitVec.toInt_ofInt, BitVec.toInt_ofInt, wrap64_bmod]
      rw [show (1#64).toInt = 1 from rfl, Int.bmod_sub_bmod, Int.bmod_sub_bmod, Int.zero_sub]
    rw [h2, show bv (-a) = -(bv a) from BitVec.ofInt_neg, h1]
    simp [BitVec.add_sub_cancel]
  rw [e, BitVec.toInt_ofInt]
  simp only [wrap64_bmod]

/-- A bit by its number, and the sum of the bits. -/
def bitI (a i : Int) : Bool := decide (0 ≤ i ∧ i < 64) && (bv a).getLsbD i.toNat

theorem bitI_div {a i : Int} (h0 : 0 ≤ i) (h1 : i < 64) : bitI a i = decide (a % 18446744073709551616 / 2 ^ i.toNat % 2 = 1) := by
  unfold bitI
  rw [decide_eq_true ⟨h0, h1⟩, Bool.true_and, BitVec.getLsbD, Nat.testBit_eq_decide_div_mod_eq, ← toNat_bv]
  rw [decide_eq_decide]
  constructor
  · intro h
    have : (((bv a).toNat / 2 ^ i.toNat % 2 : Nat) : Int) = 1 := by rw [h]; rfl
    simpa using this
  · intro h
    have : (((bv a).toNat / 2 ^ i.toNat % 2 : Nat) : Int) = 1 := by simpa using h
    omega
theorem bitI_low {a i : Int} (h : i < 0) : bitI a i = false := by unfold bitI; rw [decide_eq_false (by omega)]; rfl
theorem bitI_high {a i : Int} (h : 64 ≤ i) : bitI a i = false := by unfold bitI; rw [decide_eq_false (by omega)]; rfl
theorem bitI_nat (a : Int) (k : Nat) (h : k < 64) : bitI a (k : Int) = (bv a).getLsbD k := by
  unfold bitI; rw [decide_eq_true (by omega)]; simp

/-- The first k bits of x, as a number. -/
def low (x : BitVec 64) (k : Nat) : Nat := x.toNat % 2 ^ k
theorem low_zero (x : BitVec 64) : low x 0 = 0 := by simp [low, Nat.mod_one]
theorem low_all (x : BitVec 64) : low x 64 = x.toNat := Nat.mod_eq_of_lt x.isLt
theorem low_lt (x : BitVec 64) (k : Nat) : low x k < 18446744073709551616 := by
  unfold low
  have : x.toNat % 2 ^ k ≤ x.toNat := Nat.mod_le _ _
  have := x.isLt
  omega
theorem low_yes (x : BitVec 64) (k : Nat) (h : x.getLsbD k = true) : low x (k + 1) = low x k + 2 ^ k := by
  unfold low
  rw [Nat.mod_pow_succ]
  rw [BitVec.getLsbD, Nat.testBit_eq_decide_div_mod_eq] at h
  rw [of_decide_eq_true h, Nat.mul_one]
theorem low_no (x : BitVec 64) (k : Nat) (h : x.getLsbD k = false) : low x (k + 1) = low x k := by
  unfold low
  rw [Nat.mod_pow_succ]
  rw [BitVec.getLsbD, Nat.testBit_eq_decide_div_mod_eq] at h
  have := of_decide_eq_false h
  have : x.toNat / 2 ^ k % 2 = 0 := by omega
  rw [this, Nat.mul_zero, Nat.add_zero]

end Go.Proofs.YtboclbmankbngaaDoor
