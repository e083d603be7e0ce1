/-
  The leaves of package ints: quotient, divide, move, signed, by contracts.
-/
import Derived.Test.YtboclbmankbngaaDoorRows
import Derived.Test.YtboclbmankbngaaDoorIntsMath
import Derived.WalkKit
import Derived.WalkSpells
import Derived.WalkLawsBesides
import Derived.Lib.Hide
namespace Go.Proofs.YtboclbmankbngaaDoor
open Go.RowKit

theorem ret_i64 {a b : Int} (h : a = b) : Ending.returned (.int .i64 a) = .returned (.int .i64 b) := by rw [h]
theorem ret_i64e {a b c d : Int} (h : a = b) (h' : c = d) : Ending.returned (.tuple #[.int .i64 a, .int .i64 c]) = .returned (.tuple #[.int .i64 b, .int .i64 d]) := by rw [h, h']

set_option maxHeartbeats 400000 in
theorem quotient_any (a b : Int) (w : World) (hb : b ≠ 0) :
    Calls Tryd.prog 35 #[.int .i64 a, .int .i64 b] w fun e w' => e = .returned (.int .i64 (quo64 a b)) ∧ w = w' := by
  have hb' : (b == 0) = false := by simpa using hb
  go_enter Tryd.func35, Tryd.ntmps35
  go_wp2
  all_goals
    go_ret
    refine ⟨ret_i64 ?_, rfl⟩
    unfold quo64
    split
    all_goals (first | rfl | (exfalso; simp_all; done) | (exfalso; simp_all; omega))

/-- What moving the bits comes to. -/
def shl64 (a : Int) (n : Nat) : Int := (bv a <<< n).toInt
def shr64 (a : Int) (n : Nat) : Int := (bv a >>> n).toInt
def move64 (a b : Int) (left : Bool) : Int :=
  if b < 0 then (if left then shr64 a (-b).toNat else shl64 a (-b).toNat) else (if left then shl64 a b.toNat else shr64 a b.toNat)

theorem shl_wrap (a : Int) (n : Nat) : IntKind.i64.wrap (IntKind.u64.wrap (IntKind.u64.wrap a * 2 ^ min n IntKind.u64.bits)) = shl64 a n := by
  unfold shl64
  rw [← wrap_i64_toNat, BitVec.toNat_shiftLeft, Nat.shiftLeft_eq, IntKind.wrap_u64, IntKind.wrap_u64, ← toNat_bv a]
  congr 1
  show _ = ((_ % 18446744073709551616 : Nat) : Int)
  rw [show IntKind.u64.bits = 64 from rfl]
  rcases Nat.le_total n 64 with h | h
  · rw [Nat.min_eq_left h]; simp
  · rw [Nat.min_eq_right h]
    have : 2 ^ n = 18446744073709551616 * 2 ^ (n - 64) := by
      rw [show (18446744073709551616 : Nat) = 2 ^ 64 from rfl, ← Nat.pow_add]; congr 1; omega
    rw [this, ← Nat.mul_assoc, Nat.mul_right_comm, Nat.mul_mod_left, show ((2 : Int) ^ 64) = 18446744073709551616 from rfl, Int.mul_emod_left]
    rfl

theorem shr_wrap (a : Int) (n : Nat) : IntKind.i64.wrap (IntKind.u64.wrap a / 2 ^ min n IntKind.u64.bits) = shr64 a n := by
  unfold shr64
  rw [← wrap_i64_toNat, BitVec.toNat_ushiftRight, Nat.shiftRight_eq_div_pow, IntKind.wrap_u64, ← toNat_bv a]
  congr 1
  rw [show IntKind.u64.bits = 64 from rfl]
  rcases Nat.le_total n 64 with h | h
  · rw [Nat.min_eq_left h]; simp
  · rw [Nat.min_eq_right h]
    have hx := (bv a).isLt
    rw [Nat.div_eq_of_lt (Nat.lt_of_lt_of_le hx (Nat.pow_le_pow_right (by decide) h))]
    have : (bv a).toNat / 2 ^ 64 = 0 := Nat.div_eq_of_lt hx
    have h2 : (((bv a).toNat / 2 ^ 64 : Nat) : Int) = 0 := by rw [this]; rfl
    simpa using h2

set_option maxHeartbeats 400000 in
theorem move_any (a b : Int) (c : Bool) (w : World) (hb : In64 b) :
    Calls Tryd.prog 22 #[.int .i64 a, .int .i64 b, .bool c] w fun e w' => e = .returned (.int .i64 (move64 a b c)) ∧ w = w' := by
  unfold In64 at hb
  have hn : ∀ n : Nat, wrap64 (IntKind.u64.wrap (IntKind.u64.wrap a * 2 ^ min n 64)) = shl64 a n := fun n => by rw [← IntWalk.i64_left]; exact shl_wrap a n
  have hm : ∀ n : Nat, wrap64 (IntKind.u64.wrap a / 2 ^ min n 64) = shr64 a n := fun n => by rw [← IntWalk.i64_left]; exact shr_wrap a n
  by_cases h0 : b < 0
  · have e1 : IntKind.u64.wrap (-IntKind.u64.wrap b) = -b := by rw [IntKind.wrap_u64, IntKind.wrap_u64]; omega
    have HN := Lib.hid (hn (-b).toNat)
    have HM := Lib.hid (hm (-b).toNat)
    have E1 := Lib.hid e1
    clear hn hm e1
    cases c
    · go_enter Tryd.func22, Tryd.ntmps22
      go_wp2
      go_ret
      refine ⟨ret_i64 ?_, rfl⟩
      rw [E1.out, HN.out, move64, if_pos h0, if_neg (by decide)]
    · go_enter Tryd.func22, Tryd.ntmps22
      go_wp2
      go_ret
      refine ⟨ret_i64 ?_, rfl⟩
      rw [E1.out, HM.out, move64, if_pos h0, if_pos rfl]
  · have e2 : IntKind.u64.wrap b = b := by rw [IntKind.wrap_u64]; omega
    have HN := Lib.hid (hn b.toNat)
    have HM := Lib.hid (hm b.toNat)
    clear hn hm e2
    cases c
    · go_enter Tryd.func22, Tryd.ntmps22
      go_wp2
      go_ret
      refine ⟨ret_i64 ?_, rfl⟩
      rw [HM.out, move64, if_neg (Int.not_lt.mpr h0), if_neg (by decide)]
    · go_enter Tryd.func22, Tryd.ntmps22
      go_wp2
      go_ret
      refine ⟨ret_i64 ?_, rfl⟩
      rw [HN.out, move64, if_neg (Int.not_lt.mpr h0), if_pos rfl]

def divN (o a b : Int) : Int := if b = 0 then 0 else if o = 4 then quo64 a b else wrap64 (a - wrap64 (b * quo64 a b))
def divE (b : Int) : Int := if b = 0 then 20 else 0

set_option maxHeartbeats 400000 in
theorem divide_any (o a b : Int) (w : World) (h : o = 4 ∨ o = 5) :
    Calls Tryd.prog 21 #[.int .u8 o, .int .i64 a, .int .i64 b] w fun e w' =>
      e = .returned (.tuple #[.int .i64 (divN o a b), .int .i64 (divE b)]) ∧ w = w' := by
  by_cases hb : b = 0
  · subst hb
    go_enter Tryd.func21, Tryd.ntmps21
    go_wp2
    go_ret2
    exact ⟨ret_i64e (by rw [divN, if_pos rfl]) (by rw [divE, if_pos rfl]), rfl⟩
  · have hb' : (b == 0) = false := by simpa using hb
    have HB := Lib.hid hb
    clear hb
    rcases h with rfl | rfl
    · go_enter Tryd.func21, Tryd.ntmps21
      go_wp2_with fail
      refine (quotient_any a b _ HB.out).mono ?_
      rintro e w1 ⟨rfl, rfl⟩
      go_wp2
      go_ret2
      exact ⟨ret_i64e (by rw [divN, if_neg HB.out, if_pos rfl]) (by rw [divE, if_neg HB.out]), rfl⟩
    · go_enter Tryd.func21, Tryd.ntmps21
      go_wp2_with fail
      refine (quotient_any a b _ HB.out).mono ?_
      rintro e w1 ⟨rfl, rfl⟩
      go_wp2
      go_ret2
      exact ⟨ret_i64e (by rw [divN, if_neg HB.out, if_neg (by decide)]) (by rw [divE, if_neg HB.out]), rfl⟩

/-- What Arith answers, by the operator's number. -/
def arithN (o a b : Int) : Int :=
  if o = 1 then wrap64 (a + b) else if o = 2 then wrap64 (a - b) else if o = 3 then wrap64 (a * b)
  else if o = 4 then divN 4 a b else if o = 5 then divN 5 a b
  else if o = 6 then bits .and .i64 a b else if o = 7 then bits .or .i64 a b else if o = 8 then bits .xor .i64 a b
  else if o = 9 then move64 a b true else if o = 10 then move64 a b false
  else if o = 18 then wrap64 (0 - a) else if o = 21 then bits .xor .i64 (-1) a else 0
def arithE (o b : Int) : Int :=
  if o = 4 ∨ o = 5 then divE b
  else if o = 1 ∨ o = 2 ∨ o = 3 ∨ o = 6 ∨ o = 7 ∨ o = 8 ∨ o = 9 ∨ o = 10 ∨ o = 18 ∨ o = 21 then 0 else 2

/-- The answer of Arith, and the world unturned. -/
def ArithSays (o a b : Int) (w : World) (e : Ending) (w' : World) : Prop := e = .returned (.tuple #[.int .i64 (arithN o a b), .int .i64 (arithE o b)]) ∧ w = w'
theorem says_at {o a b n k : Int} {w : World} (hn : n = arithN o a b) (hk : k = arithE o b) : ArithSays o a b w (.returned (.tuple #[.int .i64 n, .int .i64 k])) w := by
  subst hn hk; exact ⟨rfl, rfl⟩

set_option maxHeartbeats 2000000 in
theorem arith_any (o a b : Int) (w : World) (hb : In64 b) :
    Calls Tryd.prog 9 #[.int .u8 o, .int .i64 a, .int .i64 b] w (ArithSays o a b w) := by
  by_cases h4 : o = 4 ∨ o = 5
  · rcases h4 with rfl | rfl
    · go_enter Tryd.func9, Tryd.ntmps9
      go_wp2_with fail
      refine (divide_any 4 a b _ (.inl rfl)).mono ?_
      rintro e w1 ⟨rfl, rfl⟩
      go_wp2
      go_ret2
      exact says_at rfl rfl
    · go_enter Tryd.func9, Tryd.ntmps9
      go_wp2_with fail
      refine (divide_any 5 a b _ (.inr rfl)).mono ?_
      rintro e w1 ⟨rfl, rfl⟩
      go_wp2
      go_ret2
      exact says_at rfl rfl
  · by_cases h9 : o = 9 ∨ o = 10
    · rcases h9 with rfl | rfl
      · go_enter Tryd.func9, Tryd.ntmps9
        go_wp2_with fail
        refine (move_any a b true _ hb).mono ?_
        rintro e w1 ⟨rfl, rfl⟩
        go_wp2
        go_ret2
        exact says_at rfl rfl
      · go_enter Tryd.func9, Tryd.ntmps9
        go_wp2_with fail
        refine (move_any a b false _ hb).mono ?_
        rintro e w1 ⟨rfl, rfl⟩
        go_wp2
        go_ret2
        exact says_at rfl rfl
    · by_cases hk : o = 1 ∨ o = 2 ∨ o = 3 ∨ o = 6 ∨ o = 7 ∨ o = 8 ∨ o = 18 ∨ o = 21
      · rcases hk with rfl | rfl | rfl | rfl | rfl | rfl | rfl | rfl
        all_goals
          go_enter Tryd.func9, Tryd.ntmps9
          go_wp2
          go_ret2
          first | exact says_at rfl rfl | exact says_at (by simp [arithN]) rfl
      · have hn : arithN o a b = 0 := by unfold arithN; simp only [not_or] at *; simp [*]
        have he : arithE o b = 2 := by unfold arithE; simp only [not_or] at *; simp [*]
        have e1 : (o == 1) = false := by simp; omega
        have e2 : (o == 2) = false := by simp; omega
        have e3 : (o == 3) = false := by simp; omega
        have e4 : (o == 4) = false := by simp; omega
        have e5 : (o == 5) = false := by simp; omega
        have e6 : (o == 6) = false := by simp; omega
        have e7 : (o == 7) = false := by simp; omega
        have e8 : (o == 8) = false := by simp; omega
        have e9 : (o == 9) = false := by simp; omega
        have e10 : (o == 10) = false := by simp; omega
        have e18 : (o == 18) = false := by simp; omega
        have e21 : (o == 21) = false := by simp; omega
        clear h4 h9 hk
        have HN := Lib.hid hn
        have HE := Lib.hid he
        clear hn he
        go_enter Tryd.func9, Tryd.ntmps9
        go_wp2
        go_ret2
        exact says_at HN.out.symm HE.out.symm

end Go.Proofs.YtboclbmankbngaaDoor
