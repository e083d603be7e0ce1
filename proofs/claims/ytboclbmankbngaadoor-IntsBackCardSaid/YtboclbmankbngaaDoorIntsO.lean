/-
  A number's text is read as the number: plain mathematics.
-/
import Derived.Test.YtboclbmankbngaaDoorIntsG
import Derived.Test.YtboclbmankbngaaDoorIntsJ
namespace Go.Proofs.YtboclbmankbngaaDoor
open Go.RowKit

theorem byte_of {s : ByteArray} {i : Nat} {c : UInt8} (h : s.data.toList[i]? = some c) : byteAt s i = c.toNat := by
  obtain ⟨⟨l⟩⟩ := s
  obtain ⟨hi, hc⟩ := List.getElem?_eq_some_iff.1 h
  unfold byteAt
  rw [get!_mk l i hi, ← hc]

theorem loFrom_to {s : ByteArray} {a : Nat} (ha : a < s.size) (hn : spaceB (byteAt s a) = false) : ∀ (d k : Nat), k + d = a → (∀ i, k ≤ i → i < a → spaceB (byteAt s i) = true) → loFrom s k = a
  | 0, k, hk, _ => by obtain rfl : k = a := by omega
                      exact loFrom_no ha hn
  | d + 1, k, hk, h => by
    rw [loFrom_yes (by omega) (h k (by omega) (by omega))]
    exact loFrom_to ha hn d (k + 1) (by omega) fun i h1 h2 => h i (by omega) h2
theorem hiFrom_to {s : ByteArray} {lo b : Nat} (hb : lo < b) (hn : spaceB (byteAt s (b - 1)) = false) : ∀ (d j : Nat), b + d = j → (∀ i, b ≤ i → i < j → spaceB (byteAt s i) = true) → hiFrom s lo j = b
  | 0, j, hj, _ => by obtain rfl : b = j := by omega
                      exact hiFrom_no hb hn
  | d + 1, j, hj, h => by
    rw [hiFrom_yes (by omega) (h (j - 1) (by omega) (by omega))]
    exact hiFrom_to hb hn d (j - 1) (by omega) fun i h1 h2 => h i h1 (by omega)

/-! ### Digits -/
theorem digit_nat {u : Nat} (h : u < 10) : (UInt8.ofNat (48 + u)).toNat = 48 + u := by
  rw [UInt8.toNat_ofNat']; omega
theorem digits_all : ∀ (u : Nat), ∀ c ∈ Lib.decDigits u, 48 ≤ c.toNat ∧ c.toNat ≤ 57 := by
  intro u
  induction u using Nat.strongRecOn with
  | _ u ih =>
    intro c hc
    by_cases h : u < 10
    · rw [Lib.decDigits_one h] at hc
      obtain rfl := List.mem_singleton.1 hc
      rw [digit_nat h]; omega
    · rw [Lib.decDigits, dif_neg h] at hc
      rcases List.mem_append.1 hc with hc | hc
      · exact ih (u / 10) (by omega) c hc
      · obtain rfl := List.mem_singleton.1 hc
        rw [digit_nat (by omega)]; omega
theorem digits_some (u : Nat) : 1 ≤ (Lib.decDigits u).length := by rw [Lib.decDigits_length]; exact Lib.nDigits_pos u

theorem uint10_one {a d : Nat} (r : List UInt8) (hd : d < 10) (h : a * 10 + d ≤ 9223372036854775808) : Lib.parseUint10 a (UInt8.ofNat (48 + d) :: r) = Lib.parseUint10 (a * 10 + d) r := by
  rw [Lib.parseUint10, digit_nat hd, if_pos (by omega), if_neg (by omega), show 48 + d - 48 = d from by omega, if_neg (by omega)]
theorem uint10_digits : ∀ (u : Nat), u ≤ 9223372036854775808 → ∀ r, Lib.parseUint10 0 (Lib.decDigits u ++ r) = Lib.parseUint10 u r := by
  intro u
  induction u using Nat.strongRecOn with
  | _ u ih =>
    intro hu r
    by_cases h : u < 10
    · rw [Lib.decDigits_one h, List.singleton_append, uint10_one r h (by omega), Nat.zero_mul, Nat.zero_add]
    · rw [Lib.decDigits, dif_neg h, List.append_assoc, List.singleton_append, ih (u / 10) (by omega) (by omega), uint10_one r (by omega) (by omega)]
      congr 1; omega
theorem uint10_zeros : ∀ (z : Nat) (r : List UInt8), Lib.parseUint10 0 (List.replicate z 48 ++ r) = Lib.parseUint10 0 r
  | 0, r => rfl
  | z + 1, r => by
    rw [List.replicate_succ, List.cons_append]
    have := uint10_one (a := 0) (d := 0) (List.replicate z 48 ++ r) (by decide) (by decide)
    rw [show UInt8.ofNat (48 + 0) = 48 from rfl] at this
    rw [this]
    exact uint10_zeros z r

theorem mag_of (z u : Nat) (hu : u ≤ 9223372036854775808) : Lib.parseMag (List.replicate z 48 ++ Lib.decDigits u) = .ok u := by
  have h := digits_some u
  rw [Lib.parseMag, if_neg (fun e => by have := congrArg List.length e; rw [List.length_append] at this; simp at this; rw [this.2] at h; simp at h), uint10_zeros]
  have := uint10_digits u hu []
  rw [List.append_nil] at this
  rw [this]; rfl

def sgnL (n : Int) : List UInt8 := if n < 0 then [45] else []
def magL (z : Nat) (n : Int) : List UInt8 := List.replicate z 48 ++ Lib.decDigits n.natAbs
theorem itoa_parts (n : Int) : Lib.itoa n = sgnL n ++ magL 0 n := by
  unfold Lib.itoa sgnL magL
  by_cases h : n < 0
  · rw [if_pos h, if_pos h]; rfl
  · rw [if_neg h, if_neg h, show n.toNat = n.natAbs from by omega]; rfl
theorem magL_all (z : Nat) (n : Int) : ∀ c ∈ magL z n, 48 ≤ c.toNat ∧ c.toNat ≤ 57 := by
  intro c hc
  rcases List.mem_append.1 hc with hc | hc
  · obtain rfl := List.eq_of_mem_replicate hc
    decide
  · exact digits_all _ c hc
theorem magL_some (z : Nat) (n : Int) : 1 ≤ (magL z n).length := by
  unfold magL; rw [List.length_append]; have := digits_some n.natAbs; omega

theorem dec_num (z : Nat) (n : Int) (hn : In64 n) : decOf (magL z n) (decide (n < 0)) = (n, true) := by
  unfold In64 at hn
  unfold magL
  rw [decOf_ok _ (mag_of z n.natAbs (by omega))]
  by_cases h : n < 0
  · rw [decide_eq_true h, if_neg (by rw [show decMost true = 9223372036854775808 from rfl]; omega), signN, if_pos rfl, IntWalk.wrap64_in _ (by omega)]
    congr 1; omega
  · rw [decide_eq_false h, if_neg (by rw [show decMost false = 9223372036854775807 from rfl]; omega), signN, if_neg (by decide), IntWalk.wrap64_in _ (by omega)]
    congr 1; omega

/-- A number's digits, with its sign, noughts ahead, and blanks at both ends, are read as the number. -/
theorem parse_num (A B : List UInt8) (z : Nat) (n : Int) (hn : In64 n) (hA : ∀ c ∈ A, spaceB c.toNat = true) (hB : ∀ c ∈ B, spaceB c.toNat = true) (s : ByteArray)
    (hs : s.data.toList = A ++ ((sgnL n ++ magL z n) ++ B)) : parseOf s = (n, true) := by
  have hsz : s.size = A.length + ((sgnL n).length + (magL z n).length + B.length) := by
    have := congrArg List.length hs
    rw [List.length_append, List.length_append, List.length_append] at this
    exact this
  have hm1 := magL_some z n
  have hall := magL_all z n
  have hsl : (sgnL n).length ≤ 1 := by unfold sgnL; split <;> simp
  -- the bytes, by their places
  have hget : ∀ i, s.data.toList[i]? = if i < A.length then A[i]? else if i - A.length < (sgnL n).length + (magL z n).length then (sgnL n ++ magL z n)[i - A.length]? else B[i - A.length - ((sgnL n).length + (magL z n).length)]? := by
    intro i
    rw [hs, List.getElem?_append]
    split
    · rfl
    · rw [List.getElem?_append, List.length_append]
  have hblank1 : ∀ i, i < A.length → spaceB (byteAt s i) = true := by
    intro i hi
    have h := hget i
    rw [if_pos hi, List.getElem?_eq_getElem hi] at h
    rw [byte_of h]; exact hA _ (List.getElem_mem hi)
  have hblank2 : ∀ i, A.length + ((sgnL n).length + (magL z n).length) ≤ i → i < s.size → spaceB (byteAt s i) = true := by
    intro i h1 h2
    have h := hget i
    have hi : i - A.length - ((sgnL n).length + (magL z n).length) < B.length := by omega
    rw [if_neg (by omega), if_neg (by omega), List.getElem?_eq_getElem hi] at h
    rw [byte_of h]; exact hB _ (List.getElem_mem hi)
  have hmag : ∀ i, A.length + (sgnL n).length ≤ i → i < A.length + ((sgnL n).length + (magL z n).length) → 48 ≤ byteAt s i ∧ byteAt s i ≤ 57 := by
    intro i h1 h2
    have h := hget i
    have hi : i - A.length - (sgnL n).length < (magL z n).length := by omega
    rw [if_neg (by omega), if_pos (by omega), List.getElem?_append, if_neg (by omega), List.getElem?_eq_getElem hi] at h
    rw [byte_of h]; exact hall _ (List.getElem_mem hi)
  have hfirst : n < 0 → byteAt s A.length = 45 := by
    intro hneg
    have h := hget A.length
    have e : sgnL n = [45] := by unfold sgnL; rw [if_pos hneg]
    rw [if_neg (by omega), if_pos (by omega), Nat.sub_self, e] at h
    rw [byte_of (c := 45) (by rw [h]; rfl)]; rfl
  have hspan : ∀ i, A.length ≤ i → i < A.length + ((sgnL n).length + (magL z n).length) → spaceB (byteAt s i) = false := by
    intro i h1 h2
    by_cases hi : i < A.length + (sgnL n).length
    · have hneg : n < 0 := by
        by_cases h : n < 0
        · exact h
        · have : (sgnL n).length = 0 := by unfold sgnL; rw [if_neg h]; rfl
          omega
      obtain rfl : i = A.length := by omega
      rw [hfirst hneg]; rfl
    · have := hmag i (by omega) h2
      unfold spaceB; rw [decide_eq_false (by omega)]
  have hlo : loFrom s 0 = A.length := loFrom_to (by omega) (hspan _ (Nat.le_refl _) (by omega)) A.length 0 (by omega) fun i _ h => hblank1 i h
  have hhi : hiFrom s A.length s.size = A.length + ((sgnL n).length + (magL z n).length) :=
    hiFrom_to (by omega) (hspan _ (by omega) (by omega)) B.length s.size (by omega) hblank2
  rw [parseOf, hlo, hhi]
  have hneg : negAt s A.length (A.length + ((sgnL n).length + (magL z n).length)) = decide (n < 0) := by
    unfold negAt
    rw [decide_eq_true (show A.length < A.length + ((sgnL n).length + (magL z n).length) from by omega), Bool.true_and]
    by_cases h : n < 0
    · rw [hfirst h, decide_eq_true h]; rfl
    · have e : (sgnL n).length = 0 := by unfold sgnL; rw [if_neg h]; rfl
      have := hmag A.length (by omega) (by omega)
      rw [decide_eq_false h, decide_eq_false (by omega)]
  have hplus : plusAt s A.length (A.length + ((sgnL n).length + (magL z n).length)) = false := by
    unfold plusAt
    by_cases h : n < 0
    · rw [hfirst h]; simp
    · have e : (sgnL n).length = 0 := by unfold sgnL; rw [if_neg h]; rfl
      have := hmag A.length (by omega) (by omega)
      rw [decide_eq_false (show ¬ byteAt s A.length = 43 from by omega), Bool.and_false]
  have hp : (if (decide (n < 0) || false) = true then A.length + 1 else A.length) = A.length + (sgnL n).length := by
    unfold sgnL
    by_cases h : n < 0
    · rw [if_pos (by simp [h]), if_pos h]; rfl
    · rw [if_neg (by simp [h]), if_neg h]; rfl
  rw [coreOf, hneg, hplus, hp]
  have hx : ∀ b, 57 < b → (decide (A.length + (sgnL n).length + 1 < A.length + ((sgnL n).length + (magL z n).length)) && decide (byteAt s (A.length + (sgnL n).length) = 48 ∧ byteAt s (A.length + (sgnL n).length + 1) = b)) = false := by
    intro b hb
    by_cases h : A.length + (sgnL n).length + 1 < A.length + ((sgnL n).length + (magL z n).length)
    · have := hmag (A.length + (sgnL n).length + 1) (by omega) h
      rw [decide_eq_false (show ¬ (byteAt s (A.length + (sgnL n).length) = 48 ∧ byteAt s (A.length + (sgnL n).length + 1) = b) from fun g => by omega), Bool.and_false]
    · rw [decide_eq_false h]; rfl
  have hlow : lowX s (A.length + (sgnL n).length) (A.length + ((sgnL n).length + (magL z n).length)) = false := hx 120 (by decide)
  have hbig : bigX s (A.length + (sgnL n).length) (A.length + ((sgnL n).length + (magL z n).length)) = false := hx 88 (by decide)
  rw [restOf, hlow, hbig, if_neg (by decide)]
  have hpart : (s.extract (A.length + (sgnL n).length) (A.length + ((sgnL n).length + (magL z n).length))).data.toList = magL z n := by
    rw [Lib.extract_data, hs, show A.length + ((sgnL n).length + (magL z n).length) - (A.length + (sgnL n).length) = (magL z n).length from by omega,
      ← List.append_assoc, ← List.append_assoc, List.append_assoc, List.drop_left' (by rw [List.length_append]), List.take_left]
  rw [hpart]
  exact dec_num z n hn

end Go.Proofs.YtboclbmankbngaaDoor
