/-
  What a text says as a number: mathematics, and how parts of texts run.
-/
import Derived.Test.YtmddffacjkkeiaaRows
import Derived.IntWalk
import Derived.Laws.BitsAllLaws
import Derived.Laws.Entries
import Derived.Laws.Bits64
import Derived.WalkKit
import Derived.WalkSpells
import Derived.WalkLawsBesides
import Derived.Lib.Hide
import Derived.Lib.Strings
import Derived.Lib.AtoiAll
import Derived.RegionTactic
import Derived.ChangeAlike
namespace Go.Proofs.Ytmddffacjkkeiaa.Num
open Go.RowKit

def In64 (n : Int) : Prop := -9223372036854775808 ≤ n ∧ n ≤ 9223372036854775807
theorem wrap64_of_in {n : Int} (h : In64 n) : wrap64 n = n := IntWalk.wrap64_in n h
theorem ret_bool {a b : Bool} (h : a = b) : Ending.returned (.bool a) = .returned (.bool b) := by rw [h]
theorem ret_i64 {a b : Int} (h : a = b) : Ending.returned (.int .i64 a) = .returned (.int .i64 b) := by rw [h]

/-- The bytes at a place, as numbers. -/
def byteAt (s : ByteArray) (i : Nat) : Nat := (s.get! i).toNat

theorem byteAt_lt (s : ByteArray) (i : Nat) : byteAt s i < 256 := (s.get! i).toNat_lt

theorem get!_mk (l : List UInt8) (i : Nat) (h : i < l.length) : (⟨l.toArray⟩ : ByteArray).get! i = l[i] := by
  simp only [ByteArray.get!]
  simp [h]

theorem run_index_at {P : Program} (t : TypeId) (s : ByteArray) (x : Int) (j : Nat) (h : P.underlying t = some .string) (hj : j < s.size) (hx : x = j) (w : World) :
    (Instr.index t (.string s) (.int .i64 x)).run P w = .ok (.int .u8 (byteAt s j)) w := by
  subst hx
  rw [run_index_string w t s .i64 j h, dif_pos (by omega)]
  obtain ⟨⟨l⟩⟩ := s
  have hl : j < l.length := hj
  unfold byteAt
  rw [get!_mk l j hl]
  rfl

theorem run_slice_at {P : Program} (t : TypeId) (s : ByteArray) (x y : Int) (i j : Nat) (h : P.underlying t = some .string) (hij : i ≤ j) (hj : j ≤ s.size) (hx : x = i) (hy : y = j) (w : World) :
    (Instr.slice t (.string s) (some (.int .i64 x)) (some (.int .i64 y)) none).run P w = .ok (.string (s.extract i j)) w := by
  subst hx hy
  exact run_slice_string w t s .i64 .i64 i j h (by omega) (by omega) (by omega)

def digitB (b : Nat) : Bool := decide (48 ≤ b ∧ b ≤ 57)
def spaceB (b : Nat) : Bool := decide (9 ≤ b ∧ b ≤ 13 ∨ b = 32)
/-- What a byte is worth as a hexadecimal digit. -/
def hexV (b : Nat) : Int := if 48 ≤ b ∧ b ≤ 57 then (b : Int) - 48 else if 97 ≤ b ∧ b ≤ 102 then (b : Int) - 87 else if 65 ≤ b ∧ b ≤ 70 then (b : Int) - 55 else 0
def hexB (b : Nat) : Bool := decide (48 ≤ b ∧ b ≤ 57 ∨ 97 ≤ b ∧ b ≤ 102 ∨ 65 ≤ b ∧ b ≤ 70)


theorem ret_ib {a b : Int} {c d : Bool} (h : a = b) (h' : c = d) : Ending.returned (.tuple #[.int .i64 a, .bool c]) = .returned (.tuple #[.int .i64 b, .bool d]) := by rw [h, h']

theorem drop_at (s : ByteArray) (k : Nat) (h : k < s.size) : ∃ c : UInt8, c.toNat = byteAt s k ∧ s.data.toList.drop k = c :: s.data.toList.drop (k + 1) := by
  obtain ⟨⟨l⟩⟩ := s
  have hl : k < l.length := h
  refine ⟨l[k], ?_, List.drop_eq_getElem_cons hl⟩
  unfold byteAt; rw [get!_mk l k hl]
theorem drop_end (s : ByteArray) : s.data.toList.drop s.size = [] := List.drop_of_length_le (Nat.le_refl _)
theorem empty_iff (s : ByteArray) : (!s.data.toList.isEmpty) = decide (0 < s.size) := by
  have : s.data.toList.length = s.size := rfl
  cases h : s.data.toList with
  | nil => rw [h] at this; simp at this; simp [← this]
  | cons c r => rw [h] at this; simp at this; simp; omega

/-- What hexadecimal digits say, behind what is read so far; none: where one is no digit. -/
def hexN : List UInt8 → Nat → Option Nat
  | [], a => some a
  | c :: r, a => if hexB c.toNat = true then hexN r (a * 16 + (hexV c.toNat).toNat) else none

/-- A number with its sign, in 64 bits. -/
def signN (neg : Bool) (n : Nat) : Int := if neg then wrap64 (-(n : Int)) else wrap64 n
def hexOf (l : List UInt8) (neg : Bool) : Int × Bool :=
  match hexN l 0 with
  | none => (0, false)
  | some n => (signN neg n, !l.isEmpty)

theorem hexOf_some {l : List UInt8} {a : Nat} (neg : Bool) (h : some a = hexN l 0) : hexOf l neg = (signN neg a, !l.isEmpty) := by rw [hexOf, ← h]
theorem hexOf_none {l : List UInt8} (neg : Bool) (h : none = hexN l 0) : hexOf l neg = (0, false) := by rw [hexOf, ← h]
theorem hexN_yes {s : ByteArray} {k a : Nat} (h : k < s.size) (hb : hexB (byteAt s k) = true) : hexN (s.data.toList.drop k) a = hexN (s.data.toList.drop (k + 1)) (a * 16 + (hexV (byteAt s k)).toNat) := by
  obtain ⟨c, e, hd⟩ := drop_at s k h
  rw [hd, hexN, e, if_pos hb]
theorem hexN_no {s : ByteArray} {k a : Nat} (h : k < s.size) (hb : hexB (byteAt s k) = false) : hexN (s.data.toList.drop k) a = none := by
  obtain ⟨c, e, hd⟩ := drop_at s k h
  rw [hd, hexN, e, if_neg (by rw [hb]; decide)]
theorem hexN_end (s : ByteArray) (a : Nat) : hexN (s.data.toList.drop s.size) a = some a := by rw [drop_end]; rfl
theorem hexV_range (b : Nat) : 0 ≤ hexV b ∧ hexV b ≤ 15 := by unfold hexV; split; · omega
                                                              split; · omega
                                                              split <;> omega

theorem or_hex (a v : Nat) (hv : v ≤ 15) : bits .or .u64 (IntKind.u64.wrap ((a : Int) % 18446744073709551616 * 16)) (v : Int) = ((a * 16 + v : Nat) : Int) % 18446744073709551616 := by
  have e : IntKind.u64.wrap ((a : Int) % 18446744073709551616 * 16) = ((a * 16 % 18446744073709551616 : Nat) : Int) := by rw [IntKind.wrap_u64]; omega
  rw [e, u64_or_nat _ _ (by omega) (by omega), nat_join 4 _ _ (by omega) (by omega)]
  omega

/-- What decimal digits with a sign say. -/
def decMost (neg : Bool) : Nat := if neg then 9223372036854775808 else 9223372036854775807
def decOf (l : List UInt8) (neg : Bool) : Int × Bool :=
  match Lib.parseMag l with
  | .ok u => if decMost neg < u then (0, false) else (signN neg u, true)
  | _ => (0, false)
theorem decOf_ok {l : List UInt8} {u : Nat} (neg : Bool) (h : Lib.parseMag l = .ok u) : decOf l neg = if decMost neg < u then (0, false) else (signN neg u, true) := by rw [decOf, h]

theorem decOf_no {l : List UInt8} (neg : Bool) (h : ∀ u, Lib.parseMag l ≠ .ok u) : decOf l neg = (0, false) := by
  unfold decOf
  split
  · rename_i u hu; exact absurd hu (h u)
  · rfl


/-! ### Blanks at both ends -/
def loAux (s : ByteArray) : Nat → Nat
  | 0 => s.size
  | r + 1 => if spaceB (byteAt s (s.size - (r + 1))) = true then loAux s r else s.size - (r + 1)
/-- The first place from k on that is no blank. -/
def loFrom (s : ByteArray) (k : Nat) : Nat := loAux s (s.size - k)
theorem loFrom_end (s : ByteArray) : loFrom s s.size = s.size := by unfold loFrom; rw [Nat.sub_self]; rfl
theorem loFrom_yes {s : ByteArray} {k : Nat} (h : k < s.size) (hb : spaceB (byteAt s k) = true) : loFrom s k = loFrom s (k + 1) := by
  unfold loFrom
  obtain ⟨r, hr⟩ : ∃ r, s.size - k = r + 1 := ⟨s.size - k - 1, by omega⟩
  rw [hr, loAux, show s.size - (r + 1) = k from by omega, if_pos hb, show s.size - (k + 1) = r from by omega]
theorem loFrom_no {s : ByteArray} {k : Nat} (h : k < s.size) (hb : spaceB (byteAt s k) = false) : loFrom s k = k := by
  unfold loFrom
  obtain ⟨r, hr⟩ : ∃ r, s.size - k = r + 1 := ⟨s.size - k - 1, by omega⟩
  rw [hr, loAux, show s.size - (r + 1) = k from by omega, if_neg (by rw [hb]; decide)]

/-- The place behind the last that is no blank, between lo and j. -/
def hiFrom (s : ByteArray) (lo : Nat) : Nat → Nat
  | 0 => 0
  | j + 1 => if lo ≤ j ∧ spaceB (byteAt s j) = true then hiFrom s lo j else j + 1
theorem hiFrom_at (s : ByteArray) (lo : Nat) : hiFrom s lo lo = lo := by
  cases lo with
  | zero => rfl
  | succ l => rw [hiFrom, if_neg (by omega)]
theorem hiFrom_yes {s : ByteArray} {lo j : Nat} (h : lo < j) (hb : spaceB (byteAt s (j - 1)) = true) : hiFrom s lo j = hiFrom s lo (j - 1) := by
  obtain ⟨i, rfl⟩ : ∃ i, j = i + 1 := ⟨j - 1, by omega⟩
  rw [Nat.add_sub_cancel] at hb ⊢
  rw [hiFrom, if_pos ⟨by omega, hb⟩]
theorem hiFrom_no {s : ByteArray} {lo j : Nat} (h : lo < j) (hb : spaceB (byteAt s (j - 1)) = false) : hiFrom s lo j = j := by
  obtain ⟨i, rfl⟩ : ∃ i, j = i + 1 := ⟨j - 1, by omega⟩
  rw [Nat.add_sub_cancel] at hb
  rw [hiFrom, if_neg (by rw [hb]; simp)]

/-! ### The rest -/
def negAt (s : ByteArray) (lo hi : Nat) : Bool := decide (lo < hi) && decide (byteAt s lo = 45)
def plusAt (s : ByteArray) (lo hi : Nat) : Bool := decide (lo < hi) && decide (byteAt s lo = 43)
def lowX (s : ByteArray) (p hi : Nat) : Bool := decide (p + 1 < hi) && decide (byteAt s p = 48 ∧ byteAt s (p + 1) = 120)
def bigX (s : ByteArray) (p hi : Nat) : Bool := decide (p + 1 < hi) && decide (byteAt s p = 48 ∧ byteAt s (p + 1) = 88)
/-- What the text between p and hi says, without a sign. -/
def restOf (s : ByteArray) (p hi : Nat) (neg : Bool) : Int × Bool :=
  if (lowX s p hi || bigX s p hi) = true then hexOf (s.extract (p + 2) hi).data.toList neg else decOf (s.extract p hi).data.toList neg
def coreOf (s : ByteArray) (lo hi : Nat) : Int × Bool :=
  restOf s (if (negAt s lo hi || plusAt s lo hi) = true then lo + 1 else lo) hi (negAt s lo hi)
/-- What a text says: the number, and whether it says one. -/
def parseOf (s : ByteArray) : Int × Bool := coreOf s (loFrom s 0) (hiFrom s (loFrom s 0) s.size)

/-! ### Parts of a text -/
theorem byteAt_extract {s : ByteArray} {i j k : Nat} (hj : j ≤ s.size) (h : i + k < j) : byteAt (s.extract i j) k = byteAt s (i + k) := by
  obtain ⟨⟨l⟩⟩ := s
  have hl : i + k < l.length := by have : (⟨⟨l⟩⟩ : ByteArray).size = l.length := rfl
                                   omega
  unfold byteAt
  rw [Lib.extract_eq, get!_mk _ k (by simp; omega), get!_mk l (i + k) hl]
  simp

theorem part_size {s : ByteArray} {i j : Nat} (hj : j ≤ s.size) : (s.extract i j).size = j - i := by
  rw [ByteArray.size_extract, Nat.min_eq_left hj]

theorem part_list {s : ByteArray} {i j : Nat} (hj : j ≤ s.size) (h : i < j) : ∃ c : UInt8, c.toNat = byteAt s i ∧ (s.extract i j).data.toList = c :: (s.extract (i + 1) j).data.toList := by
  obtain ⟨c, e, hd⟩ := drop_at s i (by omega)
  refine ⟨c, e, ?_⟩
  rw [Lib.extract_data, Lib.extract_data, hd]
  obtain ⟨m, hm⟩ : ∃ m, j - i = m + 1 := ⟨j - i - 1, by omega⟩
  rw [hm, List.take_succ_cons, show j - (i + 1) = m from by omega]
theorem part_nil {s : ByteArray} {i j : Nat} (h : j ≤ i) : (s.extract i j).data.toList = [] := by
  rw [Lib.extract_data, show j - i = 0 from by omega, List.take_zero]

theorem prefix1 {s : ByteArray} {i j : Nat} (hj : j ≤ s.size) (b : UInt8) : Lib.hasPrefix (s.extract i j).data.toList [b] = (decide (i < j) && decide (byteAt s i = b.toNat)) := by
  unfold Lib.hasPrefix
  by_cases h : i < j
  · obtain ⟨c, e, hd⟩ := part_list hj h
    rw [hd, decide_eq_true h, Bool.true_and, ← e]
    simp only [List.isPrefixOf, Bool.and_true]
    rw [Bool.eq_iff_iff]
    simp only [beq_iff_eq, decide_eq_true_eq]
    exact ⟨fun h => by rw [h], fun h => UInt8.toNat_inj.1 h.symm⟩
  · rw [part_nil (by omega), decide_eq_false h]; rfl

theorem prefix2 {s : ByteArray} {i j : Nat} (hj : j ≤ s.size) (b c : UInt8) :
    Lib.hasPrefix (s.extract i j).data.toList [b, c] = (decide (i + 1 < j) && decide (byteAt s i = b.toNat ∧ byteAt s (i + 1) = c.toNat)) := by
  by_cases h : i < j
  · obtain ⟨x, e, hd⟩ := part_list hj h
    have h1 := prefix1 (i := i + 1) hj c
    unfold Lib.hasPrefix at h1 ⊢
    rw [hd]
    simp only [List.isPrefixOf]
    rw [show ([c].isPrefixOf (s.extract (i + 1) j).data.toList) = _ from h1, ← e]
    rw [Bool.eq_iff_iff]
    simp only [Bool.and_eq_true, beq_iff_eq, decide_eq_true_eq]
    constructor
    · rintro ⟨h, h2, h3⟩; exact ⟨h2, by rw [h], h3⟩
    · rintro ⟨h, h2, h3⟩; exact ⟨UInt8.toNat_inj.1 h2.symm, h, h3⟩
  · unfold Lib.hasPrefix
    rw [part_nil (by omega), decide_eq_false (by omega)]; rfl

theorem part_empty {s : ByteArray} {i j : Nat} (hj : j ≤ s.size) : (s.extract i j).toList.isEmpty = decide (j ≤ i) := by
  rw [ByteArray.toList_eq]
  by_cases h : i < j
  · obtain ⟨c, _, hd⟩ := part_list hj h
    rw [hd, decide_eq_false (by omega)]; rfl
  · rw [part_nil (by omega), decide_eq_true (by omega)]; rfl

end Go.Proofs.Ytmddffacjkkeiaa.Num
