/-
  Whether a text stands somewhere in another; quoted texts: mathematics.
-/
import Derived.Test.YtajeghkmgcpgiaaGreatDoorTextsBytes
import Derived.Test.YtajeghkmgcpgiaaGreatDoorTextsLit
import Derived.Lib.IndexMore
namespace Go.Proofs.YtajeghkmgcpgiaaGreatDoor
open Go.RowKit

/-! ### has -/
theorem occ_extract {s t : ByteArray} {k : Nat} (h : k + t.size ≤ s.size) : ((s.extract k (k + t.size)).toList == t.toList) = Lib.occAt s.data.toList t.data.toList k := by
  rw [Lib.occAt_iff_take _ _ _ h, Lib.extract_toList, ByteArray.toList_eq, show k + t.size - k = t.size from by omega]
  rfl
theorem occ_none {s t : ByteArray} {k : Nat} (hk : ∀ j, j < k → Lib.occAt s.data.toList t.data.toList j = false) (h : s.size < k + t.size) (hk1 : k ≤ s.size + 1) : Lib.contains s.data.toList t.data.toList = false := by
  have hl : s.data.toList.length = s.size := rfl
  have ht : t.data.toList.length = t.size := rfl
  have h0 : ∀ j, j ≤ s.data.toList.length → Lib.occAt s.data.toList t.data.toList j = false := by
    intro j hj
    by_cases hjk : j < k
    · exact hk j hjk
    · cases ho : Lib.occAt s.data.toList t.data.toList j with
      | false => rfl
      | true =>
        rcases Lib.occAt_room ho with h2 | h2
        · omega
        · rw [h2] at ht hk
          simp at ht
          have := hk 0 (by omega)
          simp [Lib.occAt] at this
  unfold Lib.contains
  rw [Lib.index_none h0]; rfl
theorem occ_some {s t : ByteArray} {k : Nat} (hk : ∀ j, j < k → Lib.occAt s.data.toList t.data.toList j = false) (h : k ≤ s.size) (ho : Lib.occAt s.data.toList t.data.toList k = true) : Lib.contains s.data.toList t.data.toList = true := by
  unfold Lib.contains
  rw [Lib.index_first (i := k) h ho hk]
  simp

/-! ### Quote -/
def quoteT (l : List UInt8) : ByteArray := ⟨(34 :: (quotL l ++ [34])).toArray⟩
def tenDigits : ByteArray := ⟨#[48, 49, 50, 51, 52, 53, 54, 55, 56, 57]⟩
def oneDigit (d : Nat) : ByteArray := ⟨#[dg3 d]⟩
theorem digit_cut : ∀ d < 10, tenDigits.extract d (d + 1) = oneDigit d := by decide +kernel
theorem take_more {s : ByteArray} {k : Nat} (h : k < s.size) : ∃ c : UInt8, c.toNat = byteAt s k ∧ s.data.toList.take (k + 1) = s.data.toList.take k ++ [c] := by
  obtain ⟨⟨l⟩⟩ := s
  have hl : k < l.length := h
  refine ⟨l[k], ?_, List.take_succ_eq_append_getElem hl⟩
  unfold byteAt; rw [get!_mk l k hl]
theorem quot_more {s : ByteArray} {k : Nat} (h : k < s.size) : quotL (s.data.toList.take (k + 1)) = quotL (s.data.toList.take k) ++ quotB (byteAt s k) := by
  obtain ⟨c, e, ht⟩ := take_more h
  rw [ht, quotL_snoc, e]
theorem one_list {s : ByteArray} {k : Nat} (h : k < s.size) : (s.extract k (k + 1)).data.toList = [UInt8.ofNat (byteAt s k)] := by
  obtain ⟨c, e, hd⟩ := drop_at s k h
  rw [Lib.extract_data, hd, ← e, UInt8.ofNat_toNat, show k + 1 - k = 1 from by omega]; rfl

end Go.Proofs.YtajeghkmgcpgiaaGreatDoor
