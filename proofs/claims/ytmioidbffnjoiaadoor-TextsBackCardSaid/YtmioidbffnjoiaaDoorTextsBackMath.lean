/-
  TextsBack's mathematics.
-/
import Derived.Test.YtmioidbffnjoiaaDoorTextsAwake
namespace Go.Proofs.YtmioidbffnjoiaaDoor
open Go.RowKit

theorem quote_list (a : ByteArray) : (quoteT a.data.toList).data.toList = 34 :: (quotL a.data.toList ++ [34]) := rfl
theorem quote_size (a : ByteArray) : (quoteT a.data.toList).size = (quotL a.data.toList).length + 2 := by
  show (34 :: (quotL a.data.toList ++ [34])).length = _
  simp
theorem quote_le (a : ByteArray) : 2 ≤ (quoteT a.data.toList).size ∧ (quoteT a.data.toList).size ≤ 4 * a.size + 2 := by
  have := quotL_size a.data.toList
  rw [quote_size]
  have : a.data.toList.length = a.size := rfl
  omega
theorem quote_plain (a : ByteArray) (k : Nat) (h : k < (quoteT a.data.toList).size) : 32 ≤ byteAt (quoteT a.data.toList) k ∧ byteAt (quoteT a.data.toList) k ≤ 126 := by
  obtain ⟨c, e, hd⟩ := drop_at _ k h
  rw [← e]
  have hm : c ∈ (quoteT a.data.toList).data.toList := by
    have : c ∈ (quoteT a.data.toList).data.toList.drop k := by rw [hd]; exact List.mem_cons_self
    exact List.mem_of_mem_drop this
  rw [quote_list] at hm
  rcases List.mem_cons.1 hm with rfl | hm
  · decide
  rcases List.mem_append.1 hm with hm | hm
  · exact quotL_plain _ c hm
  · rw [List.mem_singleton.1 hm]; decide
theorem quote_told (a : ByteArray) : unqT (quoteT a.data.toList).data.toList = a ∧ unqE (quoteT a.data.toList).data.toList = 0 := by
  unfold unqT unqE
  rw [quote_list, unquote_quote]
  exact ⟨rfl, rfl⟩
/-- Two quoted texts behind one another, in one pair of quotes. -/
theorem quote_two (a b : ByteArray) :
    (quoteT a.data.toList).extract 0 ((quoteT a.data.toList).size - 1) ++ (quoteT b.data.toList).extract 1 (quoteT b.data.toList).size = quoteT (a ++ b).data.toList := by
  apply ByteArray.ext
  apply Array.ext'
  rw [cat_list, Lib.extract_data, Lib.extract_data, quote_list, quote_list, quote_list, quote_size, quote_size, cat_list, quotL_append]
  rw [show (quotL a.data.toList).length + 2 - 1 - 0 = (34 :: quotL a.data.toList).length from by simp, List.drop_zero, ← List.cons_append, List.take_left]
  rw [List.drop_one, List.tail_cons, List.take_of_length_le (by simp)]
  simp
theorem two_told (a b : ByteArray) (s : ByteArray) (h : s = quoteT (a ++ b).data.toList) : unqT s.data.toList = a ++ b ∧ unqE s.data.toList = 0 := by
  rw [h]; exact quote_told _

end Go.Proofs.YtmioidbffnjoiaaDoor
