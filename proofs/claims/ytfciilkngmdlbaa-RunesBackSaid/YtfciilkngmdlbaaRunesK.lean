/-
  RunesTells: for any number and text Encode, Each and Valid answer as the document defines.
-/
import Derived.Test.YtfciilkngmdlbaaRunesJ
namespace Go.Proofs.Ytfciilkngmdlbaa
open Go.RowKit

theorem each_reads (s : ByteArray) (w : World) (hs : s.size ≤ 1000000000) :
    Calls Try.prog 7 #[.string s] w (EachReads ((eachAt s 0).map (·.1)) ((eachAt s 0).map (·.2)) w) := each_at s _ _ w hs rfl rfl

theorem ref_each_reads (s : ByteArray) (w : World) (hs : s.size ≤ 1000000000) :
    Calls Try.prog 21 #[.string s] w (EachReads ((eachAt s 0).map (·.1)) ((eachAt s 0).map (·.2)) w) := by
  refine (ref_each s w hs).mono ?_
  rintro e w' ⟨v, u, rfl, h1, h2, h3⟩
  exact ⟨v, u, rfl, reads_runes h1, reads_places h2, h3⟩

set_option maxHeartbeats 1000000 in
theorem runesTells_walk (n : Int) (s : ByteArray) (w : World) :
    Calls Try.prog 4 #[.int .i64 n, .string s] w fun e w' => e = .returned (.bool true) ∧ Below w.heap.size w w' := by
  by_cases h5 : (5000 : Int) < s.size
  · go_enter Try.func4, Try.ntmps4
    go_wp2_with fail
    refine (awake_any _).mono ?_
    rintro e w1 ⟨rfl, b1⟩
    go_wp2
    go_ret
    exact ⟨rfl, b1⟩
  · have hs : s.size ≤ 1000000000 := by omega
    have hl : ((eachAt s 0).map (·.1)).length ≤ 1000000000 := by have := eachAt_length s s.size 0 (by omega); rw [List.length_map]; omega
    have hm : ((eachAt s 0).map (·.2)).length ≤ 1000000000 := by have := eachAt_length s s.size 0 (by omega); rw [List.length_map]; omega
    go_enter Try.func4, Try.ntmps4
    go_wp2_with fail
    refine (runes_encode _ _).mono ?_
    rintro e w1 ⟨rfl, b1⟩
    go_wp2_with fail
    refine (ref_encode _ _).mono ?_
    rintro e w2 ⟨rfl, b2⟩
    go_wp2_with fail
    refine (each_reads s _ hs).mono ?_
    rintro e w3 ⟨v, u, rfl, hv, hu, b3⟩
    go_wp2_with fail
    refine (ref_each_reads s _ hs).mono ?_
    rintro e w4 ⟨v', u', rfl, hv', hu', b4⟩
    go_wp2_with fail
    refine (same_true _ _ _ _ (hv.below b4) hv' hl).mono ?_
    rintro e w5 ⟨rfl, b5⟩
    go_wp2_with fail
    refine (sameInts_true _ _ _ _ ((hu.below b4).below b5) (hu'.below b5) hm).mono ?_
    rintro e w6 ⟨rfl, b6⟩
    clear hv hv' hu hu' hl hm
    go_wp2_with fail
    refine (runes_valid s _ hs).mono ?_
    rintro e w7 ⟨rfl, b7⟩
    go_wp2_with fail
    refine (ref_valid s _ hs).mono ?_
    rintro e w8 ⟨rfl, b8⟩
    go_wp2_with fail
    refine (awake_any _).mono ?_
    rintro e w9 ⟨rfl, b9⟩
    go_wp2
    go_ret
    exact ⟨rfl, grew_trans (grew_trans (grew_trans (grew_trans (grew_trans (grew_trans (grew_trans (grew_trans b1 b2) b3) b4) b5) b6) b7) b8) b9⟩

end Go.Proofs.Ytfciilkngmdlbaa
