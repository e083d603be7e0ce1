/-
  TextsNumbers.
-/
import Derived.Test.YtmioidbffnjoiaaDoorTextsAwake
import Derived.Deep.DeepCutAuto
import Derived.Deep.CutBlock
namespace Go.Proofs.YtmioidbffnjoiaaDoor
open Go.RowKit

def bads : List ByteArray := [⟨#[]⟩, ⟨#[97]⟩, ⟨#[34]⟩, ⟨#[34, 97]⟩, ⟨#[97, 34]⟩, ⟨#[34, 92, 50, 53, 54, 34]⟩, ⟨#[34, 92, 113, 34]⟩, ⟨#[34, 92, 117, 123, 125, 34]⟩, ⟨#[34, 92, 120, 103, 48, 34]⟩, ⟨#[34, 92, 117, 123, 56, 48, 48, 48, 48, 48, 48, 48, 125, 34]⟩, ⟨#[34, 92, 117, 52, 49, 34]⟩, ⟨#[34, 97, 34, 98, 34]⟩, ⟨#[34, 97, 10, 98, 34]⟩, ⟨#[34, 97, 39]⟩, ⟨#[34, 92, 34]⟩, ⟨#[34, 92, 120, 52, 34]⟩, ⟨#[34, 97, 92, 10, 10, 98, 34]⟩, ⟨#[34, 97, 13, 98, 34]⟩, ⟨#[34, 97, 92, 13, 13, 98, 34]⟩]
theorem bads_told : ∀ k < 19, unqT (bads.getD k ⟨#[]⟩).data.toList = ⟨#[]⟩ ∧ unqE (bads.getD k ⟨#[]⟩).data.toList = 30 := by decide +kernel
theorem bads_size : ∀ k < 19, (bads.getD k ⟨#[]⟩).size ≤ 100000000 := by decide +kernel

set_option maxHeartbeats 8000000 in
set_option maxRecDepth 100000 in
theorem textsNumbers_walk (w : World) :
    Calls Tryd.prog 3 #[] w fun e w' => e = .returned (.bool true) ∧ Below w.heap.size w w' := by
  go_enter Tryd.func3, Tryd.ntmps3
  go_wp2
  obtain ⟨W, hW⟩ : ∃ W, W = w.alloc (.cells (bads.map Value.string).toArray 9) := ⟨_, rfl⟩
  have hcell : ∀ k, k < 19 → W.cell? ⟨w.heap.size, k, none⟩ = some (.string (bads.getD k ⟨#[]⟩)) := fun k hk => by
    rw [hW, World.cell?_alloc_mark]
    have : k < bads.length := hk
    simp [this]
  have hbW : Below w.heap.size w W := by rw [hW]; exact (Below.refl _ _).alloc (Nat.le_refl _) _
  have hsz : w.heap.size < W.heap.size := by rw [hW]; simp
  have hWe : w.alloc (.cells #[.string ⟨#[]⟩, .string ⟨#[97]⟩, .string ⟨#[34]⟩, .string ⟨#[34, 97]⟩, .string ⟨#[97, 34]⟩, .string ⟨#[34, 92, 50, 53, 54, 34]⟩, .string ⟨#[34, 92, 113, 34]⟩, .string ⟨#[34, 92, 117, 123, 125, 34]⟩, .string ⟨#[34, 92, 120, 103, 48, 34]⟩, .string ⟨#[34, 92, 117, 123, 56, 48, 48, 48, 48, 48, 48, 48, 125, 34]⟩, .string ⟨#[34, 92, 117, 52, 49, 34]⟩, .string ⟨#[34, 97, 34, 98, 34]⟩, .string ⟨#[34, 97, 10, 98, 34]⟩, .string ⟨#[34, 97, 39]⟩, .string ⟨#[34, 92, 34]⟩, .string ⟨#[34, 92, 120, 52, 34]⟩, .string ⟨#[34, 97, 92, 10, 10, 98, 34]⟩, .string ⟨#[34, 97, 13, 98, 34]⟩, .string ⟨#[34, 97, 92, 13, 13, 98, 34]⟩] 9) = W := by rw [hW]; rfl
  rw [hWe]
  have HS := Lib.hid hsz
  have HB0 := Lib.hid hbW
  have HC0 := Lib.hid hcell
  clear hW hWe hcell hbW hsz
  go_loopw [19] (fun i wr => ∃ k : Nat, k ≤ 19 ∧ i = .int .i64 k ∧ Below w.heap.size w wr ∧ w.heap.size < wr.heap.size ∧ ∀ k, k < 19 → wr.cell? ⟨w.heap.size, k, none⟩ = some (.string (bads.getD k ⟨#[]⟩))) (fun i _ => 19 - (intOf i).toNat)
  case atStart => exact ⟨0, by omega, rfl, HB0.out, HS.out, HC0.out⟩
  case round =>
    obtain ⟨k, hk, rfl, hb, hs, hc⟩ := hrel
    have HB := Lib.hid hb
    have HZ := Lib.hid hs
    have HC := Lib.hid hc
    clear hb hs hc HS HB0 HC0
    by_cases hlt : k < 19
    · have hc := HC.out k hlt
      have c := fun w => unq_is (bads.getD k ⟨#[]⟩) ⟨#[]⟩ 30 w (bads_size k hlt) (bads_told k hlt).1 (bads_told k hlt).2
      generalize bads.getD k ⟨#[]⟩ = m at *
      have hlt' : (k : Int) < 19 := by omega
      go_wp2_with fail
      refine (c _).mono ?_
      rintro e w1 ⟨rfl, b1⟩
      have HB1 := Lib.hid (trans_below HB.out b1)
      have HZ1 := Lib.hid (Nat.lt_of_lt_of_le HZ.out b1.size)
      have HC1 := Lib.hid (fun j (hj : j < 19) => (b1.cell (p := ⟨w.heap.size, j, none⟩) HZ.out).trans (HC.out j hj))
      clear b1 c hc
      go_wp2_with fail
      go_roundw
      case rel => exact ⟨k + 1, by omega, by go_num, HB1.out, HZ1.out, HC1.out⟩
      case measure => simp only [intOf]; omega
    · obtain rfl : k = 19 := by omega
      clear HZ HC hk hlt
      go_wp2_with fail
      refine (says_yes ⟨#[39, 39]⟩ ⟨#[]⟩ _ (by decide) (by decide +kernel) (by decide +kernel)).mono ?_
      rintro e x1 ⟨rfl, b1⟩
      have B1 := Lib.hid (trans_below HB.out b1)
      clear b1
      go_wp2_with fail
      refine (says_yes ⟨#[34, 39, 34]⟩ ⟨#[39]⟩ _ (by decide) (by decide +kernel) (by decide +kernel)).mono ?_
      rintro e x2 ⟨rfl, b2⟩
      have B2 := Lib.hid (trans_below B1.out b2)
      clear b2
      go_wp2_with fail
      refine (says_yes ⟨#[34, 92, 97, 92, 98, 92, 102, 92, 110, 92, 114, 92, 116, 92, 118, 92, 92, 92, 39, 92, 34, 34]⟩ ⟨#[7, 8, 12, 10, 13, 9, 11, 92, 39, 34]⟩ _ (by decide) (by decide +kernel) (by decide +kernel)).mono ?_
      rintro e x3 ⟨rfl, b3⟩
      have B3 := Lib.hid (trans_below B2.out b3)
      clear b3
      go_wp2_with fail
      refine (says_yes ⟨#[34, 97, 92, 13, 10, 98, 92, 10, 92, 10, 99, 34]⟩ ⟨#[97, 10, 98, 10, 10, 99]⟩ _ (by decide) (by decide +kernel) (by decide +kernel)).mono ?_
      rintro e x4 ⟨rfl, b4⟩
      have B4 := Lib.hid (trans_below B3.out b4)
      clear b4
      go_wp2_with fail
      refine (says_yes ⟨#[34, 92, 49, 50, 51, 52, 34]⟩ ⟨#[123, 52]⟩ _ (by decide) (by decide +kernel) (by decide +kernel)).mono ?_
      rintro e x5 ⟨rfl, b5⟩
      have B5 := Lib.hid (trans_below B4.out b5)
      clear b5
      go_wp2_with fail
      refine (says_yes ⟨#[34, 92, 48, 54, 53, 49, 34]⟩ ⟨#[65, 49]⟩ _ (by decide) (by decide +kernel) (by decide +kernel)).mono ?_
      rintro e x6 ⟨rfl, b6⟩
      have B6 := Lib.hid (trans_below B5.out b6)
      clear b6
      go_wp2_with fail
      refine (says_yes ⟨#[34, 92, 122, 34]⟩ ⟨#[]⟩ _ (by decide) (by decide +kernel) (by decide +kernel)).mono ?_
      rintro e x7 ⟨rfl, b7⟩
      have B7 := Lib.hid (trans_below B6.out b7)
      clear b7
      go_wp2_with fail
      refine (says_yes ⟨#[34, 92, 117, 123, 55, 70, 70, 70, 70, 70, 70, 70, 125, 34]⟩ ⟨#[253, 191, 191, 191, 191, 191]⟩ _ (by decide) (by decide +kernel) (by decide +kernel)).mono ?_
      rintro e x8 ⟨rfl, b8⟩
      have B8 := Lib.hid (trans_below B7.out b8)
      clear b8
      go_wp2_with fail
      refine (says_yes ⟨#[34, 92, 117, 123, 48, 48, 48, 48, 48, 48, 48, 48, 48, 48, 48, 52, 49, 125, 34]⟩ ⟨#[65]⟩ _ (by decide) (by decide +kernel) (by decide +kernel)).mono ?_
      rintro e x9 ⟨rfl, b9⟩
      have B9 := Lib.hid (trans_below B8.out b9)
      clear b9
      go_wp2_with fail
      refine (long_is ⟨#[120]⟩ ⟨#[91, 91, 10, 120, 93, 93]⟩ true _ (by decide) (by decide +kernel) (by decide +kernel)).mono ?_
      rintro e x10 ⟨rfl, b10⟩
      have B10 := Lib.hid (trans_below B9.out b10)
      clear b10
      go_wp2_with fail
      refine (long_is ⟨#[120, 93]⟩ ⟨#[91, 61, 91, 10, 120, 93, 93, 61, 93]⟩ true _ (by decide) (by decide +kernel) (by decide +kernel)).mono ?_
      rintro e x11 ⟨rfl, b11⟩
      have B11 := Lib.hid (trans_below B10.out b11)
      clear b11
      go_wp2_with fail
      refine (long_is ⟨#[13]⟩ ⟨#[]⟩ false _ (by decide) (by decide +kernel) (by decide +kernel)).mono ?_
      rintro e x12 ⟨rfl, b12⟩
      have B12 := Lib.hid (trans_below B11.out b12)
      clear b12
      go_wp2_with fail
      refine (long_is ⟨#[93, 61, 93]⟩ ⟨#[91, 61, 61, 91, 10, 93, 61, 93, 93, 61, 61, 93]⟩ true _ (by decide) (by decide +kernel) (by decide +kernel)).mono ?_
      rintro e x13 ⟨rfl, b13⟩
      have B13 := Lib.hid (trans_below B12.out b13)
      clear b13
      go_wp2_with fail
      refine (long_is ⟨#[93, 93, 93, 61, 93, 93, 61, 61, 93]⟩ ⟨#[91, 61, 61, 61, 91, 10, 93, 93, 93, 61, 93, 93, 61, 61, 93, 93, 61, 61, 61, 93]⟩ true _ (by decide) (by decide +kernel) (by decide +kernel)).mono ?_
      rintro e x14 ⟨rfl, b14⟩
      have B14 := Lib.hid (trans_below B13.out b14)
      clear b14
      go_wp2_with fail
      refine (quote_is ⟨#[]⟩ ⟨#[34, 34]⟩ _ (by decide) (by decide +kernel)).mono ?_
      rintro e x15 ⟨rfl, b15⟩
      have B15 := Lib.hid (trans_below B14.out b15)
      clear b15
      go_wp2_with fail
      refine (quote_is ⟨#[127, 126, 255, 92]⟩ ⟨#[34, 92, 49, 50, 55, 126, 92, 50, 53, 53, 92, 92, 34]⟩ _ (by decide) (by decide +kernel)).mono ?_
      rintro e x16 ⟨rfl, b16⟩
      have B16 := Lib.hid (trans_below B15.out b16)
      clear b16
      go_wp2_with fail
      refine (cmpt_is ⟨#[98]⟩ ⟨#[97, 98]⟩ 1 _ (by decide) (by decide) (by decide +kernel)).mono ?_
      rintro e x17 ⟨rfl, b17⟩
      have B17 := Lib.hid (trans_below B16.out b17)
      clear b17
      go_wp2_with fail
      refine (cmpt_is ⟨#[]⟩ ⟨#[]⟩ 0 _ (by decide) (by decide) (by decide +kernel)).mono ?_
      rintro e x18 ⟨rfl, b18⟩
      have B18 := Lib.hid (trans_below B17.out b18)
      clear b18
      go_wp2_with fail
      refine (cmpt_is ⟨#[255]⟩ ⟨#[97]⟩ 1 _ (by decide) (by decide) (by decide +kernel)).mono ?_
      rintro e x19 ⟨rfl, b19⟩
      have B19 := Lib.hid (trans_below B18.out b19)
      clear b19
      go_wp2_with fail
      refine (awake_texts _).mono ?_
      rintro e x20 ⟨rfl, b20⟩
      have B20 := Lib.hid (trans_below B19.out b20)
      clear b20
      go_wp2_with fail
      go_ret
      exact ⟨rfl, B20.out⟩

end Go.Proofs.YtmioidbffnjoiaaDoor
