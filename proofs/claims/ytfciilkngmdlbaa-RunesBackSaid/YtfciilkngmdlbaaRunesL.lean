/-
  RunesNumbers: the fixed examples of the chapter, and all bytes' classes.
-/
import Derived.Test.YtfciilkngmdlbaaRunesK
namespace Go.Proofs.Ytfciilkngmdlbaa
open Go.RowKit

theorem valid_at (s : ByteArray) (c : Bool) (w : World) (hs : s.size ≤ 1000000000) (hc : validAt s 0 = c) :
    Calls Try.prog 19 #[.string s] w fun e w' => e = .returned (.bool c) ∧ Below w.heap.size w w' := by
  have := runes_valid s w hs
  unfold ValidPost at this
  rwa [hc] at this

def theTen : List Int := [127, 128, 2047, 2048, 65535, 65536, 2097151, 2097152, 67108863, 67108864]

set_option maxHeartbeats 2000000 in
set_option maxRecDepth 100000 in
theorem runesNumbers_walk (w : World) :
    Calls Try.prog 3 #[] w fun e w' => e = .returned (.bool true) ∧ Below w.heap.size w w' := by
  go_enter Try.func3, Try.ntmps3
  go_wp2_with fail
  refine (encode_at 2147483647 ⟨#[253, 191, 191, 191, 191, 191]⟩ 0 _ (by kernel_rfl) (by kernel_rfl)).mono ?_
  rintro e w1 ⟨rfl, b1⟩
  go_wp2_with fail
  refine (encode_at (-1) ⟨#[]⟩ 10 _ (by kernel_rfl) (by kernel_rfl)).mono ?_
  rintro e w2 ⟨rfl, b2⟩
  go_wp2_with fail
  refine (encode_at 2147483648 ⟨#[]⟩ 10 _ (by kernel_rfl) (by kernel_rfl)).mono ?_
  rintro e w3 ⟨rfl, b3⟩
  go_wp2_with fail
  refine (encode_at 0 ⟨#[0]⟩ 0 _ (by kernel_rfl) (by kernel_rfl)).mono ?_
  rintro e w4 ⟨rfl, b4⟩
  have b14 := grew_trans (grew_trans (grew_trans b1 b2) b3) b4
  clear b1 b2 b3 b4
  go_wp2_with fail
  refine (each_at ⟨#[237, 160, 128]⟩ [65533, 65533, 65533] [0, 1, 2] _ (by decide) (by kernel_rfl) (by kernel_rfl)).mono ?_
  rintro e w5 ⟨v, u, rfl, hv, hu, b5⟩
  go_wp2_with fail
  have hl : ∀ w : World, Reads (w.alloc (.cells #[.int .i32 65533, .int .i32 65533, .int .i32 65533] 21)) .i32 (.slice (some ⟨w.heap.size, 0, none⟩) 3 3) [65533, 65533, 65533] := fun w => reads_block w .i32 21 [65533, 65533, 65533]
  have hm : ∀ w : World, Reads (w.alloc (.cells #[.int .i64 0, .int .i64 1, .int .i64 2] 3)) .i64 (.slice (some ⟨w.heap.size, 0, none⟩) 3 3) [0, 1, 2] := fun w => reads_block w .i64 3 [0, 1, 2]
  refine (same_true _ _ [65533, 65533, 65533] _ (hv.below ((Below.refl _ _).alloc (Nat.le_refl _) _)) (hl _) (by decide)).mono ?_
  rintro e w6 ⟨rfl, b6⟩
  have hu6 := (hu.below ((Below.refl _ _).alloc (Nat.le_refl _) (.cells #[.int .i32 65533, .int .i32 65533, .int .i32 65533] 21))).below b6
  go_wp2_with fail
  refine (sameInts_true _ _ [0, 1, 2] _ (hu6.below ((Below.refl _ _).alloc (Nat.le_refl _) _)) (hm _) (by decide)).mono ?_
  rintro e w7 ⟨rfl, b7⟩
  have b := grew_trans (grew_alloc (grew_trans (grew_alloc (grew_trans b14 b5) _) b6) _) b7
  clear b14 b5 b6 b7 hv hu hu6 hl hm
  go_wp2
  go_loop [12] (fun i => ∃ k : Nat, k ≤ 256 ∧ i = .int .i64 k) (fun i => 256 - (intOf i).toNat)
  case atStart => exact ⟨0, by omega, rfl⟩
  case round =>
    obtain ⟨k, hk, rfl⟩ := hrel
    by_cases hlt : k < 256
    · go_wp2_with (first
        | (go_at_call 10; refine (runes_hex k _ hlt).mono ?_; rintro e w' ⟨rfl, rfl⟩)
        | (go_at_call 11; refine (ref_hex k _ hlt).mono ?_; rintro e w' ⟨rfl, rfl⟩)
        | (go_at_call 12; refine (runes_letter k _ hlt).mono ?_; rintro e w' ⟨rfl, rfl⟩)
        | (go_at_call 13; refine (ref_letter k _ hlt).mono ?_; rintro e w' ⟨rfl, rfl⟩)
        | (go_at_call 14; refine (runes_digit k _ hlt).mono ?_; rintro e w' ⟨rfl, rfl⟩)
        | (go_at_call 15; refine (ref_digit k _ hlt).mono ?_; rintro e w' ⟨rfl, rfl⟩)
        | (go_at_call 16; refine (runes_space k _ hlt).mono ?_; rintro e w' ⟨rfl, rfl⟩)
        | (go_at_call 17; refine (ref_space k _ hlt).mono ?_; rintro e w' ⟨rfl, rfl⟩))
      go_round
      case rel => exact ⟨k + 1, by omega, by go_num⟩
      case measure => simp only [intOf]; omega
    · obtain rfl : k = 256 := by omega
      rw [show ((256 : Nat) : Int) = 256 from rfl]
      go_wp2
      obtain ⟨W, hW⟩ : ∃ W, W = w7.alloc (.cells (theTen.map (Value.int .i64)).toArray 2) := ⟨_, rfl⟩
      have hcell : ∀ (k : Nat) (h : k < theTen.length), W.cell? ⟨w7.heap.size, k, none⟩ = some (.int .i64 theTen[k]) := fun k h => by
        rw [hW, World.cell?_alloc_mark]
        simp [h]
      have hbW : Below w.heap.size w W := by rw [hW]; exact grew_alloc b _
      have hsz : w7.heap.size < W.heap.size := by rw [hW]; simp
      have hWe : w7.alloc (.cells #[.int .i64 127, .int .i64 128, .int .i64 2047, .int .i64 2048, .int .i64 65535, .int .i64 65536, .int .i64 2097151, .int .i64 2097152, .int .i64 67108863, .int .i64 67108864] 2) = W := by rw [hW]; rfl
      rw [hWe]
      have HC := Lib.hid hcell
      clear hW hWe hcell b
      go_loopw [121] (fun i wr => ∃ k : Nat, k ≤ 10 ∧ i = .int .i64 k ∧ Below W.heap.size W wr) (fun i _ => 10 - (intOf i).toNat)
      case atStart => exact ⟨0, by omega, rfl, Below.refl _ _⟩
      case round =>
        obtain ⟨k, hk, rfl, hb⟩ := hrel
        by_cases hlt : k < 10
        · have hc : wr.cell? ⟨w7.heap.size, k, none⟩ = some (.int .i64 (theTen[k]'hlt)) := by rw [hb.cell (p := ⟨w7.heap.size, k, none⟩) hsz]; exact HC.out k hlt
          generalize theTen[k]'hlt = x at *
          go_wp2_with fail
          refine (runes_encode x _).mono ?_
          rintro e W1 ⟨rfl, c1⟩
          go_wp2_with fail
          refine (ref_encode x _).mono ?_
          rintro e W2 ⟨rfl, c2⟩
          go_wp2
          go_roundw
          case rel => exact ⟨k + 1, by omega, by go_num, hb.trans ((grew_trans c1 c2).mono hb.size)⟩
          case measure => simp only [intOf]; omega
        · obtain rfl : k = 10 := by omega
          rw [show ((10 : Nat) : Int) = 10 from rfl]
          have hbw := grew_trans hbW hb
          clear hbW hb
          go_wp2_with fail
          refine (valid_at ⟨#[195]⟩ false _ (by decide) (by kernel_rfl)).mono ?_
          rintro e W1 ⟨rfl, c1⟩
          go_wp2_with fail
          refine (valid_at ⟨#[239, 191, 189]⟩ true _ (by decide) (by kernel_rfl)).mono ?_
          rintro e W2 ⟨rfl, c2⟩
          go_wp2_with fail
          refine (valid_at ⟨#[]⟩ true _ (by decide) (by kernel_rfl)).mono ?_
          rintro e W3 ⟨rfl, c3⟩
          go_wp2_with fail
          refine (awake_any _).mono ?_
          rintro e W4 ⟨rfl, c4⟩
          go_wp2
          go_ret
          exact ⟨rfl, grew_trans (grew_trans (grew_trans (grew_trans hbw c1) c2) c3) c4⟩

end Go.Proofs.Ytfciilkngmdlbaa
