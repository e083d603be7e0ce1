/-
  IntsBack.
-/
import Derived.Test.YtboclbmankbngaaDoorIntsK
import Derived.Test.YtboclbmankbngaaDoorIntsO
import Derived.Deep.QuietTactic
import Derived.BigQuiet
namespace Go.Proofs.YtboclbmankbngaaDoor
open Go.RowKit

def noughtsB (z : Nat) : ByteArray := ⟨(List.replicate z 48).toArray⟩
theorem noughts_size (z : Nat) : (noughtsB z).size = z := by
  show (List.replicate z (48 : UInt8)).length = z
  exact List.length_replicate
theorem noughts_more (z : Nat) : noughtsB z ++ ⟨#[48]⟩ = noughtsB (z + 1) := by
  apply ByteArray.ext
  apply Array.ext'
  rw [cat_list]
  show List.replicate z (48 : UInt8) ++ [48] = List.replicate (z + 1) 48
  rw [List.replicate_succ']
theorem text_list (n : Int) : (textOf n).data.toList = sgnL n ++ magL 0 n := itoa_parts n
theorem text_back (n : Int) (hn : In64 n) : parseOf (textOf n) = (n, true) :=
  parse_num [] [] 0 n hn (fun c h => by cases h) (fun c h => by cases h) _ (by rw [text_list]; simp)
theorem text_size (n : Int) (hn : In64 n) : (textOf n).size ≤ 21 := Lib.itoa_length_le n hn.1 hn.2

theorem blank_a : ∀ c ∈ ([32, 9] : List UInt8), spaceB c.toNat = true := by decide
theorem blank_b : ∀ c ∈ ([10, 32] : List UInt8), spaceB c.toNat = true := by decide

theorem back_plain (n : Int) (z : Nat) (hn : In64 n) (h : ¬ n < 0) (F : ByteArray) (hF : F.data.toList = [32, 9] ++ (List.replicate z 48 ++ ((textOf n).data.toList ++ [10, 32]))) : parseOf F = (n, true) := by
  refine parse_num [32, 9] [10, 32] z n hn blank_a blank_b F ?_
  rw [hF, text_list]
  have e : sgnL n = [] := by unfold sgnL; rw [if_neg h]
  rw [e]
  unfold magL
  simp
theorem back_minus (n : Int) (z : Nat) (hn : In64 n) (h : n < 0) (F : ByteArray) (hF : F.data.toList = [32, 9, 45] ++ (List.replicate z 48 ++ ((textOf n).data.toList.drop 1 ++ [10, 32]))) : parseOf F = (n, true) := by
  refine parse_num [32, 9] [10, 32] z n hn blank_a blank_b F ?_
  rw [hF, text_list]
  have e : sgnL n = [45] := by unfold sgnL; rw [if_pos h]
  rw [e]
  unfold magL
  simp

theorem minus_two (n : Int) (h : n < 0) : 2 ≤ (textOf n).size ∧ byteAt (textOf n) 0 = 45 := by
  have e : (textOf n).data.toList = 45 :: magL 0 n := by rw [text_list, sgnL, if_pos h]; rfl
  refine ⟨?_, ?_⟩
  · have h1 : (textOf n).data.toList.length = (textOf n).size := rfl
    have h2 := magL_some 0 n
    rw [e, List.length_cons] at h1
    omega
  · rw [byte_of (c := 45) (by rw [e]; rfl)]; rfl

set_option maxHeartbeats 2000000 in
set_option maxRecDepth 100000 in
theorem intsBack_walk (n noughts : Int) (w : World) (hn : In64 n) (hz : 0 ≤ noughts ∧ noughts ≤ 255) (hv : Vars w) :
    Calls Tryd.prog 7 #[.int .i64 n, .int .u8 noughts] w fun e w' => e = .returned (.bool true) ∧ Below w.heap.size w w' := by
  obtain ⟨z, hzz⟩ : ∃ z : Nat, noughts % 40 = z := ⟨(noughts % 40).toNat, by omega⟩
  obtain ⟨z1, z2⟩ := hz
  have hz9 : z ≤ 39 := by omega
  have hz9' : (z : Int) ≤ 39 := by omega
  have c1 := fun w hv => text_is n (textOf n) w hn hv rfl
  have hts := text_size n hn
  have c2 := fun w hv => parse_is (textOf n) n true w (by omega) hv (text_back n hn)
  have HN := Lib.hid hn
  have HV := Lib.hid hv
  have h2 := fun h => minus_two n h
  have P1 := Lib.hid (back_plain n z hn)
  have P2 := Lib.hid (back_minus n z hn)
  clear hn hv
  generalize textOf n = t at *
  go_enter Tryd.func7, Tryd.ntmps7
  go_wp2_with fail
  refine (c1 _ HV.out).mono ?_
  rintro e w1 ⟨rfl, b1⟩
  have HV1 := Lib.hid (HV.out.below b1)
  go_wp2_with fail
  refine (c2 _ HV1.out).mono ?_
  rintro e w2 ⟨rfl, b2⟩
  have HV2 := Lib.hid (HV1.out.below b2)
  have B12 := Lib.hid (grew_trans b1 b2)
  clear c1 c2 b1 b2
  go_wp2
  go_loop [8, 9] (fun v i => ∃ k : Nat, k ≤ z ∧ i = .int .u8 k ∧ v = .string (noughtsB k)) (fun _ i => z - (intOf i).toNat)
  case atStart => exact ⟨0, by omega, rfl, rfl⟩
  case round =>
    obtain ⟨k, hk, rfl, rfl⟩ := hrel
    by_cases hlt : k < z
    · have hlt' : (k : Int) < z := by omega
      have hsz := noughts_size k
      have hcat := run_string_add_sum (P := Tryd.prog) (w := w2) (noughtsB k) ⟨#[48]⟩ (by have : (⟨#[48]⟩ : ByteArray).size = 1 := rfl; omega)
      rw [noughts_more] at hcat
      obtain ⟨nk, hnk⟩ : ∃ nk, nk = noughtsB (k + 1) := ⟨_, rfl⟩
      rw [← hnk] at hcat
      have HK := Lib.hid hnk
      clear hsz h2 hnk
      go_wp2
      go_round
      case rel => exact ⟨k + 1, by omega, by go_num, by rw [HK.out]⟩
      case measure => simp only [intOf]; omega
    · obtain rfl : k = z := by omega
      have hsz := noughts_size k
      have hl : (noughtsB k).data.toList = List.replicate k 48 := rfl
      have HL := Lib.hid hl
      clear hl
      generalize noughtsB k = Z at *
      have s1 : (⟨#[32, 9]⟩ : ByteArray).size = 2 := rfl
      have s2 : (⟨#[45]⟩ : ByteArray).size = 1 := rfl
      have s3 : (⟨#[10, 32]⟩ : ByteArray).size = 2 := rfl
      by_cases hneg : n < 0
      · obtain ⟨ht2, hb0⟩ := h2 hneg
        have hx := run_index_at (P := Tryd.prog) 9 t 0 0 Tryd.underlying9 (by omega) rfl
        have hy := run_slice_string_from_if (P := Tryd.prog) w2 9 t .i64 1 Tryd.underlying9
        rw [if_pos (by omega)] at hy
        rw [hb0] at hx
        have hlt2 : decide ((t.size : Int) < 2) = false := by simp; omega
        have hlt2' : ¬ (t.size : Int) < 2 := by omega
        have p2 := fun F => P2.out hneg F
        have PF := Lib.hid p2
        clear h2 hb0 p2
        go_wp2
        go_quiet (fail)
        go_wp2_with fail
        have BQ := Lib.hid (below_drewN B12.out nq)
        refine (parse_is _ n true _ ?_ (HV.out.below BQ.out) (PF.out _ ?_)).mono ?_
        · simp only [ByteArray.size_append, ByteArray.size_extract, s1, s2, s3]; omega
        · have hd : (t.extract 1 t.size).data.toList = t.data.toList.drop 1 := by
            rw [Lib.extract_data]
            exact List.take_of_length_le (by rw [List.length_drop]; exact Nat.le_refl _)
          rw [cat_list, cat_list, cat_list, cat_list, HL.out, hd]
          simp
        · rintro e w3 ⟨rfl, b3⟩
          have HV3 := Lib.hid ((HV.out.below BQ.out).below b3)
          go_wp2_with fail
          refine (awake_any _ HV3.out).mono ?_
          rintro e w4 ⟨rfl, b4⟩
          go_wp2
          go_ret
          exact ⟨rfl, grew_trans (grew_trans BQ.out b3) b4⟩
      · have p1 := fun F => P1.out (by omega) F
        have PF := Lib.hid p1
        clear h2 p1
        go_wp2_with fail
        refine (parse_is _ n true _ ?_ HV2.out (PF.out _ ?_)).mono ?_
        · simp only [ByteArray.size_append, s1, s3]
          have : (⟨#[]⟩ : ByteArray).size = 0 := rfl
          omega
        · rw [cat_list, cat_list, cat_list, cat_list, HL.out]
          simp
        · rintro e w3 ⟨rfl, b3⟩
          have HV3 := Lib.hid (HV2.out.below b3)
          go_wp2_with fail
          refine (awake_any _ HV3.out).mono ?_
          rintro e w4 ⟨rfl, b4⟩
          go_wp2
          go_ret
          exact ⟨rfl, grew_trans (grew_trans B12.out b3) b4⟩

end Go.Proofs.YtboclbmankbngaaDoor
