/-
  Package texts: escape, by contract.
-/
import Derived.Test.YtmioidbffnjoiaaDoorTxChar
namespace Go.Proofs.YtmioidbffnjoiaaDoor
open Go.RowKit

theorem esc_empty {r : ByteArray} (h : r.size = 0) : escL r.data.toList = none := by
  have := esc_end (s := r) (p := 0) (by omega)
  rwa [List.drop_zero] at this
theorem esc_z_at {r : ByteArray} (h : 0 < r.size) (hz : byteAt r 0 = 122) : escL r.data.toList = some ([], 1 + blanks (r.extract 1 r.size).data.toList + 1) := by
  have := esc_z (s := r) (p := 0) h hz
  rw [List.drop_zero, Nat.zero_add] at this
  have hl : r.data.toList.length = r.size := rfl
  rw [this, Lib.extract_data, List.take_of_length_le (by rw [List.length_drop, hl]; omega)]
  congr 2; omega
theorem esc_letter_at {r : ByteArray} {v : Nat} (h : 0 < r.size) (hb : ¬ (byteAt r 0 = 10 ∨ byteAt r 0 = 13)) (hv : letterN (byteAt r 0) = some v) : escL r.data.toList = some ([UInt8.ofNat v], 1 + 1) := by
  have := esc_letter (s := r) (p := 0) h hb hv
  rwa [List.drop_zero] at this
theorem esc_other {r : ByteArray} (h : 0 < r.size) (hd : digitB (byteAt r 0) = false) (hb : ¬ (byteAt r 0 = 10 ∨ byteAt r 0 = 13)) (hl : letterN (byteAt r 0) = none) (hx : byteAt r 0 ≠ 120) (hz : byteAt r 0 ≠ 122) (hu : byteAt r 0 ≠ 117) : escL r.data.toList = none := by
  have he := esc_num (s := r) (p := 0) h hb hl hx hz (fun g => hu g.1)
  have hr := run_stop (r := r) (k := 0) (m := 3) (a := 0) (by omega) (.inr hd)
  rw [hr, List.drop_zero] at he
  rw [he]; rfl
theorem index_letter (b : Nat) (x : Int) (w : World) (h : Lib.indexByte ownLetters.data.toList (UInt8.ofNat b) = x) :
    Calls Tryd.prog 21 #[.string ⟨#[97, 98, 102, 110, 114, 116, 118, 92, 34, 39]⟩, .int .u8 b] w fun e w' => e = .returned (.int .i64 x) ∧ w = w' := by
  subst h
  refine (Tryd.strings_IndexByte ownLetters b w).mono ?_
  rintro e w' ⟨h, h'⟩
  rw [Int.toNat_natCast] at h
  exact ⟨h, h'.symm⟩

set_option maxHeartbeats 4000000 in
theorem own_escape (r : ByteArray) (w : World) (hs : r.size ≤ 1000000000) :
    Calls Tryd.prog 17 #[.string r] w (EscIs r w) := by
  by_cases h0 : 0 < r.size
  · have he : r.toList.isEmpty = false := by
      have := Num.part_empty (s := r) (i := 0) (Nat.le_refl _)
      rw [Num.whole_text, decide_eq_false (by omega)] at this
      exact this
    have hx := run_index_at (P := Tryd.prog) 9 r 0 0 Tryd.underlying9 h0 rfl
    have cd := fun w => own_digit (byteAt r 0) w (byteAt_lt r 0)
    cases hd : digitB (byteAt r 0)
    · rw [hd] at cd
      by_cases hb : byteAt r 0 = 10 ∨ byteAt r 0 = 13
      · have HE := Lib.hid (esc_line_at h0 hb)
        have cl := fun w => own_line r w h0 hb
        clear hd
        generalize byteAt r 0 = b at *
        rcases hb with hb | hb
        · have t1 : ((b : Int) == 10) = true := by rw [hb]; rfl
          clear hb
          go_enter Tryd.func17, Tryd.ntmps17
          go_wp2_with fail
          refine (cd _).mono ?_
          rintro e w1 ⟨rfl, rfl⟩
          go_wp2_with fail
          refine (cl _).mono ?_
          rintro e w1 ⟨rfl, rfl⟩
          go_wp2
          go_ret3
          exact esc_some HE.out rfl rfl (Below.refl _ _)
        · have t1 : ((b : Int) == 10) = false := by rw [hb]; rfl
          have t2 : ((b : Int) == 13) = true := by rw [hb]; rfl
          clear hb
          go_enter Tryd.func17, Tryd.ntmps17
          go_wp2_with fail
          refine (cd _).mono ?_
          rintro e w1 ⟨rfl, rfl⟩
          go_wp2_with fail
          refine (cl _).mono ?_
          rintro e w1 ⟨rfl, rfl⟩
          go_wp2
          go_ret3
          exact esc_some HE.out rfl rfl (Below.refl _ _)
      · have t1 : (((byteAt r 0 : Nat) : Int) == 10) = false := by rw [beq_eq_false_iff_ne]; omega
        have t2 : (((byteAt r 0 : Nat) : Int) == 13) = false := by rw [beq_eq_false_iff_ne]; omega
        by_cases h120 : byteAt r 0 = 120
        · have t3 : (((byteAt r 0 : Nat) : Int) == 120) = true := by rw [beq_iff_eq]; omega
          have c := fun w => own_hexadecimal r w hs h0 h120
          unfold EscIs at c
          clear hd hb h120
          generalize byteAt r 0 = b at *
          go_enter Tryd.func17, Tryd.ntmps17
          go_wp2_with fail
          refine (cd _).mono ?_
          rintro e w1 ⟨rfl, rfl⟩
          go_wp2_with fail
          refine (c _).mono ?_
          rintro e w1 ⟨rfl, b1⟩
          have B1 := Lib.hid b1
          clear b1
          go_wp2
          go_ret3
          exact ⟨rfl, B1.out⟩
        · have t3 : (((byteAt r 0 : Nat) : Int) == 120) = false := by rw [beq_eq_false_iff_ne]; omega
          by_cases h117 : byteAt r 0 = 117
          · have t4 : (((byteAt r 0 : Nat) : Int) == 117) = true := by rw [beq_iff_eq]; omega
            have c := fun w => own_character r w hs h0 h117
            unfold EscIs at c
            clear hd hb h120 h117
            generalize byteAt r 0 = b at *
            go_enter Tryd.func17, Tryd.ntmps17
            go_wp2_with fail
            refine (cd _).mono ?_
            rintro e w1 ⟨rfl, rfl⟩
            go_wp2_with fail
            refine (c _).mono ?_
            rintro e w1 ⟨rfl, b1⟩
            have B1 := Lib.hid b1
            clear b1
            go_wp2
            go_ret3
            exact ⟨rfl, B1.out⟩
          · have t4 : (((byteAt r 0 : Nat) : Int) == 117) = false := by rw [beq_eq_false_iff_ne]; omega
            by_cases h122 : byteAt r 0 = 122
            · have t5 : (((byteAt r 0 : Nat) : Int) == 122) = true := by rw [beq_iff_eq]; omega
              have HE := Lib.hid (esc_z_at h0 h122)
              have hsl := run_behind (P := Tryd.prog) 9 r 1 1 Tryd.underlying9 (by omega) rfl
              have hzs : (r.extract 1 r.size).size ≤ 1000000000 := by rw [Num.part_size (Nat.le_refl _)]; omega
              have c := fun w => own_blanks (r.extract 1 r.size) w hzs
              have hbl := blanks_le (r.extract 1 r.size).data.toList
              have hbz : (blanks (r.extract 1 r.size).data.toList : Int) ≤ 1000000000 := by
                have : (r.extract 1 r.size).data.toList.length = (r.extract 1 r.size).size := rfl
                omega
              clear hd hb h120 h117 h122 hbl hzs
              generalize byteAt r 0 = b at *
              generalize r.extract 1 r.size = z at *
              generalize blanks z.data.toList = k at *
              go_enter Tryd.func17, Tryd.ntmps17
              go_wp2_with fail
              refine (cd _).mono ?_
              rintro e w1 ⟨rfl, rfl⟩
              go_wp2_with fail
              refine (c _).mono ?_
              rintro e w1 ⟨rfl, rfl⟩
              go_wp2
              go_ret3
              exact esc_some HE.out rfl (by omega) (Below.refl _ _)
            · have t5 : (((byteAt r 0 : Nat) : Int) == 122) = false := by rw [beq_eq_false_iff_ne]; omega
              cases hl : letterN (byteAt r 0) with
              | none =>
                have HE := Lib.hid (esc_other h0 hd hb hl h120 h122 h117)
                have ci := fun w => index_letter (byteAt r 0) (-1) w (own_miss _ (byteAt_lt r 0) hl)
                clear hd hb h120 h117 h122 hl
                generalize byteAt r 0 = b at *
                go_enter Tryd.func17, Tryd.ntmps17
                go_wp2_with fail
                refine (cd _).mono ?_
                rintro e w1 ⟨rfl, rfl⟩
                go_wp2_with fail
                refine (ci _).mono ?_
                rintro e w1 ⟨rfl, rfl⟩
                go_wp2
                go_ret3
                exact esc_none HE.out (Below.refl _ _)
              | some v =>
                have HE := Lib.hid (esc_letter_at h0 hb hl)
                obtain ⟨k, hk, hi, hT⟩ := own_hit _ (byteAt_lt r 0) v hl
                have ci := fun w => index_letter (byteAt r 0) k w hi
                have hsl := run_slice_at (P := Tryd.prog) 9 ownWorths (k : Int) ((k : Int) + 1) k (k + 1) Tryd.underlying9 (by omega) (by show k + 1 ≤ 10; omega) rfl (by omega)
                unfold ownWorths at hsl hT
                have HT := Lib.hid hT
                have hk' : (k : Int) < 10 := by omega
                clear hd hb h120 h117 h122 hl hi hT
                generalize byteAt r 0 = b at *
                generalize (ByteArray.mk #[7, 8, 12, 10, 13, 9, 11, 92, 34, 39]).extract k (k + 1) = T at *
                go_enter Tryd.func17, Tryd.ntmps17
                go_wp2_with fail
                refine (cd _).mono ?_
                rintro e w1 ⟨rfl, rfl⟩
                go_wp2_with fail
                refine (ci _).mono ?_
                rintro e w1 ⟨rfl, rfl⟩
                go_wp2
                go_ret3
                exact esc_some HE.out HT.out rfl (Below.refl _ _)
    · rw [hd] at cd
      have c := fun w => own_decimal r w hs h0 hd
      unfold EscIs at c
      clear hd
      generalize byteAt r 0 = b at *
      go_enter Tryd.func17, Tryd.ntmps17
      go_wp2_with fail
      refine (cd _).mono ?_
      rintro e w1 ⟨rfl, rfl⟩
      go_wp2_with fail
      refine (c _).mono ?_
      rintro e w1 ⟨rfl, b1⟩
      have B1 := Lib.hid b1
      clear b1
      go_wp2
      go_ret3
      exact ⟨rfl, B1.out⟩
  · have HN := Lib.hid (esc_empty (r := r) (by omega))
    have he : r.toList.isEmpty = true := by
      have := Num.part_empty (s := r) (i := 0) (Nat.le_refl _)
      rw [Num.whole_text, decide_eq_true (by omega)] at this
      exact this
    go_enter Tryd.func17, Tryd.ntmps17
    go_wp2
    go_ret3
    exact esc_none HN.out (Below.refl _ _)

end Go.Proofs.YtmioidbffnjoiaaDoor
