/-
  Package texts: decimal, by contract.
  Package texts: character, by contract.
  Package texts: escape, by contract.
-/
import Derived.Test.YtajeghkmgcpgiaaGreatDoorTxEsc
namespace Go.Proofs.YtajeghkmgcpgiaaGreatDoor
open Go.RowKit

theorem cut_head (r : ByteArray) {k : Nat} (hk : k ≤ r.size) : (r.extract 0 k).size = k := by rw [Num.part_size hk]; omega

set_option maxHeartbeats 2000000 in
theorem own_decimal (r : ByteArray) (w : World) (hs : r.size ≤ 1000000000) (h0 : 0 < r.size) (hd0 : digitB (byteAt r 0) = true) :
    Calls Tryz.prog 121 #[.string r] w (EscIs r w) := by
  have hcv := fun (w : World) (x : Int) => run_convert_block (P := Tryz.prog) w 30 9 5 [x] (0, 0) Tryz.underlying30 Tryz.underlying5 Tryz.underlying9
  simp only [List.map_cons, List.map_nil, List.length_cons, List.length_nil, Nat.zero_add] at hcv
  go_enter Tryz.func121, Tryz.ntmps121
  go_upto_block 0 with fail
  go_cut [5] (fun i wx => wx = w ∧ ∃ k v : Nat, i = .int .i64 k ∧ 1 ≤ k ∧ k ≤ 3 ∧ k ≤ r.size ∧ (∀ j, j < k → digitB (byteAt r j) = true) ∧ runN 10 3 r.data.toList 0 = (v, k) ∧ Lib.parseMag (r.extract 0 k).data.toList = .ok v ∧ v ≤ 999)
  case first =>
    go_wp2_with fail
    go_loop [5] (fun i => ∃ k : Nat, 1 ≤ k ∧ k ≤ 3 ∧ k ≤ r.size ∧ i = .int .i64 k ∧ ∀ j, j < k → digitB (byteAt r j) = true) (fun i => 3 - (intOf i).toNat)
    case atStart => exact ⟨1, by omega, by omega, by omega, rfl, fun j hj => by rw [show j = 0 from by omega]; exact hd0⟩
    case round =>
      obtain ⟨k, hk1, hk3, hks, rfl, ha⟩ := hrel
      have HA := Lib.hid ha
      clear ha
      by_cases hlt : k < 3 ∧ k < r.size
      · obtain ⟨hlt, hlz⟩ := hlt
        have hlz' : (k : Int) < r.size := by omega
        have hx := run_index_at (P := Tryz.prog) 9 r (k : Int) k Tryz.underlying9 hlz rfl
        have cs := fun w => own_digit (byteAt r k) w (byteAt_lt r k)
        cases hdg : digitB (byteAt r k)
        · have HQ := Lib.hid (dec_run r k hk1 hk3 hks HA.out (.inr (.inr hdg)))
          rw [hdg] at cs
          clear hdg
          generalize byteAt r k = b at *
          go_wp2_with fail
          refine (cs _).mono ?_
          rintro e w1 ⟨rfl, rfl⟩
          go_wp2_with fail
          go_meet
          obtain ⟨v, hq1, hq2, hq3⟩ := HQ.out
          exact ⟨rfl, k, v, rfl, hk1, hk3, hks, HA.out, hq1, hq2, hq3⟩
        · have HQ := Lib.hid (fun j (hj : j < k + 1) => show digitB (byteAt r j) = true by
            by_cases e : j = k
            · rw [e]; exact hdg
            · exact HA.out j (by omega))
          rw [hdg] at cs
          clear hdg
          generalize byteAt r k = b at *
          go_wp2_with fail
          refine (cs _).mono ?_
          rintro e w1 ⟨rfl, rfl⟩
          go_wp2_with fail
          go_round
          case rel => exact ⟨k + 1, by omega, by omega, by omega, by go_num, HQ.out⟩
          case measure => simp only [intOf]; omega
      · have HQ := Lib.hid (dec_run r k hk1 hk3 hks HA.out (by omega))
        by_cases h3 : k < 3
        · have hlz' : ¬ (k : Int) < r.size := by omega
          go_wp2_with fail
          go_meet
          obtain ⟨v, hq1, hq2, hq3⟩ := HQ.out
          exact ⟨rfl, k, v, rfl, hk1, hk3, hks, HA.out, hq1, hq2, hq3⟩
        · go_wp2_with fail
          go_meet
          obtain ⟨v, hq1, hq2, hq3⟩ := HQ.out
          exact ⟨rfl, k, v, rfl, hk1, hk3, hks, HA.out, hq1, hq2, hq3⟩
  case rest =>
    obtain ⟨rfl, k, v, rfl, hk1, hk3, hks, hd, hq1, hq2, hq3⟩ := hcut
    have cp := fun w => Num.parse_digits (r.extract 0 k) v w (by rw [cut_head r hks]; omega) (by rw [cut_head r hks]; omega)
      (fun j hj => by rw [cut_head r hks] at hj; have := digit_is (hd j hj); rw [Num.byteAt_extract hks (by omega), Nat.zero_add]; exact this) hq2 hq3
    have HE := esc_digits h0 hd0 hk1 hq1
    have hks' : (k : Int) ≤ r.size := by omega
    clear hd hq1 hq2
    by_cases hv : v ≤ 255
    · rw [if_pos hv] at HE
      have HQ := Lib.hid HE
      have hv' : (v : Int) ≤ 255 := by omega
      clear HE
      go_wp2_with fail
      refine (cp _).mono ?_
      rintro e w1 ⟨rfl, b1⟩
      have B1 := Lib.hid b1
      clear b1 cp
      go_wp2
      go_ret3
      exact esc_some HQ.out rfl rfl (grew_alloc B1.out _)
    · rw [if_neg hv] at HE
      have HQ := Lib.hid HE
      have hv' : (255 : Int) < (v : Int) := by omega
      clear HE
      go_wp2_with fail
      refine (cp _).mono ?_
      rintro e w1 ⟨rfl, b1⟩
      have B1 := Lib.hid b1
      clear b1 cp
      go_wp2
      go_ret3
      exact esc_none HQ.out B1.out

end Go.Proofs.YtajeghkmgcpgiaaGreatDoor

namespace Go.Proofs.YtajeghkmgcpgiaaGreatDoor
open Go.RowKit

theorem esc_u_no {r : ByteArray} (h0 : 0 < r.size) (hU : byteAt r 0 = 117) (hi : isB r 1 123 = false) : escL r.data.toList = none := by
  have he := esc_num (s := r) (p := 0) h0 (by omega) (by rw [hU]; rfl) (by omega) (by omega) (by rw [Nat.zero_add, hi]; simp)
  obtain ⟨c, e, hl⟩ := drop_at r 0 h0
  have hr : runN 10 3 (r.data.toList.drop 0) 0 = (0, 0) := by
    rw [hl]
    exact run_no (.inl (by rw [e, hU]; rfl))
  rw [hr, List.drop_zero] at he
  rw [he]; rfl
theorem esc_u_at {r : ByteArray} {V C : Nat} (h0 : 0 < r.size) (hU : byteAt r 0 = 117) (hi : isB r 1 123 = true) (h : runN 16 r.size (r.data.toList.drop 2) 0 = (V, C)) :
    escL r.data.toList = if 0 < C ∧ V < 2147483648 ∧ isB r (2 + C) 125 = true then some ((bytesOf (encI (V : Int))).data.toList, C + 3 + 1) else none := by
  have he := esc_u (s := r) (p := 0) h0 hU hi
  rw [List.drop_zero] at he
  rw [he, show (0 : Nat) + 2 = 2 from rfl, h]
theorem isB_tail {r : ByteArray} {p b : Nat} : isB (r.extract p r.size) 0 b = isB r p b := by
  have hl : r.data.toList.length = r.size := rfl
  rw [isB_starts, isB_starts, Lib.extract_data, List.drop_zero, List.take_of_length_le (by rw [List.length_drop, hl]; omega)]

/-- 's[x:]'. -/
theorem run_behind {P : Program} (t : TypeId) (s : ByteArray) (x : Int) (i : Nat) (h : P.underlying t = some .string) (hi : i ≤ s.size) (hx : x = i) (w : World) :
    (Instr.slice t (.string s) (some (.int .i64 x)) none none).run P w = .ok (.string (s.extract i s.size)) w := by
  subst hx
  rw [run_slice_string_from_if w t _ .i64 _ h, if_pos ⟨by omega, by omega⟩]
  rfl

theorem enc_small {V : Nat} (h : V < 2147483648) : encS (V : Int) = bytesOf (encI V) ∧ encE (V : Int) = 0 := by
  unfold encS encE
  rw [if_neg (by omega), if_neg (by omega)]
  exact ⟨rfl, rfl⟩
theorem enc_great : encS ((2147483648 : Nat) : Int) = ⟨#[]⟩ ∧ encE ((2147483648 : Nat) : Int) = 10 := by
  unfold encS encE
  rw [if_pos (by omega), if_pos (by omega)]
  exact ⟨rfl, rfl⟩

set_option maxHeartbeats 4000000 in
theorem own_character (r : ByteArray) (w : World) (hs : r.size ≤ 1000000000) (h0 : 0 < r.size) (hU : byteAt r 0 = 117) :
    Calls Tryz.prog 124 #[.string r] w (EscIs r w) := by
  have p1 := has2 r 117 123
  rw [show (117 : UInt8).toNat = 117 from rfl, show (123 : UInt8).toNat = 123 from rfl, show isB r 0 117 = true by unfold isB; rw [decide_eq_true h0, decide_eq_true hU]; rfl, Bool.true_and] at p1
  have c1 := fun w => prefix_is r ⟨#[117, 123]⟩ _ w p1
  cases hi : isB r 1 123
  · have HN := Lib.hid (esc_u_no h0 hU hi)
    rw [hi] at c1
    clear p1 hi hU
    go_enter Tryz.func124, Tryz.ntmps124
    go_wp2_with fail
    refine (c1 _).mono ?_
    rintro e w1 ⟨rfl, rfl⟩
    go_wp2
    go_ret3
    exact esc_none HN.out (Below.refl _ _)
  · have HE := fun V C => esc_u_at (V := V) (C := C) h0 hU hi
    have h2 : 2 ≤ r.size := by
      unfold isB at hi
      simp at hi; omega
    have HE := Lib.hid HE
    rw [hi] at c1
    clear p1 hi hU
    go_enter Tryz.func124, Tryz.ntmps124
    go_wp2_with fail
    refine (c1 _).mono ?_
    rintro e w1 ⟨rfl, rfl⟩
    clear c1
    go_upto_block 0 with fail
    go_cut [5, 6] (fun n i wx => wx = w ∧ ∃ V C m : Nat, n = .int .i64 m ∧ m = min V 2147483648 ∧ i = .int .i64 ((2 : Int) + C) ∧ 2 + C ≤ r.size ∧ runN 16 r.size (r.data.toList.drop 2) 0 = (V, C))
    case first =>
      go_wp2_with fail
      go_loop [5, 6] (fun n i => ∃ k a m : Nat, n = .int .i64 m ∧ m = min a 2147483648 ∧ i = .int .i64 ((2 : Int) + k) ∧ 2 + k ≤ r.size ∧
        runN 16 r.size (r.data.toList.drop 2) 0 = ((runN 16 (r.size - k) (r.data.toList.drop (2 + k)) a).1, (runN 16 (r.size - k) (r.data.toList.drop (2 + k)) a).2 + k)) (fun _ i => r.size - (intOf i).toNat)
      case atStart => exact ⟨0, 0, 0, rfl, by omega, rfl, by omega, by rw [Nat.sub_zero, Nat.add_zero]; rfl⟩
      case round =>
        obtain ⟨k, a, m, rfl, hm, rfl, hk, hr⟩ := hrel
        by_cases hlt : 2 + k < r.size
        · have hlt' : (2 : Int) + k < r.size := by omega
          have hx := run_index_at (P := Tryz.prog) 9 r ((2 : Int) + k) (2 + k) Tryz.underlying9 hlt (by omega)
          have ch := fun w => own_hex (byteAt r (2 + k)) w (byteAt_lt r _)
          have hv15 := hexV_range (byteAt r (2 + k))
          obtain ⟨v, hv⟩ : ∃ v : Nat, hexV (byteAt r (2 + k)) = v := ⟨(hexV (byteAt r (2 + k))).toNat, by omega⟩
          cases hh : hexB (byteAt r (2 + k))
          · have HR := Lib.hid (show runN 16 r.size (r.data.toList.drop 2) 0 = (a, k) by rw [hr, hex_at_no hlt hh, Nat.zero_add])
            have HM := Lib.hid hm
            rw [hh] at ch
            clear hr hh hm hv
            generalize byteAt r (2 + k) = b at *
            go_wp2_with fail
            refine (ch _).mono ?_
            rintro e w1 ⟨rfl, rfl⟩
            go_wp2_with fail
            go_meet
            exact ⟨rfl, a, k, m, rfl, HM.out, rfl, hk, HR.out⟩
          · have HR := Lib.hid (show runN 16 r.size (r.data.toList.drop 2) 0 = ((runN 16 (r.size - (k + 1)) (r.data.toList.drop (2 + (k + 1))) (a * 16 + v)).1, (runN 16 (r.size - (k + 1)) (r.data.toList.drop (2 + (k + 1))) (a * 16 + v)).2 + (k + 1)) by
              rw [hr, show r.size - k = (r.size - (k + 1)) + 1 from by omega, hex_at_yes hlt hh hv (by omega)]
              rw [show 2 + k + 1 = 2 + (k + 1) from by omega]
              simp only [Prod.mk.injEq, true_and]
              omega)
            rw [hh, hv] at ch
            rw [hv] at hv15
            have hm9 : m ≤ 2147483648 := by omega
            have HM := Lib.hid (show min (m * 16 + v) 2147483648 = min (a * 16 + v) 2147483648 by rw [hm]; exact cap16 a v)
            have o := or16 m v hm9 (by omega)
            clear hr hh hm hv
            generalize byteAt r (2 + k) = b at *
            have hm9' : (m : Int) ≤ 2147483648 := by omega
            have hv9' : (v : Int) ≤ 15 := by omega
            go_wp2_with fail
            refine (ch _).mono ?_
            rintro e w1 ⟨rfl, rfl⟩
            go_wp2_with fail
            go_round
            case rel => exact ⟨k + 1, a * 16 + v, min (m * 16 + v) 2147483648, by congr 1 <;> omega, HM.out, by congr 1 <;> omega, by omega, HR.out⟩
            case measure => simp only [intOf]; omega
        · have hlt' : ¬ (2 : Int) + k < r.size := by omega
          have HR := Lib.hid (show runN 16 r.size (r.data.toList.drop 2) 0 = (a, k) by rw [hr, hex_at_end (by omega), Nat.zero_add])
          have HM := Lib.hid hm
          clear hr hm
          go_wp2_with fail
          go_meet
          exact ⟨rfl, a, k, m, rfl, HM.out, rfl, hk, HR.out⟩
    case rest =>
      obtain ⟨rfl, V, C, m, rfl, hm, rfl, hC, hr⟩ := hcut
      have hq := HE.out V C hr
      clear hr HE
      by_cases hC0 : C = 0
      · rw [if_neg (by omega)] at hq
        have HQ := Lib.hid hq
        have t1 : (((2 : Int) + C) == 2) = true := by rw [beq_iff_eq]; omega
        clear hq hm hC0
        go_wp2_with fail
        go_ret3
        exact esc_none HQ.out (Below.refl _ _)
      · have t1 : (((2 : Int) + C) == 2) = false := by rw [beq_eq_false_iff_ne]; omega
        have hsl := run_behind (P := Tryz.prog) 9 r ((2 : Int) + C) (2 + C) Tryz.underlying9 hC (by omega)
        have p2 := has1 (r.extract (2 + C) r.size) 125
        rw [isB_tail, show (125 : UInt8).toNat = 125 from rfl] at p2
        have c2 := fun w => prefix_is (r.extract (2 + C) r.size) ⟨#[125]⟩ _ w p2
        generalize r.extract (2 + C) r.size = z at *
        clear p2
        cases hi : isB r (2 + C) 125
        · rw [if_neg (by rw [hi]; simp)] at hq
          have HQ := Lib.hid hq
          rw [hi] at c2
          clear hq hm hi hC0
          go_wp2_with fail
          refine (c2 _).mono ?_
          rintro e w1 ⟨rfl, rfl⟩
          go_wp2_with fail
          go_ret3
          exact esc_none HQ.out (Below.refl _ _)
        · rw [hi] at c2
          by_cases hV : V < 2147483648
          · rw [if_pos ⟨by omega, hV, hi⟩] at hq
            have HQ := Lib.hid hq
            obtain rfl : m = V := by omega
            have ce := fun w => runes_encode (m : Int) w
            rw [(enc_small hV).1, (enc_small hV).2] at ce
            clear hq hm hi hC0
            generalize bytesOf (encI (m : Int)) = T at *
            go_wp2_with fail
            refine (c2 _).mono ?_
            rintro e w1 ⟨rfl, rfl⟩
            go_wp2_with fail
            refine (ce _).mono ?_
            rintro e w1 ⟨rfl, b1⟩
            have B1 := Lib.hid b1
            clear b1
            go_wp2
            go_ret3
            exact esc_some HQ.out rfl (by omega) B1.out
          · rw [if_neg (fun g => hV g.2.1)] at hq
            have HQ := Lib.hid hq
            obtain rfl : m = 2147483648 := by omega
            have ce := fun w => runes_encode ((2147483648 : Nat) : Int) w
            rw [enc_great.1, enc_great.2] at ce
            clear hq hm hi hC0
            go_wp2_with fail
            refine (c2 _).mono ?_
            rintro e w1 ⟨rfl, rfl⟩
            go_wp2_with fail
            refine (ce _).mono ?_
            rintro e w1 ⟨rfl, b1⟩
            have B1 := Lib.hid b1
            clear b1
            go_wp2
            go_ret3
            exact esc_none HQ.out B1.out

end Go.Proofs.YtajeghkmgcpgiaaGreatDoor

namespace Go.Proofs.YtajeghkmgcpgiaaGreatDoor
open Go.RowKit

theorem esc_empty {r : ByteArray} (h : r.size = 0) : escL r.data.toList = none := by
  have := esc_end (s := r) (p := 0) (by omega)
  rwa [List.drop_zero] at this
theorem esc_z_at {r : ByteArray} (h : 0 < r.size) (hz : byteAt r 0 = 122) : escL r.data.toList = some ([], 1 + blanks (r.extract 1 r.size).data.toList + 1) := by
  have := esc_z (s := r) (p := 0) h hz
  rw [List.drop_zero, Nat.zero_add] at this
  have hl : r.data.toList.length = r.size := rfl
  rw [this, Lib.extract_data, List.take_of_length_le (by rw [List.length_drop, hl]; omega)]
  congr 2; omega
theorem esc_letter_at {r : ByteArray} {v : Nat} (h : 0 < r.size) (hb : ¬ (byteAt r 0 = 10 ∨ byteAt r 0 = 13)) (hv : letterN (byteAt r 0) = some v) : escL r.data.toList = some ([UInt8.ofNat v], 1 + 1) := by
  have := esc_letter (s := r) (p := 0) h hb hv
  rwa [List.drop_zero] at this
theorem esc_other {r : ByteArray} (h : 0 < r.size) (hd : digitB (byteAt r 0) = false) (hb : ¬ (byteAt r 0 = 10 ∨ byteAt r 0 = 13)) (hl : letterN (byteAt r 0) = none) (hx : byteAt r 0 ≠ 120) (hz : byteAt r 0 ≠ 122) (hu : byteAt r 0 ≠ 117) : escL r.data.toList = none := by
  have he := esc_num (s := r) (p := 0) h hb hl hx hz (fun g => hu g.1)
  have hr := run_stop (r := r) (k := 0) (m := 3) (a := 0) (by omega) (.inr hd)
  rw [hr, List.drop_zero] at he
  rw [he]; rfl
theorem index_letter (b : Nat) (x : Int) (w : World) (h : Lib.indexByte ownLetters.data.toList (UInt8.ofNat b) = x) :
    Calls Tryz.prog 70 #[.string ⟨#[97, 98, 102, 110, 114, 116, 118, 92, 34, 39]⟩, .int .u8 b] w fun e w' => e = .returned (.int .i64 x) ∧ w = w' := by
  subst h
  refine (Tryz.strings_IndexByte ownLetters b w).mono ?_
  rintro e w' ⟨h, h'⟩
  rw [Int.toNat_natCast] at h
  exact ⟨h, h'.symm⟩

set_option maxHeartbeats 4000000 in
theorem own_escape (r : ByteArray) (w : World) (hs : r.size ≤ 1000000000) :
    Calls Tryz.prog 95 #[.string r] w (EscIs r w) := by
  by_cases h0 : 0 < r.size
  · have he : r.toList.isEmpty = false := by
      have := Num.part_empty (s := r) (i := 0) (Nat.le_refl _)
      rw [Num.whole_text, decide_eq_false (by omega)] at this
      exact this
    have hx := run_index_at (P := Tryz.prog) 9 r 0 0 Tryz.underlying9 h0 rfl
    have cd := fun w => own_digit (byteAt r 0) w (byteAt_lt r 0)
    cases hd : digitB (byteAt r 0)
    · rw [hd] at cd
      by_cases hb : byteAt r 0 = 10 ∨ byteAt r 0 = 13
      · have HE := Lib.hid (esc_line_at h0 hb)
        have cl := fun w => own_line r w h0 hb
        clear hd
        generalize byteAt r 0 = b at *
        rcases hb with hb | hb
        · have t1 : ((b : Int) == 10) = true := by rw [hb]; rfl
          clear hb
          go_enter Tryz.func95, Tryz.ntmps95
          go_wp2_with fail
          refine (cd _).mono ?_
          rintro e w1 ⟨rfl, rfl⟩
          go_wp2_with fail
          refine (cl _).mono ?_
          rintro e w1 ⟨rfl, rfl⟩
          go_wp2
          go_ret3
          exact esc_some HE.out rfl rfl (Below.refl _ _)
        · have t1 : ((b : Int) == 10) = false := by rw [hb]; rfl
          have t2 : ((b : Int) == 13) = true := by rw [hb]; rfl
          clear hb
          go_enter Tryz.func95, Tryz.ntmps95
          go_wp2_with fail
          refine (cd _).mono ?_
          rintro e w1 ⟨rfl, rfl⟩
          go_wp2_with fail
          refine (cl _).mono ?_
          rintro e w1 ⟨rfl, rfl⟩
          go_wp2
          go_ret3
          exact esc_some HE.out rfl rfl (Below.refl _ _)
      · have t1 : (((byteAt r 0 : Nat) : Int) == 10) = false := by rw [beq_eq_false_iff_ne]; omega
        have t2 : (((byteAt r 0 : Nat) : Int) == 13) = false := by rw [beq_eq_false_iff_ne]; omega
        by_cases h120 : byteAt r 0 = 120
        · have t3 : (((byteAt r 0 : Nat) : Int) == 120) = true := by rw [beq_iff_eq]; omega
          have c := fun w => own_hexadecimal r w hs h0 h120
          unfold EscIs at c
          clear hd hb h120
          generalize byteAt r 0 = b at *
          go_enter Tryz.func95, Tryz.ntmps95
          go_wp2_with fail
          refine (cd _).mono ?_
          rintro e w1 ⟨rfl, rfl⟩
          go_wp2_with fail
          refine (c _).mono ?_
          rintro e w1 ⟨rfl, b1⟩
          have B1 := Lib.hid b1
          clear b1
          go_wp2
          go_ret3
          exact ⟨rfl, B1.out⟩
        · have t3 : (((byteAt r 0 : Nat) : Int) == 120) = false := by rw [beq_eq_false_iff_ne]; omega
          by_cases h117 : byteAt r 0 = 117
          · have t4 : (((byteAt r 0 : Nat) : Int) == 117) = true := by rw [beq_iff_eq]; omega
            have c := fun w => own_character r w hs h0 h117
            unfold EscIs at c
            clear hd hb h120 h117
            generalize byteAt r 0 = b at *
            go_enter Tryz.func95, Tryz.ntmps95
            go_wp2_with fail
            refine (cd _).mono ?_
            rintro e w1 ⟨rfl, rfl⟩
            go_wp2_with fail
            refine (c _).mono ?_
            rintro e w1 ⟨rfl, b1⟩
            have B1 := Lib.hid b1
            clear b1
            go_wp2
            go_ret3
            exact ⟨rfl, B1.out⟩
          · have t4 : (((byteAt r 0 : Nat) : Int) == 117) = false := by rw [beq_eq_false_iff_ne]; omega
            by_cases h122 : byteAt r 0 = 122
            · have t5 : (((byteAt r 0 : Nat) : Int) == 122) = true := by rw [beq_iff_eq]; omega
              have HE := Lib.hid (esc_z_at h0 h122)
              have hsl := run_behind (P := Tryz.prog) 9 r 1 1 Tryz.underlying9 (by omega) rfl
              have hzs : (r.extract 1 r.size).size ≤ 1000000000 := by rw [Num.part_size (Nat.le_refl _)]; omega
              have c := fun w => own_blanks (r.extract 1 r.size) w hzs
              have hbl := blanks_le (r.extract 1 r.size).data.toList
              have hbz : (blanks (r.extract 1 r.size).data.toList : Int) ≤ 1000000000 := by
                have : (r.extract 1 r.size).data.toList.length = (r.extract 1 r.size).size := rfl
                omega
              clear hd hb h120 h117 h122 hbl hzs
              generalize byteAt r 0 = b at *
              generalize r.extract 1 r.size = z at *
              generalize blanks z.data.toList = k at *
              go_enter Tryz.func95, Tryz.ntmps95
              go_wp2_with fail
              refine (cd _).mono ?_
              rintro e w1 ⟨rfl, rfl⟩
              go_wp2_with fail
              refine (c _).mono ?_
              rintro e w1 ⟨rfl, rfl⟩
              go_wp2
              go_ret3
              exact esc_some HE.out rfl (by omega) (Below.refl _ _)
            · have t5 : (((byteAt r 0 : Nat) : Int) == 122) = false := by rw [beq_eq_false_iff_ne]; omega
              cases hl : letterN (byteAt r 0) with
              | none =>
                have HE := Lib.hid (esc_other h0 hd hb hl h120 h122 h117)
                have ci := fun w => index_letter (byteAt r 0) (-1) w (own_miss _ (byteAt_lt r 0) hl)
                clear hd hb h120 h117 h122 hl
                generalize byteAt r 0 = b at *
                go_enter Tryz.func95, Tryz.ntmps95
                go_wp2_with fail
                refine (cd _).mono ?_
                rintro e w1 ⟨rfl, rfl⟩
                go_wp2_with fail
                refine (ci _).mono ?_
                rintro e w1 ⟨rfl, rfl⟩
                go_wp2
                go_ret3
                exact esc_none HE.out (Below.refl _ _)
              | some v =>
                have HE := Lib.hid (esc_letter_at h0 hb hl)
                obtain ⟨k, hk, hi, hT⟩ := own_hit _ (byteAt_lt r 0) v hl
                have ci := fun w => index_letter (byteAt r 0) k w hi
                have hsl := run_slice_at (P := Tryz.prog) 9 ownWorths (k : Int) ((k : Int) + 1) k (k + 1) Tryz.underlying9 (by omega) (by show k + 1 ≤ 10; omega) rfl (by omega)
                unfold ownWorths at hsl hT
                have HT := Lib.hid hT
                have hk' : (k : Int) < 10 := by omega
                clear hd hb h120 h117 h122 hl hi hT
                generalize byteAt r 0 = b at *
                generalize (ByteArray.mk #[7, 8, 12, 10, 13, 9, 11, 92, 34, 39]).extract k (k + 1) = T at *
                go_enter Tryz.func95, Tryz.ntmps95
                go_wp2_with fail
                refine (cd _).mono ?_
                rintro e w1 ⟨rfl, rfl⟩
                go_wp2_with fail
                refine (ci _).mono ?_
                rintro e w1 ⟨rfl, rfl⟩
                go_wp2
                go_ret3
                exact esc_some HE.out HT.out rfl (Below.refl _ _)
    · rw [hd] at cd
      have c := fun w => own_decimal r w hs h0 hd
      unfold EscIs at c
      clear hd
      generalize byteAt r 0 = b at *
      go_enter Tryz.func95, Tryz.ntmps95
      go_wp2_with fail
      refine (cd _).mono ?_
      rintro e w1 ⟨rfl, rfl⟩
      go_wp2_with fail
      refine (c _).mono ?_
      rintro e w1 ⟨rfl, b1⟩
      have B1 := Lib.hid b1
      clear b1
      go_wp2
      go_ret3
      exact ⟨rfl, B1.out⟩
  · have HN := Lib.hid (esc_empty (r := r) (by omega))
    have he : r.toList.isEmpty = true := by
      have := Num.part_empty (s := r) (i := 0) (Nat.le_refl _)
      rw [Num.whole_text, decide_eq_true (by omega)] at this
      exact this
    go_enter Tryz.func95, Tryz.ntmps95
    go_wp2
    go_ret3
    exact esc_none HN.out (Below.refl _ _)

end Go.Proofs.YtajeghkmgcpgiaaGreatDoor
