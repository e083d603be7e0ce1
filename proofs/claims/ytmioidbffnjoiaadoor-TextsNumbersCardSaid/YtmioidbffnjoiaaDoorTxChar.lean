/-
  Package texts: character, by contract.
-/
import Derived.Test.YtmioidbffnjoiaaDoorTxDec
namespace Go.Proofs.YtmioidbffnjoiaaDoor
open Go.RowKit

theorem esc_u_no {r : ByteArray} (h0 : 0 < r.size) (hU : byteAt r 0 = 117) (hi : isB r 1 123 = false) : escL r.data.toList = none := by
  have he := esc_num (s := r) (p := 0) h0 (by omega) (by rw [hU]; rfl) (by omega) (by omega) (by rw [Nat.zero_add, hi]; simp)
  obtain ⟨c, e, hl⟩ := drop_at r 0 h0
  have hr : runN 10 3 (r.data.toList.drop 0) 0 = (0, 0) := by
    rw [hl]
    exact run_no (.inl (by rw [e, hU]; rfl))
  rw [hr, List.drop_zero] at he
  rw [he]; rfl
theorem esc_u_at {r : ByteArray} {V C : Nat} (h0 : 0 < r.size) (hU : byteAt r 0 = 117) (hi : isB r 1 123 = true) (h : runN 16 r.size (r.data.toList.drop 2) 0 = (V, C)) :
    escL r.data.toList = if 0 < C ∧ V < 2147483648 ∧ isB r (2 + C) 125 = true then some ((bytesOf (encI (V : Int))).data.toList, C + 3 + 1) else none := by
  have he := esc_u (s := r) (p := 0) h0 hU hi
  rw [List.drop_zero] at he
  rw [he, show (0 : Nat) + 2 = 2 from rfl, h]
theorem isB_tail {r : ByteArray} {p b : Nat} : isB (r.extract p r.size) 0 b = isB r p b := by
  have hl : r.data.toList.length = r.size := rfl
  rw [isB_starts, isB_starts, Lib.extract_data, List.drop_zero, List.take_of_length_le (by rw [List.length_drop, hl]; omega)]

/-- 's[x:]'. -/
theorem run_behind {P : Program} (t : TypeId) (s : ByteArray) (x : Int) (i : Nat) (h : P.underlying t = some .string) (hi : i ≤ s.size) (hx : x = i) (w : World) :
    (Instr.slice t (.string s) (some (.int .i64 x)) none none).run P w = .ok (.string (s.extract i s.size)) w := by
  subst hx
  rw [run_slice_string_from_if w t _ .i64 _ h, if_pos ⟨by omega, by omega⟩]
  rfl

theorem enc_small {V : Nat} (h : V < 2147483648) : encS (V : Int) = bytesOf (encI V) ∧ encE (V : Int) = 0 := by
  unfold encS encE
  rw [if_neg (by omega), if_neg (by omega)]
  exact ⟨rfl, rfl⟩
theorem enc_great : encS ((2147483648 : Nat) : Int) = ⟨#[]⟩ ∧ encE ((2147483648 : Nat) : Int) = 10 := by
  unfold encS encE
  rw [if_pos (by omega), if_pos (by omega)]
  exact ⟨rfl, rfl⟩

set_option maxHeartbeats 4000000 in
theorem own_character (r : ByteArray) (w : World) (hs : r.size ≤ 1000000000) (h0 : 0 < r.size) (hU : byteAt r 0 = 117) :
    Calls Tryd.prog 32 #[.string r] w (EscIs r w) := by
  have p1 := has2 r 117 123
  rw [show (117 : UInt8).toNat = 117 from rfl, show (123 : UInt8).toNat = 123 from rfl, show isB r 0 117 = true by unfold isB; rw [decide_eq_true h0, decide_eq_true hU]; rfl, Bool.true_and] at p1
  have c1 := fun w => prefix_is r ⟨#[117, 123]⟩ _ w p1
  cases hi : isB r 1 123
  · have HN := Lib.hid (esc_u_no h0 hU hi)
    rw [hi] at c1
    clear p1 hi hU
    go_enter Tryd.func32, Tryd.ntmps32
    go_wp2_with fail
    refine (c1 _).mono ?_
    rintro e w1 ⟨rfl, rfl⟩
    go_wp2
    go_ret3
    exact esc_none HN.out (Below.refl _ _)
  · have HE := fun V C => esc_u_at (V := V) (C := C) h0 hU hi
    have h2 : 2 ≤ r.size := by
      unfold isB at hi
      simp at hi; omega
    have HE := Lib.hid HE
    rw [hi] at c1
    clear p1 hi hU
    go_enter Tryd.func32, Tryd.ntmps32
    go_wp2_with fail
    refine (c1 _).mono ?_
    rintro e w1 ⟨rfl, rfl⟩
    clear c1
    go_upto_block 0 with fail
    go_cut [5, 6] (fun n i wx => wx = w ∧ ∃ V C m : Nat, n = .int .i64 m ∧ m = min V 2147483648 ∧ i = .int .i64 ((2 : Int) + C) ∧ 2 + C ≤ r.size ∧ runN 16 r.size (r.data.toList.drop 2) 0 = (V, C))
    case first =>
      go_wp2_with fail
      go_loop [5, 6] (fun n i => ∃ k a m : Nat, n = .int .i64 m ∧ m = min a 2147483648 ∧ i = .int .i64 ((2 : Int) + k) ∧ 2 + k ≤ r.size ∧
        runN 16 r.size (r.data.toList.drop 2) 0 = ((runN 16 (r.size - k) (r.data.toList.drop (2 + k)) a).1, (runN 16 (r.size - k) (r.data.toList.drop (2 + k)) a).2 + k)) (fun _ i => r.size - (intOf i).toNat)
      case atStart => exact ⟨0, 0, 0, rfl, by omega, rfl, by omega, by rw [Nat.sub_zero, Nat.add_zero]; rfl⟩
      case round =>
        obtain ⟨k, a, m, rfl, hm, rfl, hk, hr⟩ := hrel
        by_cases hlt : 2 + k < r.size
        · have hlt' : (2 : Int) + k < r.size := by omega
          have hx := run_index_at (P := Tryd.prog) 9 r ((2 : Int) + k) (2 + k) Tryd.underlying9 hlt (by omega)
          have ch := fun w => own_hex (byteAt r (2 + k)) w (byteAt_lt r _)
          have hv15 := hexV_range (byteAt r (2 + k))
          obtain ⟨v, hv⟩ : ∃ v : Nat, hexV (byteAt r (2 + k)) = v := ⟨(hexV (byteAt r (2 + k))).toNat, by omega⟩
          cases hh : hexB (byteAt r (2 + k))
          · have HR := Lib.hid (show runN 16 r.size (r.data.toList.drop 2) 0 = (a, k) by rw [hr, hex_at_no hlt hh, Nat.zero_add])
            have HM := Lib.hid hm
            rw [hh] at ch
            clear hr hh hm hv
            generalize byteAt r (2 + k) = b at *
            go_wp2_with fail
            refine (ch _).mono ?_
            rintro e w1 ⟨rfl, rfl⟩
            go_wp2_with fail
            go_meet
            exact ⟨rfl, a, k, m, rfl, HM.out, rfl, hk, HR.out⟩
          · have HR := Lib.hid (show runN 16 r.size (r.data.toList.drop 2) 0 = ((runN 16 (r.size - (k + 1)) (r.data.toList.drop (2 + (k + 1))) (a * 16 + v)).1, (runN 16 (r.size - (k + 1)) (r.data.toList.drop (2 + (k + 1))) (a * 16 + v)).2 + (k + 1)) by
              rw [hr, show r.size - k = (r.size - (k + 1)) + 1 from by omega, hex_at_yes hlt hh hv (by omega)]
              rw [show 2 + k + 1 = 2 + (k + 1) from by omega]
              simp only [Prod.mk.injEq, true_and]
              omega)
            rw [hh, hv] at ch
            rw [hv] at hv15
            have hm9 : m ≤ 2147483648 := by omega
            have HM := Lib.hid (show min (m * 16 + v) 2147483648 = min (a * 16 + v) 2147483648 by rw [hm]; exact cap16 a v)
            have o := or16 m v hm9 (by omega)
            clear hr hh hm hv
            generalize byteAt r (2 + k) = b at *
            have hm9' : (m : Int) ≤ 2147483648 := by omega
            have hv9' : (v : Int) ≤ 15 := by omega
            go_wp2_with fail
            refine (ch _).mono ?_
            rintro e w1 ⟨rfl, rfl⟩
            go_wp2_with fail
            go_round
            case rel => exact ⟨k + 1, a * 16 + v, min (m * 16 + v) 2147483648, by congr 1 <;> omega, HM.out, by congr 1 <;> omega, by omega, HR.out⟩
            case measure => simp only [intOf]; omega
        · have hlt' : ¬ (2 : Int) + k < r.size := by omega
          have HR := Lib.hid (show runN 16 r.size (r.data.toList.drop 2) 0 = (a, k) by rw [hr, hex_at_end (by omega), Nat.zero_add])
          have HM := Lib.hid hm
          clear hr hm
          go_wp2_with fail
          go_meet
          exact ⟨rfl, a, k, m, rfl, HM.out, rfl, hk, HR.out⟩
    case rest =>
      obtain ⟨rfl, V, C, m, rfl, hm, rfl, hC, hr⟩ := hcut
      have hq := HE.out V C hr
      clear hr HE
      by_cases hC0 : C = 0
      · rw [if_neg (by omega)] at hq
        have HQ := Lib.hid hq
        have t1 : (((2 : Int) + C) == 2) = true := by rw [beq_iff_eq]; omega
        clear hq hm hC0
        go_wp2_with fail
        go_ret3
        exact esc_none HQ.out (Below.refl _ _)
      · have t1 : (((2 : Int) + C) == 2) = false := by rw [beq_eq_false_iff_ne]; omega
        have hsl := run_behind (P := Tryd.prog) 9 r ((2 : Int) + C) (2 + C) Tryd.underlying9 hC (by omega)
        have p2 := has1 (r.extract (2 + C) r.size) 125
        rw [isB_tail, show (125 : UInt8).toNat = 125 from rfl] at p2
        have c2 := fun w => prefix_is (r.extract (2 + C) r.size) ⟨#[125]⟩ _ w p2
        generalize r.extract (2 + C) r.size = z at *
        clear p2
        cases hi : isB r (2 + C) 125
        · rw [if_neg (by rw [hi]; simp)] at hq
          have HQ := Lib.hid hq
          rw [hi] at c2
          clear hq hm hi hC0
          go_wp2_with fail
          refine (c2 _).mono ?_
          rintro e w1 ⟨rfl, rfl⟩
          go_wp2_with fail
          go_ret3
          exact esc_none HQ.out (Below.refl _ _)
        · rw [hi] at c2
          by_cases hV : V < 2147483648
          · rw [if_pos ⟨by omega, hV, hi⟩] at hq
            have HQ := Lib.hid hq
            obtain rfl : m = V := by omega
            have ce := fun w => runes_encode (m : Int) w
            rw [(enc_small hV).1, (enc_small hV).2] at ce
            clear hq hm hi hC0
            generalize bytesOf (encI (m : Int)) = T at *
            go_wp2_with fail
            refine (c2 _).mono ?_
            rintro e w1 ⟨rfl, rfl⟩
            go_wp2_with fail
            refine (ce _).mono ?_
            rintro e w1 ⟨rfl, b1⟩
            have B1 := Lib.hid b1
            clear b1
            go_wp2
            go_ret3
            exact esc_some HQ.out rfl (by omega) B1.out
          · rw [if_neg (fun g => hV g.2.1)] at hq
            have HQ := Lib.hid hq
            obtain rfl : m = 2147483648 := by omega
            have ce := fun w => runes_encode ((2147483648 : Nat) : Int) w
            rw [enc_great.1, enc_great.2] at ce
            clear hq hm hi hC0
            go_wp2_with fail
            refine (c2 _).mono ?_
            rintro e w1 ⟨rfl, rfl⟩
            go_wp2_with fail
            refine (ce _).mono ?_
            rintro e w1 ⟨rfl, b1⟩
            have B1 := Lib.hid b1
            clear b1
            go_wp2
            go_ret3
            exact esc_none HQ.out B1.out

end Go.Proofs.YtmioidbffnjoiaaDoor
