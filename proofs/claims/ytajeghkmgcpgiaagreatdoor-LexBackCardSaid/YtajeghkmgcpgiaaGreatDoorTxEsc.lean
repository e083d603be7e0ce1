/-
  Package texts: what stands behind a backslash: lineEnd, blanks, hexadecimal, decimal, by contracts.
-/
import Derived.Test.YtajeghkmgcpgiaaGreatDoorTxMath
import Derived.Test.YtajeghkmgcpgiaaGreatDoorOwnDigits
import Derived.Test.YtajeghkmgcpgiaaGreatDoorRunesB
namespace Go.Proofs.YtajeghkmgcpgiaaGreatDoor
open Go.RowKit

theorem own_hex (b : Nat) (w : World) (hb : b < 256) :
    Calls Tryz.prog 108 #[.int .u8 b] w fun e w' => e = .returned (.tuple #[.int .i64 (hexV b), .bool (hexB b)]) ∧ w = w' := Num.runes_hex b w hb
theorem own_space (b : Nat) (w : World) (hb : b < 256) :
    Calls Tryz.prog 33 #[.int .u8 b] w fun e w' => e = .returned (.bool (spaceB b)) ∧ w = w' := Num.runes_space b w hb
theorem own_digit (b : Nat) (w : World) (hb : b < 256) :
    Calls Tryz.prog 39 #[.int .u8 b] w fun e w' => e = .returned (.bool (digitB b)) ∧ w = w' := Num.runes_digit b w hb

/-! ### lineEnd -/
theorem has1 (r : ByteArray) (a : UInt8) : Lib.hasPrefix r.data.toList [a] = isB r 0 a.toNat := by
  rw [isB_starts, List.drop_zero]
  unfold Lib.hasPrefix
  cases r.data.toList with
  | nil => rfl
  | cons c t =>
    rw [startsWith, Bool.eq_iff_iff]
    simp only [List.isPrefixOf, Bool.and_true, beq_iff_eq, decide_eq_true_eq]
    exact ⟨fun h => by rw [h], fun h => UInt8.toNat_inj.1 h.symm⟩
theorem has2 (r : ByteArray) (a b : UInt8) : Lib.hasPrefix r.data.toList [a, b] = (isB r 0 a.toNat && isB r 1 b.toNat) := by
  rw [isB_starts, isB_starts, List.drop_zero]
  unfold Lib.hasPrefix
  cases r.data.toList with
  | nil => rfl
  | cons c t =>
    rw [List.drop_one, List.tail_cons, startsWith]
    cases t with
    | nil => simp [List.isPrefixOf, startsWith]
    | cons d u =>
      rw [startsWith, Bool.eq_iff_iff]
      simp only [List.isPrefixOf, Bool.and_true, beq_iff_eq, decide_eq_true_eq, Bool.and_eq_true]
      exact ⟨fun ⟨h, h'⟩ => ⟨by rw [h], by rw [h']⟩, fun ⟨h, h'⟩ => ⟨UInt8.toNat_inj.1 h.symm, UInt8.toNat_inj.1 h'.symm⟩⟩
theorem prefix_is (s p : ByteArray) (x : Bool) (w : World) (h : Lib.hasPrefix s.data.toList p.data.toList = x) :
    Calls Tryz.prog 35 #[.string s, .string p] w fun e w' => e = .returned (.bool x) ∧ w = w' := by
  subst h
  exact (Tryz.strings_HasPrefix s p w).mono fun _ _ ⟨h, h'⟩ => ⟨h, h'.symm⟩

set_option maxHeartbeats 400000 in
theorem own_line (r : ByteArray) (w : World) (h : 0 < r.size) (hb : byteAt r 0 = 10 ∨ byteAt r 0 = 13) :
    Calls Tryz.prog 122 #[.string r] w fun e w' => e = .returned (.int .i64 (lineK r)) ∧ w = w' := by
  have p1 := has2 r 10 13
  have p2 := has2 r 13 10
  have i1 : ∀ b, isB r 0 b = decide (byteAt r 0 = b) := fun b => by unfold isB; rw [decide_eq_true h, Bool.true_and]
  have n1 : (10 : UInt8).toNat = 10 := rfl
  have n2 : (13 : UInt8).toNat = 13 := rfl
  rw [i1, n1, n2] at p1 p2
  have hl : lineK r = if isB r 1 (23 - byteAt r 0) = true then 2 else 1 := rfl
  generalize byteAt r 0 = b at *
  rcases hb with rfl | rfl
  · rw [decide_eq_true rfl, Bool.true_and] at p1
    rw [decide_eq_false (by decide), Bool.false_and] at p2
    have c1 := fun w => prefix_is r ⟨#[10, 13]⟩ _ w p1
    have c2 := fun w => prefix_is r ⟨#[13, 10]⟩ _ w p2
    rw [show 23 - 10 = 13 from rfl] at hl
    cases hi : isB r 1 13
    · rw [hi] at hl c1
      have HL := Lib.hid hl
      clear hl p1 p2 i1 hi n1 n2
      go_enter Tryz.func122, Tryz.ntmps122
      go_wp2_with fail
      refine (c1 _).mono ?_
      rintro e w1 ⟨rfl, rfl⟩
      go_wp2_with fail
      refine (c2 _).mono ?_
      rintro e w1 ⟨rfl, rfl⟩
      go_wp2
      go_ret
      exact ⟨ret_i64 (by rw [HL.out]; rfl), rfl⟩
    · rw [hi] at hl c1
      have HL := Lib.hid hl
      clear hl p1 p2 i1 hi n1 n2
      go_enter Tryz.func122, Tryz.ntmps122
      go_wp2_with fail
      refine (c1 _).mono ?_
      rintro e w1 ⟨rfl, rfl⟩
      go_wp2
      go_ret
      exact ⟨ret_i64 (by rw [HL.out]; rfl), rfl⟩
  · rw [decide_eq_true rfl, Bool.true_and] at p2
    rw [decide_eq_false (by decide), Bool.false_and] at p1
    have c1 := fun w => prefix_is r ⟨#[10, 13]⟩ _ w p1
    have c2 := fun w => prefix_is r ⟨#[13, 10]⟩ _ w p2
    rw [show 23 - 13 = 10 from rfl] at hl
    cases hi : isB r 1 10
    all_goals
      rw [hi] at hl c2
      have HL := Lib.hid hl
      clear hl p1 p2 i1 hi n1 n2
      go_enter Tryz.func122, Tryz.ntmps122
      go_wp2_with fail
      refine (c1 _).mono ?_
      rintro e w1 ⟨rfl, rfl⟩
      go_wp2_with fail
      refine (c2 _).mono ?_
      rintro e w1 ⟨rfl, rfl⟩
      go_wp2
      go_ret
      exact ⟨ret_i64 (by rw [HL.out]; rfl), rfl⟩

/-! ### blanks -/
set_option maxHeartbeats 400000 in
theorem own_blanks (r : ByteArray) (w : World) (hs : r.size ≤ 1000000000) :
    Calls Tryz.prog 125 #[.string r] w fun e w' => e = .returned (.int .i64 (blanks r.data.toList : Nat)) ∧ w = w' := by
  go_enter Tryz.func125, Tryz.ntmps125
  go_wp2
  go_loop [3] (fun i => ∃ k : Nat, k ≤ r.size ∧ i = .int .i64 k ∧ k + blanks (r.data.toList.drop k) = blanks r.data.toList) (fun i => r.size - (intOf i).toNat)
  case atStart => exact ⟨0, by omega, rfl, by rw [List.drop_zero, Nat.zero_add]⟩
  case round =>
    obtain ⟨k, hk, rfl, ha⟩ := hrel
    by_cases hlt : k < r.size
    · have hlt' : (k : Int) < r.size := by omega
      have hx := run_index_at (P := Tryz.prog) 9 r (k : Int) k Tryz.underlying9 hlt rfl
      have cs := fun w => own_space (byteAt r k) w (byteAt_lt r k)
      have hyes := blanks_yes hlt
      have hno := blanks_no hlt
      generalize byteAt r k = b at *
      cases hb : spaceB b
      · have HA := Lib.hid (show k = blanks r.data.toList by rw [← ha, hno hb, Nat.add_zero])
        rw [hb] at cs
        clear ha hyes hno hb
        go_wp2_with fail
        refine (cs _).mono ?_
        rintro e w1 ⟨rfl, rfl⟩
        go_wp2
        go_ret
        exact ⟨ret_i64 (by rw [← HA.out]), rfl⟩
      · have HA := Lib.hid (show (k + 1) + blanks (r.data.toList.drop (k + 1)) = blanks r.data.toList by rw [← ha, hyes hb]; omega)
        rw [hb] at cs
        clear ha hyes hno hb
        go_wp2_with fail
        refine (cs _).mono ?_
        rintro e w1 ⟨rfl, rfl⟩
        go_wp2
        go_round
        case rel => exact ⟨k + 1, by omega, by go_num, HA.out⟩
        case measure => simp only [intOf]; omega
    · have HA := Lib.hid (show k = blanks r.data.toList by rw [← ha, blanks_end (by omega), Nat.add_zero])
      clear ha
      go_wp2
      go_ret
      exact ⟨ret_i64 (by rw [← HA.out]), rfl⟩

/-! ### hexadecimal -/
set_option maxHeartbeats 1000000 in
theorem own_hexadecimal (r : ByteArray) (w : World) (hs : r.size ≤ 1000000000) (h0 : 0 < r.size) (hX : byteAt r 0 = 120) :
    Calls Tryz.prog 123 #[.string r] w (EscIs r w) := by
  by_cases h3 : 3 ≤ r.size
  · have hx := run_index_at (P := Tryz.prog) 9 r 1 1 Tryz.underlying9 (by omega) rfl
    have hy := run_index_at (P := Tryz.prog) 9 r 2 2 Tryz.underlying9 (by omega) rfl
    have c1 := fun w => own_hex (byteAt r 1) w (byteAt_lt r 1)
    have c2 := fun w => own_hex (byteAt r 2) w (byteAt_lt r 2)
    have b1 := hexV_range (byteAt r 1)
    have b2 := hexV_range (byteAt r 2)
    have hno := fun h => esc_x_no (r := r) h0 hX (.inr h)
    obtain ⟨v, hv⟩ : ∃ v : Nat, hexV (byteAt r 1) = v := ⟨(hexV (byteAt r 1)).toNat, by omega⟩
    obtain ⟨u, hu⟩ : ∃ u : Nat, hexV (byteAt r 2) = u := ⟨(hexV (byteAt r 2)).toNat, by omega⟩
    have hyes := fun h h' => esc_x_yes (r := r) h3 hX h h' hv hu
    have hcv := fun (w : World) (x : Int) => run_convert_block (P := Tryz.prog) w 30 9 5 [x] (0, 0) Tryz.underlying30 Tryz.underlying5 Tryz.underlying9
    simp only [List.map_cons, List.map_nil, List.length_cons, List.length_nil, Nat.zero_add] at hcv
    rw [hv] at c1 b1
    rw [hu] at c2 b2
    have h3' : ¬ (r.size : Int) < 3 := by omega
    clear hv hu hX
    generalize byteAt r 1 = x at *
    generalize byteAt r 2 = y at *
    have o := or16 v u (by omega) (by omega)
    have hv9 : (v : Int) ≤ 15 := by omega
    have hu9 : (u : Int) ≤ 15 := by omega
    cases hh : hexB x
    · have HN := Lib.hid (hno (.inl hh))
      rw [hh] at c1
      clear hno hyes hh
      go_enter Tryz.func123, Tryz.ntmps123
      go_wp2_with fail
      refine (c1 _).mono ?_
      rintro e w1 ⟨rfl, rfl⟩
      go_wp2_with fail
      refine (c2 _).mono ?_
      rintro e w1 ⟨rfl, rfl⟩
      go_wp2
      go_ret3
      exact esc_none HN.out (Below.refl _ _)
    · cases hl : hexB y
      · have HN := Lib.hid (hno (.inr hl))
        rw [hh] at c1
        rw [hl] at c2
        clear hno hyes hh hl
        go_enter Tryz.func123, Tryz.ntmps123
        go_wp2_with fail
        refine (c1 _).mono ?_
        rintro e w1 ⟨rfl, rfl⟩
        go_wp2_with fail
        refine (c2 _).mono ?_
        rintro e w1 ⟨rfl, rfl⟩
        go_wp2
        go_ret3
        exact esc_none HN.out (Below.refl _ _)
      · have HN := Lib.hid (hyes hh hl)
        rw [hh] at c1
        rw [hl] at c2
        clear hno hyes hh hl
        go_enter Tryz.func123, Tryz.ntmps123
        go_wp2_with fail
        refine (c1 _).mono ?_
        rintro e w1 ⟨rfl, rfl⟩
        go_wp2_with fail
        refine (c2 _).mono ?_
        rintro e w1 ⟨rfl, rfl⟩
        go_wp2
        go_ret3
        exact esc_some HN.out rfl rfl (grew_alloc (Below.refl _ _) _)
  · have HN := Lib.hid (esc_x_no h0 hX (.inl (by omega)))
    have h3' : (r.size : Int) < 3 := by omega
    go_enter Tryz.func123, Tryz.ntmps123
    go_wp2
    go_ret3
    exact esc_none HN.out (Below.refl _ _)

end Go.Proofs.YtajeghkmgcpgiaaGreatDoor
