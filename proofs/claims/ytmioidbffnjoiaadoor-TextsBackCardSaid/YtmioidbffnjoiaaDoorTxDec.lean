/-
  Package texts: decimal, by contract.
-/
import Derived.Test.YtmioidbffnjoiaaDoorTxEsc
namespace Go.Proofs.YtmioidbffnjoiaaDoor
open Go.RowKit

theorem cut_head (r : ByteArray) {k : Nat} (hk : k ≤ r.size) : (r.extract 0 k).size = k := by rw [Num.part_size hk]; omega

set_option maxHeartbeats 2000000 in
theorem own_decimal (r : ByteArray) (w : World) (hs : r.size ≤ 1000000000) (h0 : 0 < r.size) (hd0 : digitB (byteAt r 0) = true) :
    Calls Tryd.prog 29 #[.string r] w (EscIs r w) := by
  have hcv := fun (w : World) (x : Int) => run_convert_block (P := Tryd.prog) w 34 9 5 [x] (0, 0) Tryd.underlying34 Tryd.underlying5 Tryd.underlying9
  simp only [List.map_cons, List.map_nil, List.length_cons, List.length_nil, Nat.zero_add] at hcv
  go_enter Tryd.func29, Tryd.ntmps29
  go_upto_block 0 with fail
  go_cut [5] (fun i wx => wx = w ∧ ∃ k v : Nat, i = .int .i64 k ∧ 1 ≤ k ∧ k ≤ 3 ∧ k ≤ r.size ∧ (∀ j, j < k → digitB (byteAt r j) = true) ∧ runN 10 3 r.data.toList 0 = (v, k) ∧ Lib.parseMag (r.extract 0 k).data.toList = .ok v ∧ v ≤ 999)
  case first =>
    go_wp2_with fail
    go_loop [5] (fun i => ∃ k : Nat, 1 ≤ k ∧ k ≤ 3 ∧ k ≤ r.size ∧ i = .int .i64 k ∧ ∀ j, j < k → digitB (byteAt r j) = true) (fun i => 3 - (intOf i).toNat)
    case atStart => exact ⟨1, by omega, by omega, by omega, rfl, fun j hj => by rw [show j = 0 from by omega]; exact hd0⟩
    case round =>
      obtain ⟨k, hk1, hk3, hks, rfl, ha⟩ := hrel
      have HA := Lib.hid ha
      clear ha
      by_cases hlt : k < 3 ∧ k < r.size
      · obtain ⟨hlt, hlz⟩ := hlt
        have hlz' : (k : Int) < r.size := by omega
        have hx := run_index_at (P := Tryd.prog) 9 r (k : Int) k Tryd.underlying9 hlz rfl
        have cs := fun w => own_digit (byteAt r k) w (byteAt_lt r k)
        cases hdg : digitB (byteAt r k)
        · have HQ := Lib.hid (dec_run r k hk1 hk3 hks HA.out (.inr (.inr hdg)))
          rw [hdg] at cs
          clear hdg
          generalize byteAt r k = b at *
          go_wp2_with fail
          refine (cs _).mono ?_
          rintro e w1 ⟨rfl, rfl⟩
          go_wp2_with fail
          go_meet
          obtain ⟨v, hq1, hq2, hq3⟩ := HQ.out
          exact ⟨rfl, k, v, rfl, hk1, hk3, hks, HA.out, hq1, hq2, hq3⟩
        · have HQ := Lib.hid (fun j (hj : j < k + 1) => show digitB (byteAt r j) = true by
            by_cases e : j = k
            · rw [e]; exact hdg
            · exact HA.out j (by omega))
          rw [hdg] at cs
          clear hdg
          generalize byteAt r k = b at *
          go_wp2_with fail
          refine (cs _).mono ?_
          rintro e w1 ⟨rfl, rfl⟩
          go_wp2_with fail
          go_round
          case rel => exact ⟨k + 1, by omega, by omega, by omega, by go_num, HQ.out⟩
          case measure => simp only [intOf]; omega
      · have HQ := Lib.hid (dec_run r k hk1 hk3 hks HA.out (by omega))
        by_cases h3 : k < 3
        · have hlz' : ¬ (k : Int) < r.size := by omega
          go_wp2_with fail
          go_meet
          obtain ⟨v, hq1, hq2, hq3⟩ := HQ.out
          exact ⟨rfl, k, v, rfl, hk1, hk3, hks, HA.out, hq1, hq2, hq3⟩
        · go_wp2_with fail
          go_meet
          obtain ⟨v, hq1, hq2, hq3⟩ := HQ.out
          exact ⟨rfl, k, v, rfl, hk1, hk3, hks, HA.out, hq1, hq2, hq3⟩
  case rest =>
    obtain ⟨rfl, k, v, rfl, hk1, hk3, hks, hd, hq1, hq2, hq3⟩ := hcut
    have cp := fun w => Num.parse_digits (r.extract 0 k) v w (by rw [cut_head r hks]; omega) (by rw [cut_head r hks]; omega)
      (fun j hj => by rw [cut_head r hks] at hj; have := digit_is (hd j hj); rw [Num.byteAt_extract hks (by omega), Nat.zero_add]; exact this) hq2 hq3
    have HE := esc_digits h0 hd0 hk1 hq1
    have hks' : (k : Int) ≤ r.size := by omega
    clear hd hq1 hq2
    by_cases hv : v ≤ 255
    · rw [if_pos hv] at HE
      have HQ := Lib.hid HE
      have hv' : (v : Int) ≤ 255 := by omega
      clear HE
      go_wp2_with fail
      refine (cp _).mono ?_
      rintro e w1 ⟨rfl, b1⟩
      have B1 := Lib.hid b1
      clear b1 cp
      go_wp2
      go_ret3
      exact esc_some HQ.out rfl rfl (grew_alloc B1.out _)
    · rw [if_neg hv] at HE
      have HQ := Lib.hid HE
      have hv' : (255 : Int) < (v : Int) := by omega
      clear HE
      go_wp2_with fail
      refine (cp _).mono ?_
      rintro e w1 ⟨rfl, b1⟩
      have B1 := Lib.hid b1
      clear b1 cp
      go_wp2
      go_ret3
      exact esc_none HQ.out B1.out

end Go.Proofs.YtmioidbffnjoiaaDoor
