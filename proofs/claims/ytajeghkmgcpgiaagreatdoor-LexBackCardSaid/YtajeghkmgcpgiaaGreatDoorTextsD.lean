/-
  twinstepref03.Part, by contract: the longer ways.
-/
import Derived.Test.YtajeghkmgcpgiaaGreatDoorTextsC
namespace Go.Proofs.YtajeghkmgcpgiaaGreatDoor
open Go.RowKit

set_option maxHeartbeats 2000000 in
set_option maxRecDepth 100000 in
theorem ref_part_letter (s : ByteArray) (p q : Nat) (w : World) (hs : s.size ≤ 1000000000) (h : p < s.size) (hc : ¬ (byteAt s p = q ∨ byteAt s p = 10 ∨ byteAt s p = 13)) (h92 : byteAt s p = 92) (h1 : p + 1 < s.size) (hb : ¬ (byteAt s (p + 1) = 10 ∨ byteAt s (p + 1) = 13)) (v : Nat) (hv : letterN (byteAt s (p + 1)) = some v) (hv9 : v ≤ 255) :
    Calls Tryz.prog 81 #[.string s, .int .i64 p, .int .u8 q] w (PartIs s p q w) := by
  have hp : (p : Int) < s.size := by omega
  have hx := run_index_at (P := Tryz.prog) 9 s (p : Int) p Tryz.underlying9 h rfl
  have t1 : (((byteAt s p : Nat) : Int) == (q : Int)) = false := by rw [beq_eq_false_iff_ne]; omega
  have t2 : (((byteAt s p : Nat) : Int) == 10) = false := by rw [beq_eq_false_iff_ne]; omega
  have t3 : (((byteAt s p : Nat) : Int) == 13) = false := by rw [beq_eq_false_iff_ne]; omega
  have t4 : (((byteAt s p : Nat) : Int) != 92) = false := by rw [h92]; rfl
  have HE := part_esc h hc h92
  have hp1 : (p : Int) + 1 < s.size := by omega
  have hz := run_index_at (P := Tryz.prog) 9 s ((p : Int) + 1) (p + 1) Tryz.underlying9 h1 (by omega)
  have t5 : (((byteAt s (p + 1) : Nat) : Int) == 10) = false := by rw [beq_eq_false_iff_ne]; omega
  have t6 : (((byteAt s (p + 1) : Nat) : Int) == 13) = false := by rw [beq_eq_false_iff_ne]; omega
  have hbl := byteAt_lt s (p + 1)
  have hcv := fun (w : World) (x : Int) => run_convert_block (P := Tryz.prog) w 30 9 5 [x] (0, 0) Tryz.underlying30 Tryz.underlying5 Tryz.underlying9
  simp only [List.map_cons, List.map_nil, List.length_cons, List.length_nil, Nat.zero_add] at hcv
  have HR := Lib.hid (HE.trans (esc_letter h1 hb hv))
  have cl := fun w => ref_letter (byteAt s (p + 1)) w hbl
  have hli : letterI (byteAt s (p + 1)) = v := by unfold letterI; rw [hv]
  rw [hli] at cl
  clear HE h92 hc hb hv hli
  generalize byteAt s (p + 1) = b at *
  generalize byteAt s p = c at *
  go_enter Tryz.func81, Tryz.ntmps81
  go_wp2_with fail
  refine (cl _).mono ?_
  rintro e w1 ⟨rfl, b1⟩
  go_wp2
  go_ret2
  exact part_some HR.out rfl rfl (grew_alloc b1 _)

set_option maxHeartbeats 2000000 in
set_option maxRecDepth 100000 in
theorem ref_part_x (s : ByteArray) (p q : Nat) (w : World) (hs : s.size ≤ 1000000000) (h : p < s.size) (hc : ¬ (byteAt s p = q ∨ byteAt s p = 10 ∨ byteAt s p = 13)) (h92 : byteAt s p = 92) (h1 : p + 1 < s.size) (hX : byteAt s (p + 1) = 120) :
    Calls Tryz.prog 81 #[.string s, .int .i64 p, .int .u8 q] w (PartIs s p q w) := by
  have hb : ¬ (byteAt s (p + 1) = 10 ∨ byteAt s (p + 1) = 13) := by omega
  have hl : letterN (byteAt s (p + 1)) = none := by rw [hX]; rfl
  have hp : (p : Int) < s.size := by omega
  have hx := run_index_at (P := Tryz.prog) 9 s (p : Int) p Tryz.underlying9 h rfl
  have t1 : (((byteAt s p : Nat) : Int) == (q : Int)) = false := by rw [beq_eq_false_iff_ne]; omega
  have t2 : (((byteAt s p : Nat) : Int) == 10) = false := by rw [beq_eq_false_iff_ne]; omega
  have t3 : (((byteAt s p : Nat) : Int) == 13) = false := by rw [beq_eq_false_iff_ne]; omega
  have t4 : (((byteAt s p : Nat) : Int) != 92) = false := by rw [h92]; rfl
  have HE := part_esc h hc h92
  have hp1 : (p : Int) + 1 < s.size := by omega
  have hz := run_index_at (P := Tryz.prog) 9 s ((p : Int) + 1) (p + 1) Tryz.underlying9 h1 (by omega)
  have t5 : (((byteAt s (p + 1) : Nat) : Int) == 10) = false := by rw [beq_eq_false_iff_ne]; omega
  have t6 : (((byteAt s (p + 1) : Nat) : Int) == 13) = false := by rw [beq_eq_false_iff_ne]; omega
  have hbl := byteAt_lt s (p + 1)
  have hcv := fun (w : World) (x : Int) => run_convert_block (P := Tryz.prog) w 30 9 5 [x] (0, 0) Tryz.underlying30 Tryz.underlying5 Tryz.underlying9
  simp only [List.map_cons, List.map_nil, List.length_cons, List.length_nil, Nat.zero_add] at hcv
  have cl := fun w => ref_letter (byteAt s (p + 1)) w hbl
  have hli : letterI (byteAt s (p + 1)) = -1 := by unfold letterI; rw [hl]
  rw [hli] at cl
  have HR := HE.trans (esc_x h1 hX)
  have cn := fun w => ref_number s (p + 2) 16 2 w hs (by omega) (by decide) (by decide)
  rw [hex_number] at cn
  have hbd := run_bound 16 (by decide) 2 (s.data.toList.drop (p + 2)) 0
  have t7 : (((byteAt s (p + 1) : Nat) : Int) == 120) = true := by rw [hX]; rfl
  rw [show (((p + 2 : Nat)) : Int) = (p : Int) + 1 + 1 from by omega] at cn
  rw [show p + 1 + 1 = p + 2 from rfl] at HR
  clear HE h92 hc hb hX hli hl
  generalize byteAt s (p + 1) = b at *
  generalize byteAt s p = c at *
  generalize runN 16 2 (s.data.toList.drop (p + 2)) 0 = R at *
  obtain ⟨n, k⟩ := R
  simp only [] at cn HR hbd
  have hn : n ≤ 255 := by omega
  have hn' : (n : Int) ≤ 255 := by omega
  by_cases hk : k = 2
  · subst hk
    rw [if_pos rfl] at HR
    have HQ := Lib.hid HR
    clear HR hbd
    go_enter Tryz.func81, Tryz.ntmps81
    go_wp2_with fail
    refine (cl _).mono ?_
    rintro e w1 ⟨rfl, b1⟩
    go_wp2_with fail
    refine (cn _).mono ?_
    rintro e w2 ⟨rfl, rfl⟩
    go_wp2
    go_ret2
    exact part_some HQ.out rfl rfl (grew_alloc b1 _)
  · rw [if_neg hk] at HR
    have HQ := Lib.hid HR
    have t8 : ((k : Int) == 2) = false := by rw [beq_eq_false_iff_ne]; omega
    clear HR hbd hk
    go_enter Tryz.func81, Tryz.ntmps81
    go_wp2_with fail
    refine (cl _).mono ?_
    rintro e w1 ⟨rfl, b1⟩
    go_wp2_with fail
    refine (cn _).mono ?_
    rintro e w2 ⟨rfl, rfl⟩
    go_wp2
    go_ret2
    exact part_none HQ.out b1

set_option maxHeartbeats 2000000 in
set_option maxRecDepth 100000 in
theorem ref_part_z (s : ByteArray) (p q : Nat) (w : World) (hs : s.size ≤ 1000000000) (h : p < s.size) (hc : ¬ (byteAt s p = q ∨ byteAt s p = 10 ∨ byteAt s p = 13)) (h92 : byteAt s p = 92) (h1 : p + 1 < s.size) (hZ : byteAt s (p + 1) = 122) :
    Calls Tryz.prog 81 #[.string s, .int .i64 p, .int .u8 q] w (PartIs s p q w) := by
  have hb : ¬ (byteAt s (p + 1) = 10 ∨ byteAt s (p + 1) = 13) := by omega
  have hl : letterN (byteAt s (p + 1)) = none := by rw [hZ]; rfl
  have hp : (p : Int) < s.size := by omega
  have hx := run_index_at (P := Tryz.prog) 9 s (p : Int) p Tryz.underlying9 h rfl
  have t1 : (((byteAt s p : Nat) : Int) == (q : Int)) = false := by rw [beq_eq_false_iff_ne]; omega
  have t2 : (((byteAt s p : Nat) : Int) == 10) = false := by rw [beq_eq_false_iff_ne]; omega
  have t3 : (((byteAt s p : Nat) : Int) == 13) = false := by rw [beq_eq_false_iff_ne]; omega
  have t4 : (((byteAt s p : Nat) : Int) != 92) = false := by rw [h92]; rfl
  have HE := part_esc h hc h92
  have hp1 : (p : Int) + 1 < s.size := by omega
  have hz := run_index_at (P := Tryz.prog) 9 s ((p : Int) + 1) (p + 1) Tryz.underlying9 h1 (by omega)
  have t5 : (((byteAt s (p + 1) : Nat) : Int) == 10) = false := by rw [beq_eq_false_iff_ne]; omega
  have t6 : (((byteAt s (p + 1) : Nat) : Int) == 13) = false := by rw [beq_eq_false_iff_ne]; omega
  have hbl := byteAt_lt s (p + 1)
  have cl := fun w => ref_letter (byteAt s (p + 1)) w hbl
  have hli : letterI (byteAt s (p + 1)) = -1 := by unfold letterI; rw [hl]
  rw [hli] at cl
  have HR := Lib.hid (HE.trans (esc_z h1 hZ))
  have t7 : (((byteAt s (p + 1) : Nat) : Int) == 120) = false := by rw [hZ]; rfl
  have t8 : (((byteAt s (p + 1) : Nat) : Int) == 122) = true := by rw [hZ]; rfl
  clear HE h92 hc hb hZ hli hl
  generalize byteAt s (p + 1) = b at *
  generalize byteAt s p = c at *
  go_enter Tryz.func81, Tryz.ntmps81
  go_wp2_with fail
  refine (cl _).mono ?_
  rintro e w1 ⟨rfl, b1⟩
  have B1 := Lib.hid b1
  clear b1
  go_wp2
  go_loop [12] (fun i => ∃ k : Nat, 1 ≤ k ∧ p + 1 + k ≤ s.size ∧ i = .int .i64 k ∧ blanks (s.data.toList.drop (p + 1 + k)) + k = blanks (s.data.toList.drop (p + 2)) + 1) (fun i => s.size - (intOf i).toNat)
  case atStart => exact ⟨1, by omega, by omega, rfl, rfl⟩
  case round =>
    obtain ⟨k, hk1, hks, rfl, hr⟩ := hrel
    by_cases hlt : p + 1 + k < s.size
    · have hlt' : (p : Int) + 1 + k < s.size := by omega
      have hi := run_index_at (P := Tryz.prog) 9 s ((p : Int) + 1 + k) (p + 1 + k) Tryz.underlying9 hlt (by omega)
      have cs := fun w => ref_space (byteAt s (p + 1 + k)) w (byteAt_lt s _)
      have hyes := blanks_yes hlt
      have hno := blanks_no hlt
      cases hsp : spaceB (byteAt s (p + 1 + k))
      · rw [hno hsp, Nat.zero_add] at hr
        have HQ := Lib.hid hr
        rw [hsp] at cs
        clear hyes hno hsp hr
        generalize byteAt s (p + 1 + k) = y at *
        go_wp2_with fail
        refine (cs _).mono ?_
        rintro e w2 ⟨rfl, rfl⟩
        go_wp2
        go_ret2
        exact part_some HR.out rfl (by have := HQ.out; rw [show p + 1 + 1 = p + 2 from rfl]; omega) B1.out
      · rw [hyes hsp] at hr
        have HQ := Lib.hid hr
        rw [hsp] at cs
        clear hyes hno hsp hr
        generalize byteAt s (p + 1 + k) = y at *
        go_wp2_with fail
        refine (cs _).mono ?_
        rintro e w2 ⟨rfl, rfl⟩
        go_wp2
        go_round
        case rel => exact ⟨k + 1, by omega, by omega, by go_num, by rw [show p + 1 + (k + 1) = p + 1 + k + 1 from rfl]; have := HQ.out; omega⟩
        case measure => simp only [intOf]; omega
    · rw [blanks_end (by omega), Nat.zero_add] at hr
      have HQ := Lib.hid hr
      have hlt' : (s.size : Int) ≤ (p : Int) + 1 + k := by omega
      clear hr
      go_wp2
      go_ret2
      exact part_some HR.out rfl (by have := HQ.out; rw [show p + 1 + 1 = p + 2 from rfl]; omega) B1.out

end Go.Proofs.YtajeghkmgcpgiaaGreatDoor
