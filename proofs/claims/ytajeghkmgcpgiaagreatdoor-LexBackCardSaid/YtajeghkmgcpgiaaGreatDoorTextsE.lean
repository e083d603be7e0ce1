/-
  twinstepref03.Part, by contract: characters by their numbers; all ways together.
-/
import Derived.Test.YtajeghkmgcpgiaaGreatDoorTextsD
namespace Go.Proofs.YtajeghkmgcpgiaaGreatDoor
open Go.RowKit

set_option maxHeartbeats 2000000 in
set_option maxRecDepth 100000 in
theorem ref_part_u (s : ByteArray) (p q : Nat) (w : World) (hs : s.size ≤ 1000000000) (h : p < s.size) (hc : ¬ (byteAt s p = q ∨ byteAt s p = 10 ∨ byteAt s p = 13)) (h92 : byteAt s p = 92) (h1 : p + 1 < s.size) (hU : byteAt s (p + 1) = 117) (hi : isB s (p + 2) 123 = true) (hv : (runN 16 s.size (s.data.toList.drop (p + 3)) 0).1 < 2147483648) :
    Calls Tryz.prog 81 #[.string s, .int .i64 p, .int .u8 q] w (PartIs s p q w) := by
  have hb : ¬ (byteAt s (p + 1) = 10 ∨ byteAt s (p + 1) = 13) := by omega
  have hl : letterN (byteAt s (p + 1)) = none := by rw [hU]; rfl
  have hp : (p : Int) < s.size := by omega
  have hx := run_index_at (P := Tryz.prog) 9 s (p : Int) p Tryz.underlying9 h rfl
  have t1 : (((byteAt s p : Nat) : Int) == (q : Int)) = false := by rw [beq_eq_false_iff_ne]; omega
  have t2 : (((byteAt s p : Nat) : Int) == 10) = false := by rw [beq_eq_false_iff_ne]; omega
  have t3 : (((byteAt s p : Nat) : Int) == 13) = false := by rw [beq_eq_false_iff_ne]; omega
  have t4 : (((byteAt s p : Nat) : Int) != 92) = false := by rw [h92]; rfl
  have HE := part_esc h hc h92
  have hp1 : (p : Int) + 1 < s.size := by omega
  have hz := run_index_at (P := Tryz.prog) 9 s ((p : Int) + 1) (p + 1) Tryz.underlying9 h1 (by omega)
  have t5 : (((byteAt s (p + 1) : Nat) : Int) == 10) = false := by rw [beq_eq_false_iff_ne]; omega
  have t6 : (((byteAt s (p + 1) : Nat) : Int) == 13) = false := by rw [beq_eq_false_iff_ne]; omega
  have hbl := byteAt_lt s (p + 1)
  have cl := fun w => ref_letter (byteAt s (p + 1)) w hbl
  have hli : letterI (byteAt s (p + 1)) = -1 := by unfold letterI; rw [hl]
  rw [hli] at cl
  have HR := HE.trans (esc_u h1 hU hi)
  have ci := fun w => ref_is s (p + 2) 123 w
  rw [hi, show (((p + 2 : Nat)) : Int) = (p : Int) + 1 + 1 from by omega, show (((123 : Nat)) : Int) = 123 from rfl] at ci
  have cn := fun w => ref_number s (p + 3) 16 s.size w hs (by omega) (by decide) hs
  rw [show (((p + 3 : Nat)) : Int) = (p : Int) + 1 + 2 from by omega, show (((16 : Nat)) : Int) = 16 from rfl] at cn
  rw [show p + 1 + 2 = p + 3 from rfl] at HR
  have t7 : (((byteAt s (p + 1) : Nat) : Int) == 120) = false := by rw [hU]; rfl
  have t8 : (((byteAt s (p + 1) : Nat) : Int) == 122) = false := by rw [hU]; rfl
  have t9 : (((byteAt s (p + 1) : Nat) : Int) == 117) = true := by rw [hU]; rfl
  have hcnt := run_count 16 s.size (s.data.toList.drop (p + 3)) 0
  rw [List.length_drop, show s.data.toList.length = s.size from rfl] at hcnt
  rw [stop_run 16 (by decide) _ _ _ hv] at cn
  clear HE h92 hc hb hU hli hl hi
  generalize byteAt s (p + 1) = b at *
  generalize byteAt s p = c at *
  generalize runN 16 s.size (s.data.toList.drop (p + 3)) 0 = R at *
  obtain ⟨n, k⟩ := R
  simp only [] at cn HR hv hcnt
  have ce := fun w => ref_encode (n : Int) w
  have hes : encS (n : Int) = bytesOf (encI n) := by unfold encS; rw [if_neg (by omega)]
  have hee : encE (n : Int) = 0 := by unfold encE; rw [if_neg (by omega)]
  rw [hes, hee] at ce
  have hk9 : (k : Int) ≤ 1000000000 := by omega
  have hp9 : (p : Int) ≤ 1000000000 := by omega
  clear hes hee
  generalize bytesOf (encI n) = T at *
  have HV := Lib.hid hv
  by_cases hk : 0 < k
  · have hk' : (0 : Int) < k := by omega
    have cj := fun w => ref_is s (p + 3 + k) 125 w
    rw [show (((p + 3 + k : Nat)) : Int) = (p : Int) + 1 + 2 + k from by omega, show (((125 : Nat)) : Int) = 125 from rfl] at cj
    cases hj : isB s (p + 3 + k) 125
    · rw [hj] at cj HR
      have HQ := Lib.hid (HR.trans (if_neg (by simp)))
      clear HR hj hv
      go_enter Tryz.func81, Tryz.ntmps81
      go_wp2_with fail
      refine (cl _).mono ?_
      rintro e w1 ⟨rfl, b1⟩
      go_wp2_with fail
      refine (ci _).mono ?_
      rintro e w2 ⟨rfl, rfl⟩
      go_wp2_with fail
      refine (cn _).mono ?_
      rintro e w3 ⟨rfl, rfl⟩
      go_wp2_with fail
      refine (ce _).mono ?_
      rintro e w4 ⟨rfl, b4⟩
      have B4 := Lib.hid (grew_trans b1 b4)
      clear b1 b4
      go_wp2_with fail
      refine (cj _).mono ?_
      rintro e w5 ⟨rfl, rfl⟩
      go_wp2
      go_ret2
      exact part_none HQ.out B4.out
    · rw [hj] at cj HR
      have HQ := Lib.hid (HR.trans (if_pos ⟨hk, HV.out, rfl⟩))
      clear HR hj hv
      go_enter Tryz.func81, Tryz.ntmps81
      go_wp2_with fail
      refine (cl _).mono ?_
      rintro e w1 ⟨rfl, b1⟩
      go_wp2_with fail
      refine (ci _).mono ?_
      rintro e w2 ⟨rfl, rfl⟩
      go_wp2_with fail
      refine (cn _).mono ?_
      rintro e w3 ⟨rfl, rfl⟩
      go_wp2_with fail
      refine (ce _).mono ?_
      rintro e w4 ⟨rfl, b4⟩
      have B4 := Lib.hid (grew_trans b1 b4)
      clear b1 b4
      go_wp2_with fail
      refine (cj _).mono ?_
      rintro e w5 ⟨rfl, rfl⟩
      go_wp2
      go_ret2
      exact part_some HQ.out rfl (by omega) B4.out
  · have HQ := Lib.hid (HR.trans (if_neg (fun h => hk h.1)))
    have hk' : (k : Int) ≤ 0 := by omega
    clear HR hk hv
    go_enter Tryz.func81, Tryz.ntmps81
    go_wp2_with fail
    refine (cl _).mono ?_
    rintro e w1 ⟨rfl, b1⟩
    go_wp2_with fail
    refine (ci _).mono ?_
    rintro e w2 ⟨rfl, rfl⟩
    go_wp2_with fail
    refine (cn _).mono ?_
    rintro e w3 ⟨rfl, rfl⟩
    go_wp2_with fail
    refine (ce _).mono ?_
    rintro e w4 ⟨rfl, b4⟩
    have B4 := Lib.hid (grew_trans b1 b4)
    clear b1 b4
    go_wp2
    go_ret2
    exact part_none HQ.out B4.out

set_option maxHeartbeats 2000000 in
set_option maxRecDepth 100000 in
theorem ref_part_far (s : ByteArray) (p q : Nat) (w : World) (hs : s.size ≤ 1000000000) (h : p < s.size) (hc : ¬ (byteAt s p = q ∨ byteAt s p = 10 ∨ byteAt s p = 13)) (h92 : byteAt s p = 92) (h1 : p + 1 < s.size) (hU : byteAt s (p + 1) = 117) (hi : isB s (p + 2) 123 = true) (hv : 2147483648 ≤ (runN 16 s.size (s.data.toList.drop (p + 3)) 0).1) :
    Calls Tryz.prog 81 #[.string s, .int .i64 p, .int .u8 q] w (PartIs s p q w) := by
  have hb : ¬ (byteAt s (p + 1) = 10 ∨ byteAt s (p + 1) = 13) := by omega
  have hl : letterN (byteAt s (p + 1)) = none := by rw [hU]; rfl
  have hp : (p : Int) < s.size := by omega
  have hx := run_index_at (P := Tryz.prog) 9 s (p : Int) p Tryz.underlying9 h rfl
  have t1 : (((byteAt s p : Nat) : Int) == (q : Int)) = false := by rw [beq_eq_false_iff_ne]; omega
  have t2 : (((byteAt s p : Nat) : Int) == 10) = false := by rw [beq_eq_false_iff_ne]; omega
  have t3 : (((byteAt s p : Nat) : Int) == 13) = false := by rw [beq_eq_false_iff_ne]; omega
  have t4 : (((byteAt s p : Nat) : Int) != 92) = false := by rw [h92]; rfl
  have HE := part_esc h hc h92
  have hp1 : (p : Int) + 1 < s.size := by omega
  have hz := run_index_at (P := Tryz.prog) 9 s ((p : Int) + 1) (p + 1) Tryz.underlying9 h1 (by omega)
  have t5 : (((byteAt s (p + 1) : Nat) : Int) == 10) = false := by rw [beq_eq_false_iff_ne]; omega
  have t6 : (((byteAt s (p + 1) : Nat) : Int) == 13) = false := by rw [beq_eq_false_iff_ne]; omega
  have hbl := byteAt_lt s (p + 1)
  have cl := fun w => ref_letter (byteAt s (p + 1)) w hbl
  have hli : letterI (byteAt s (p + 1)) = -1 := by unfold letterI; rw [hl]
  rw [hli] at cl
  have HR := HE.trans (esc_u h1 hU hi)
  have ci := fun w => ref_is s (p + 2) 123 w
  rw [hi, show (((p + 2 : Nat)) : Int) = (p : Int) + 1 + 1 from by omega, show (((123 : Nat)) : Int) = 123 from rfl] at ci
  have cn := fun w => ref_number s (p + 3) 16 s.size w hs (by omega) (by decide) hs
  rw [show (((p + 3 : Nat)) : Int) = (p : Int) + 1 + 2 from by omega, show (((16 : Nat)) : Int) = 16 from rfl] at cn
  rw [show p + 1 + 2 = p + 3 from rfl] at HR
  have t7 : (((byteAt s (p + 1) : Nat) : Int) == 120) = false := by rw [hU]; rfl
  have t8 : (((byteAt s (p + 1) : Nat) : Int) == 122) = false := by rw [hU]; rfl
  have t9 : (((byteAt s (p + 1) : Nat) : Int) == 117) = true := by rw [hU]; rfl
  have hcnt := run_count 16 s.size (s.data.toList.drop (p + 3)) 0
  rw [List.length_drop, show s.data.toList.length = s.size from rfl] at hcnt
  have hst := stop_great 16 s.size (s.data.toList.drop (p + 3)) 0 hv
  have HQ := Lib.hid (HR.trans (if_neg (fun h => by omega)))
  clear HE h92 hc hb hU hli hl hi HR hcnt hv
  generalize byteAt s (p + 1) = b at *
  generalize byteAt s p = c at *
  generalize stopN 16 s.size (s.data.toList.drop (p + 3)) 0 = R at *
  obtain ⟨n, k⟩ := R
  simp only [] at cn hst
  have ce := fun w => ref_encode (n : Int) w
  have hes : encS (n : Int) = ⟨#[]⟩ := by unfold encS; rw [if_pos (by omega)]
  have hee : encE (n : Int) = 10 := by unfold encE; rw [if_pos (by omega)]
  rw [hes, hee] at ce
  clear hes hee hst
  by_cases hk : 0 < k
  · have hk' : (0 : Int) < k := by omega
    go_enter Tryz.func81, Tryz.ntmps81
    go_wp2_with fail
    refine (cl _).mono ?_
    rintro e w1 ⟨rfl, b1⟩
    go_wp2_with fail
    refine (ci _).mono ?_
    rintro e w2 ⟨rfl, rfl⟩
    go_wp2_with fail
    refine (cn _).mono ?_
    rintro e w3 ⟨rfl, rfl⟩
    go_wp2_with fail
    refine (ce _).mono ?_
    rintro e w4 ⟨rfl, b4⟩
    have B4 := Lib.hid (grew_trans b1 b4)
    clear b1 b4
    go_wp2
    go_ret2
    exact part_none HQ.out B4.out
  · have hk' : (k : Int) ≤ 0 := by omega
    clear hk
    go_enter Tryz.func81, Tryz.ntmps81
    go_wp2_with fail
    refine (cl _).mono ?_
    rintro e w1 ⟨rfl, b1⟩
    go_wp2_with fail
    refine (ci _).mono ?_
    rintro e w2 ⟨rfl, rfl⟩
    go_wp2_with fail
    refine (cn _).mono ?_
    rintro e w3 ⟨rfl, rfl⟩
    go_wp2_with fail
    refine (ce _).mono ?_
    rintro e w4 ⟨rfl, b4⟩
    have B4 := Lib.hid (grew_trans b1 b4)
    clear b1 b4
    go_wp2
    go_ret2
    exact part_none HQ.out B4.out

set_option maxHeartbeats 2000000 in
set_option maxRecDepth 100000 in
theorem ref_part_num (s : ByteArray) (p q : Nat) (w : World) (hs : s.size ≤ 1000000000) (h : p < s.size) (hc : ¬ (byteAt s p = q ∨ byteAt s p = 10 ∨ byteAt s p = 13)) (h92 : byteAt s p = 92) (h1 : p + 1 < s.size) (hb : ¬ (byteAt s (p + 1) = 10 ∨ byteAt s (p + 1) = 13)) (hl : letterN (byteAt s (p + 1)) = none) (hX : byteAt s (p + 1) ≠ 120) (hZ : byteAt s (p + 1) ≠ 122) (hU : byteAt s (p + 1) ≠ 117) :
    Calls Tryz.prog 81 #[.string s, .int .i64 p, .int .u8 q] w (PartIs s p q w) := by
  have hp : (p : Int) < s.size := by omega
  have hx := run_index_at (P := Tryz.prog) 9 s (p : Int) p Tryz.underlying9 h rfl
  have t1 : (((byteAt s p : Nat) : Int) == (q : Int)) = false := by rw [beq_eq_false_iff_ne]; omega
  have t2 : (((byteAt s p : Nat) : Int) == 10) = false := by rw [beq_eq_false_iff_ne]; omega
  have t3 : (((byteAt s p : Nat) : Int) == 13) = false := by rw [beq_eq_false_iff_ne]; omega
  have t4 : (((byteAt s p : Nat) : Int) != 92) = false := by rw [h92]; rfl
  have HE := part_esc h hc h92
  have hp1 : (p : Int) + 1 < s.size := by omega
  have hz := run_index_at (P := Tryz.prog) 9 s ((p : Int) + 1) (p + 1) Tryz.underlying9 h1 (by omega)
  have t5 : (((byteAt s (p + 1) : Nat) : Int) == 10) = false := by rw [beq_eq_false_iff_ne]; omega
  have t6 : (((byteAt s (p + 1) : Nat) : Int) == 13) = false := by rw [beq_eq_false_iff_ne]; omega
  have hbl := byteAt_lt s (p + 1)
  have hcv := fun (w : World) (x : Int) => run_convert_block (P := Tryz.prog) w 30 9 5 [x] (0, 0) Tryz.underlying30 Tryz.underlying5 Tryz.underlying9
  simp only [List.map_cons, List.map_nil, List.length_cons, List.length_nil, Nat.zero_add] at hcv
  have cl := fun w => ref_letter (byteAt s (p + 1)) w hbl
  have hli : letterI (byteAt s (p + 1)) = -1 := by unfold letterI; rw [hl]
  rw [hli] at cl
  have HR := HE.trans (esc_num h1 hb hl hX hZ (fun g => hU g.1))
  have cn := fun w => ref_number s (p + 1) 10 3 w hs (by omega) (by decide) (by decide)
  rw [dec_number] at cn
  rw [show (((p + 1 : Nat)) : Int) = (p : Int) + 1 from by omega, show (((10 : Nat)) : Int) = 10 from rfl, show (((3 : Nat)) : Int) = 3 from rfl] at cn
  have t7 : (((byteAt s (p + 1) : Nat) : Int) == 120) = false := by rw [beq_eq_false_iff_ne]; omega
  have t8 : (((byteAt s (p + 1) : Nat) : Int) == 122) = false := by rw [beq_eq_false_iff_ne]; omega
  have hcnt := run_count 10 3 (s.data.toList.drop (p + 1)) 0
  rw [List.length_drop, show s.data.toList.length = s.size from rfl] at hcnt
  have t9 : (((byteAt s (p + 1) : Nat) : Int) == 117) = false := by rw [beq_eq_false_iff_ne]; omega
  clear hU
  clear HE h92 hc hb hX hZ hli hl
  generalize byteAt s (p + 1) = b at *
  generalize byteAt s p = c at *
  generalize runN 10 3 (s.data.toList.drop (p + 1)) 0 = R at *
  obtain ⟨n, k⟩ := R
  simp only [] at cn HR hcnt
  have hk9 : (k : Int) ≤ 1000000000 := by omega
  by_cases hk : 0 < k
  · have hk' : (0 : Int) < k := by omega
    by_cases hn : n ≤ 255
    · have hn' : (n : Int) ≤ 255 := by omega
      have HQ := Lib.hid (HR.trans (if_pos ⟨hk, hn⟩))
      clear HR hcnt
      go_enter Tryz.func81, Tryz.ntmps81
      go_wp2_with fail
      refine (cl _).mono ?_
      rintro e w1 ⟨rfl, b1⟩
      go_wp2_with fail
      refine (cn _).mono ?_
      rintro e w3 ⟨rfl, rfl⟩
      go_wp2
      go_ret2
      exact part_some HQ.out rfl (by omega) (grew_alloc b1 _)
    · have hn' : (255 : Int) < n := by omega
      have HQ := Lib.hid (HR.trans (if_neg (fun h => hn h.2)))
      clear HR hcnt hn
      go_enter Tryz.func81, Tryz.ntmps81
      go_wp2_with fail
      refine (cl _).mono ?_
      rintro e w1 ⟨rfl, b1⟩
      go_wp2_with fail
      refine (cn _).mono ?_
      rintro e w3 ⟨rfl, rfl⟩
      go_wp2
      go_ret2
      exact part_none HQ.out b1
  · have HQ := Lib.hid (HR.trans (if_neg (fun h => hk h.1)))
    have hk' : (k : Int) ≤ 0 := by omega
    clear HR hk hcnt
    go_enter Tryz.func81, Tryz.ntmps81
    go_wp2_with fail
    refine (cl _).mono ?_
    rintro e w1 ⟨rfl, b1⟩
    go_wp2_with fail
    refine (cn _).mono ?_
    rintro e w3 ⟨rfl, rfl⟩
    go_wp2
    go_ret2
    exact part_none HQ.out b1

set_option maxHeartbeats 2000000 in
set_option maxRecDepth 100000 in
theorem ref_part_numu (s : ByteArray) (p q : Nat) (w : World) (hs : s.size ≤ 1000000000) (h : p < s.size) (hc : ¬ (byteAt s p = q ∨ byteAt s p = 10 ∨ byteAt s p = 13)) (h92 : byteAt s p = 92) (h1 : p + 1 < s.size) (hb : ¬ (byteAt s (p + 1) = 10 ∨ byteAt s (p + 1) = 13)) (hl : letterN (byteAt s (p + 1)) = none) (hX : byteAt s (p + 1) ≠ 120) (hZ : byteAt s (p + 1) ≠ 122) (hU : byteAt s (p + 1) = 117) (hi : isB s (p + 2) 123 = false) :
    Calls Tryz.prog 81 #[.string s, .int .i64 p, .int .u8 q] w (PartIs s p q w) := by
  have hp : (p : Int) < s.size := by omega
  have hx := run_index_at (P := Tryz.prog) 9 s (p : Int) p Tryz.underlying9 h rfl
  have t1 : (((byteAt s p : Nat) : Int) == (q : Int)) = false := by rw [beq_eq_false_iff_ne]; omega
  have t2 : (((byteAt s p : Nat) : Int) == 10) = false := by rw [beq_eq_false_iff_ne]; omega
  have t3 : (((byteAt s p : Nat) : Int) == 13) = false := by rw [beq_eq_false_iff_ne]; omega
  have t4 : (((byteAt s p : Nat) : Int) != 92) = false := by rw [h92]; rfl
  have HE := part_esc h hc h92
  have hp1 : (p : Int) + 1 < s.size := by omega
  have hz := run_index_at (P := Tryz.prog) 9 s ((p : Int) + 1) (p + 1) Tryz.underlying9 h1 (by omega)
  have t5 : (((byteAt s (p + 1) : Nat) : Int) == 10) = false := by rw [beq_eq_false_iff_ne]; omega
  have t6 : (((byteAt s (p + 1) : Nat) : Int) == 13) = false := by rw [beq_eq_false_iff_ne]; omega
  have hbl := byteAt_lt s (p + 1)
  have hcv := fun (w : World) (x : Int) => run_convert_block (P := Tryz.prog) w 30 9 5 [x] (0, 0) Tryz.underlying30 Tryz.underlying5 Tryz.underlying9
  simp only [List.map_cons, List.map_nil, List.length_cons, List.length_nil, Nat.zero_add] at hcv
  have cl := fun w => ref_letter (byteAt s (p + 1)) w hbl
  have hli : letterI (byteAt s (p + 1)) = -1 := by unfold letterI; rw [hl]
  rw [hli] at cl
  have HR := HE.trans (esc_num h1 hb hl hX hZ (fun g => by rw [show p + 1 + 1 = p + 2 from rfl, hi] at g; exact absurd g.2 (by decide)))
  have cn := fun w => ref_number s (p + 1) 10 3 w hs (by omega) (by decide) (by decide)
  rw [dec_number] at cn
  rw [show (((p + 1 : Nat)) : Int) = (p : Int) + 1 from by omega, show (((10 : Nat)) : Int) = 10 from rfl, show (((3 : Nat)) : Int) = 3 from rfl] at cn
  have t7 : (((byteAt s (p + 1) : Nat) : Int) == 120) = false := by rw [beq_eq_false_iff_ne]; omega
  have t8 : (((byteAt s (p + 1) : Nat) : Int) == 122) = false := by rw [beq_eq_false_iff_ne]; omega
  have hcnt := run_count 10 3 (s.data.toList.drop (p + 1)) 0
  rw [List.length_drop, show s.data.toList.length = s.size from rfl] at hcnt
  have t9 : (((byteAt s (p + 1) : Nat) : Int) == 117) = true := by rw [hU]; rfl
  have ci := fun w => ref_is s (p + 2) 123 w
  rw [hi, show (((p + 2 : Nat)) : Int) = (p : Int) + 1 + 1 from by omega, show (((123 : Nat)) : Int) = 123 from rfl] at ci
  clear hU hi
  clear HE h92 hc hb hX hZ hli hl
  generalize byteAt s (p + 1) = b at *
  generalize byteAt s p = c at *
  generalize runN 10 3 (s.data.toList.drop (p + 1)) 0 = R at *
  obtain ⟨n, k⟩ := R
  simp only [] at cn HR hcnt
  have hk9 : (k : Int) ≤ 1000000000 := by omega
  by_cases hk : 0 < k
  · have hk' : (0 : Int) < k := by omega
    by_cases hn : n ≤ 255
    · have hn' : (n : Int) ≤ 255 := by omega
      have HQ := Lib.hid (HR.trans (if_pos ⟨hk, hn⟩))
      clear HR hcnt
      go_enter Tryz.func81, Tryz.ntmps81
      go_wp2_with fail
      refine (cl _).mono ?_
      rintro e w1 ⟨rfl, b1⟩
      go_wp2_with fail
      refine (ci _).mono ?_
      rintro e w2 ⟨rfl, rfl⟩
      go_wp2_with fail
      refine (cn _).mono ?_
      rintro e w3 ⟨rfl, rfl⟩
      go_wp2
      go_ret2
      exact part_some HQ.out rfl (by omega) (grew_alloc b1 _)
    · have hn' : (255 : Int) < n := by omega
      have HQ := Lib.hid (HR.trans (if_neg (fun h => hn h.2)))
      clear HR hcnt hn
      go_enter Tryz.func81, Tryz.ntmps81
      go_wp2_with fail
      refine (cl _).mono ?_
      rintro e w1 ⟨rfl, b1⟩
      go_wp2_with fail
      refine (ci _).mono ?_
      rintro e w2 ⟨rfl, rfl⟩
      go_wp2_with fail
      refine (cn _).mono ?_
      rintro e w3 ⟨rfl, rfl⟩
      go_wp2
      go_ret2
      exact part_none HQ.out b1
  · have HQ := Lib.hid (HR.trans (if_neg (fun h => hk h.1)))
    have hk' : (k : Int) ≤ 0 := by omega
    clear HR hk hcnt
    go_enter Tryz.func81, Tryz.ntmps81
    go_wp2_with fail
    refine (cl _).mono ?_
    rintro e w1 ⟨rfl, b1⟩
    go_wp2_with fail
    refine (ci _).mono ?_
    rintro e w2 ⟨rfl, rfl⟩
    go_wp2_with fail
    refine (cn _).mono ?_
    rintro e w3 ⟨rfl, rfl⟩
    go_wp2
    go_ret2
    exact part_none HQ.out b1

theorem letter_small {b v : Nat} (h : letterN b = some v) : v ≤ 255 := by
  unfold letterN at h
  repeat' split at h
  all_goals (first | (injection h with h; omega) | cases h)

/-- Part: all ways. -/
theorem ref_part (s : ByteArray) (p q : Nat) (w : World) (hs : s.size ≤ 1000000000) :
    Calls Tryz.prog 81 #[.string s, .int .i64 p, .int .u8 q] w (PartIs s p q w) := by
  by_cases h : p < s.size
  · by_cases hc : byteAt s p = q ∨ byteAt s p = 10 ∨ byteAt s p = 13
    · exact ref_part_bad s p q w h hc
    · by_cases h92 : byteAt s p = 92
      · by_cases h1 : p + 1 < s.size
        · by_cases hlf : byteAt s (p + 1) = 10
          · exact ref_part_lf s p q w hs h hc h92 h1 hlf
          · by_cases hcr : byteAt s (p + 1) = 13
            · exact ref_part_cr s p q w hs h hc h92 h1 hcr
            · have hb : ¬ (byteAt s (p + 1) = 10 ∨ byteAt s (p + 1) = 13) := by omega
              cases hl : letterN (byteAt s (p + 1)) with
              | some v => exact ref_part_letter s p q w hs h hc h92 h1 hb v hl (letter_small hl)
              | none =>
                by_cases hX : byteAt s (p + 1) = 120
                · exact ref_part_x s p q w hs h hc h92 h1 hX
                · by_cases hZ : byteAt s (p + 1) = 122
                  · exact ref_part_z s p q w hs h hc h92 h1 hZ
                  · by_cases hU : byteAt s (p + 1) = 117
                    · cases hi : isB s (p + 2) 123 with
                      | true =>
                        rcases Nat.lt_or_ge (runN 16 s.size (s.data.toList.drop (p + 3)) 0).1 2147483648 with hv | hv
                        · exact ref_part_u s p q w hs h hc h92 h1 hU hi hv
                        · exact ref_part_far s p q w hs h hc h92 h1 hU hi hv
                      | false => exact ref_part_numu s p q w hs h hc h92 h1 hb hl hX hZ hU hi
                    · exact ref_part_num s p q w hs h hc h92 h1 hb hl hX hZ hU
        · exact ref_part_last s p q w hs h hc h92 (by omega)
      · exact ref_part_plain s p q w hs h hc h92
  · exact ref_part_end s p q w (by omega)

end Go.Proofs.YtajeghkmgcpgiaaGreatDoor
