/-
  Package ints: Parse at a text of one to three digits, by contract: it reads no variable of the library's.
-/
import Derived.Test.YtajeghkmgcpgiaaGreatDoorOwnNum
namespace Go.Proofs.YtajeghkmgcpgiaaGreatDoor.Num
open Go.RowKit

theorem whole_list (s : ByteArray) : (s.extract 0 s.size).data.toList = s.data.toList := by
  rw [Lib.extract_data, List.drop_zero, Nat.sub_zero]
  exact List.take_of_length_le (Nat.le_refl _)

theorem whole_text (s : ByteArray) : s.extract 0 s.size = s := by
  apply ByteArray.ext
  apply Array.ext'
  exact whole_list s

theorem digit_space {b : Nat} (h : 48 ≤ b ∧ b ≤ 57) : spaceB b = false := by unfold spaceB; rw [decide_eq_false (by omega)]

/-- strconv.ParseUint, where it says a number. -/
theorem uint_ok (s : ByteArray) (u : Nat) (w : World) (hs : s.size ≤ 1000000000) (h : Lib.parseMag s.data.toList = .ok u) :
    Calls Tryz.prog 110 #[.string s, .int .i64 10, .int .i64 64] w fun e w' => e = .returned (.tuple #[.int .u64 u, .nilIface]) ∧ Below w.heap.size w w' := by
  refine (Tryz.strconv_ParseUint_10_at64_ok s (by omega) u ((Lib.parseUintB_64 s.data.toList).trans h) w).mono ?_
  rintro e w' ⟨rfl, h'⟩
  refine ⟨rfl, ?_⟩
  rcases h' with rfl | rfl
  · exact Below.refl _ _
  · exact Lib.bytesWorld_below _ _ _

theorem sign_small {u : Nat} (h : u ≤ 999) : signN false u = u := by unfold signN wrap64; simp only [Bool.false_eq_true, if_false]; omega

set_option maxHeartbeats 1000000 in
theorem decimal_ok (s : ByteArray) (u : Nat) (w : World) (hs : s.size ≤ 1000000000) (h : Lib.parseMag s.data.toList = .ok u) (hu : u ≤ 999) :
    Calls Tryz.prog 88 #[.string s, .bool false] w fun e w' => e = .returned (.tuple #[.int .i64 u, .bool true]) ∧ Below w.heap.size w w' := by
  have c := uint_ok s u w hs h
  have hm : ¬ (9223372036854775807 : Int) < u := by omega
  have s1 := fun w => signed_any u false w
  rw [sign_small hu, show (u : Int) % 18446744073709551616 = u from by omega] at s1
  clear h
  go_enter Tryz.func88, Tryz.ntmps88
  go_wp2_with fail
  refine c.mono ?_
  rintro e w1 ⟨rfl, b1⟩
  have B1 := Lib.hid b1
  clear b1 c
  go_wp2_with fail
  refine (s1 _).mono ?_
  rintro e w2 ⟨rfl, rfl⟩
  go_wp2
  go_ret2
  exact ⟨rfl, B1.out⟩

set_option maxHeartbeats 4000000 in
theorem parse_digits (s : ByteArray) (u : Nat) (w : World) (h0 : 0 < s.size) (hs : s.size ≤ 3) (hd : ∀ k, k < s.size → 48 ≤ byteAt s k ∧ byteAt s k ≤ 57) (h : Lib.parseMag s.data.toList = .ok u) (hu : u ≤ 999) :
    Calls Tryz.prog 71 #[.string s] w fun e w' => e = .returned (.tuple #[.int .i64 u, .bool true]) ∧ Below w.heap.size w w' := by
  have d0 := hd 0 h0
  have d9 := hd (s.size - 1) (by omega)
  have cs0 := fun w => runes_space (byteAt s 0) w (byteAt_lt s 0)
  have cs9 := fun w => runes_space (byteAt s (s.size - 1)) w (byteAt_lt s _)
  rw [digit_space d0] at cs0
  rw [digit_space d9] at cs9
  have hn : negAt s 0 s.size = false := by unfold negAt; rw [decide_eq_false (p := byteAt s 0 = 45) (by omega), Bool.and_false]
  have hp : plusAt s 0 s.size = false := by unfold plusAt; rw [decide_eq_false (p := byteAt s 0 = 43) (by omega), Bool.and_false]
  have hx : lowX s 0 s.size = false := by
    unfold lowX
    by_cases g : 0 + 1 < s.size
    · have := hd (0 + 1) g
      rw [decide_eq_false (p := byteAt s 0 = 48 ∧ byteAt s (0 + 1) = 120) (by omega), Bool.and_false]
    · rw [decide_eq_false g, Bool.false_and]
  have hy : bigX s 0 s.size = false := by
    unfold bigX
    by_cases g : 0 + 1 < s.size
    · have := hd (0 + 1) g
      rw [decide_eq_false (p := byteAt s 0 = 48 ∧ byteAt s (0 + 1) = 88) (by omega), Bool.and_false]
    · rw [decide_eq_false g, Bool.false_and]
  have cn := fun w => prefix_neg s 0 s.size (Nat.le_refl _) w
  have co := fun w => prefix_plus s 0 s.size (Nat.le_refl _) w
  have cp := fun w => prefix_low s 0 s.size (Nat.le_refl _) w
  have cq := fun w => prefix_big s 0 s.size (Nat.le_refl _) w
  rw [hn, whole_text] at cn
  rw [hp, whole_text] at co
  rw [hx, whole_text] at cp
  rw [hy, whole_text] at cq
  have cd := fun w => decimal_ok s u w (by omega) h hu
  have he : s.toList.isEmpty = false := by
    have := part_empty (s := s) (i := 0) (Nat.le_refl _)
    rw [whole_text, decide_eq_false (by omega)] at this
    exact this
  have x0 := run_index_at (P := Tryz.prog) 9 s 0 0 Tryz.underlying9 h0 rfl
  have x9 := run_index_at (P := Tryz.prog) 9 s ((s.size : Int) - 1) (s.size - 1) Tryz.underlying9 (by omega) (by omega)
  generalize byteAt s 0 = a at *
  generalize byteAt s (s.size - 1) = z at *
  clear hn hp hx hy d0 d9 hd h
  go_enter Tryz.func71, Tryz.ntmps71
  go_upto_region 1 with fail
  go_cut [4, 5] (fun p q wx => ∃ g h : Nat, p = .pointer (some ⟨g, 0, none⟩) ∧ q = .pointer (some ⟨h, 0, none⟩) ∧ Boxes s w g h 0 s.size wx)
  case first =>
    go_region
    · go_wp2_with fail
      go_meet
      exact ⟨_, _, rfl, rfl, boxes_one s w s.size⟩
    · go_wp2_with fail
      go_meet
      exact ⟨_, _, rfl, rfl, boxes_two s w s.size⟩
  case rest =>
    obtain ⟨g, h, rfl, rfl, hb⟩ := hcut
    have c1 := cell_of_one hb.text
    have c2 := cell_of_one hb.lo
    have c3 := cell_of_one hb.hi
    have cl := left_any s w g h 0 s.size wc hb (Nat.zero_le _) (Nat.le_refl _)
    rw [whole_text] at cl
    have HB := Lib.hid hb
    clear hb
    go_wp2_with fail
    refine wp_loop_rounds 1 ?_
    rw [rounds_succ]
    go_wp2_with fail
    refine cl.mono ?_
    rintro e w1 ⟨rfl, rfl⟩
    go_wp2_with fail
    refine (cs0 _).mono ?_
    rintro e w1 ⟨rfl, rfl⟩
    go_wp2_with fail
    refine wp_loop_rounds 1 ?_
    rw [rounds_succ]
    go_wp2_with fail
    refine cl.mono ?_
    rintro e w1 ⟨rfl, rfl⟩
    go_wp2_with fail
    refine (cs9 _).mono ?_
    rintro e w1 ⟨rfl, rfl⟩
    go_wp2_with fail
    refine cl.mono ?_
    rintro e w1 ⟨rfl, rfl⟩
    go_wp2_with fail
    refine (cn _).mono ?_
    rintro e w1 ⟨rfl, rfl⟩
    go_wp2_with fail
    refine cl.mono ?_
    rintro e w1 ⟨rfl, rfl⟩
    go_wp2_with fail
    refine (co _).mono ?_
    rintro e w1 ⟨rfl, rfl⟩
    go_wp2_with fail
    refine cl.mono ?_
    rintro e w1 ⟨rfl, rfl⟩
    go_wp2_with fail
    refine (cp _).mono ?_
    rintro e w1 ⟨rfl, rfl⟩
    go_wp2_with fail
    refine cl.mono ?_
    rintro e w1 ⟨rfl, rfl⟩
    go_wp2_with fail
    refine (cq _).mono ?_
    rintro e w1 ⟨rfl, rfl⟩
    go_wp2_with fail
    refine cl.mono ?_
    rintro e w1 ⟨rfl, rfl⟩
    go_wp2_with fail
    refine (cd _).mono ?_
    rintro e w1 ⟨rfl, b1⟩
    have B1 := Lib.hid b1
    clear b1
    go_wp2
    go_ret2
    exact ⟨rfl, grew_trans HB.out.below B1.out⟩

end Go.Proofs.YtajeghkmgcpgiaaGreatDoor.Num
