/-
  twinstepref04: at, starts, ending, Lines, by contracts.
-/
import Derived.Test.YtajeghkmgcpgiaaGreatDoorLexMath
import Derived.Deep.QuietTactic
import Derived.BigQuiet
namespace Go.Proofs.YtajeghkmgcpgiaaGreatDoor.Lex
open Go.RowKit

theorem hd_at {s : ByteArray} {i : Nat} (h : i < s.size) : hd (s.data.toList.drop i) = byteAt s i := by
  obtain ⟨c, e, hl⟩ := drop_at s i h
  rw [hl]; exact e
theorem hd_end {s : ByteArray} {i : Nat} (h : s.size ≤ i) : hd (s.data.toList.drop i) = 0 := by
  rw [List.drop_of_length_le (show s.data.toList.length ≤ i from h)]; rfl
theorem hd_lt (l : List UInt8) : hd l < 256 := by
  cases l with
  | nil => exact Nat.zero_lt_succ _
  | cons c r => exact c.toNat_lt
theorem next_hd (s : ByteArray) (i : Nat) : (s.data.toList.drop i).drop 1 = s.data.toList.drop (i + 1) := by rw [List.drop_drop]

set_option maxHeartbeats 400000 in
theorem ref_at (s : ByteArray) (i : Nat) (w : World) :
    Calls Tryz.prog 51 #[.string s, .int .i64 i] w fun e w' => e = .returned (.int .u8 (hd (s.data.toList.drop i) : Nat)) ∧ w = w' := by
  by_cases h : i < s.size
  · have h' : ¬ (s.size : Int) ≤ i := by omega
    have hx := run_index_at (P := Tryz.prog) 9 s (i : Int) i Tryz.underlying9 h rfl
    rw [hd_at h]
    go_enter Tryz.func51, Tryz.ntmps51
    go_wp2
    go_ret
    exact ⟨rfl, rfl⟩
  · have h' : (s.size : Int) ≤ i := by omega
    rw [hd_end (by omega)]
    go_enter Tryz.func51, Tryz.ntmps51
    go_wp2
    go_ret
    exact ⟨rfl, rfl⟩

/-- Does a text stand at a place? -/
def startsAt (s t : ByteArray) (i : Nat) : Bool := t.data.toList.isPrefixOf (s.data.toList.drop i)
theorem starts_room {s t : ByteArray} {i : Nat} (h : s.size < i + t.size) (hi : i ≤ s.size) : startsAt s t i = false := by
  cases ho : startsAt s t i
  · rfl
  · have := Lib.occAt_room (s := s.data.toList) (sub := t.data.toList) (i := i) ho
    have hl : s.data.toList.length = s.size := rfl
    have ht : t.data.toList.length = t.size := rfl
    rcases this with g | g
    · omega
    · rw [g] at ht; simp at ht; omega

set_option maxHeartbeats 400000 in
theorem ref_starts (s t : ByteArray) (i : Nat) (w : World) (hs : s.size ≤ 1000000000) (ht : t.size ≤ 1000000000) (hi : i ≤ s.size) :
    Calls Tryz.prog 48 #[.string s, .int .i64 i, .string t] w fun e w' => e = .returned (.bool (startsAt s t i)) ∧ w = w' := by
  by_cases h : i + t.size ≤ s.size
  · have h' : (i : Int) + t.size ≤ s.size := by omega
    have hx := run_slice_at (P := Tryz.prog) 9 s (i : Int) ((i : Int) + t.size) i (i + t.size) Tryz.underlying9 (by omega) h rfl (by omega)
    have ho : ((s.extract i (i + t.size)).toList == t.toList) = startsAt s t i := occ_extract h
    generalize s.extract i (i + t.size) = m at *
    generalize startsAt s t i = x at *
    go_enter Tryz.func48, Tryz.ntmps48
    go_wp2
    go_ret
    exact ⟨rfl, rfl⟩
  · have h' : ¬ (i : Int) + t.size ≤ s.size := by omega
    rw [starts_room (by omega) hi]
    go_enter Tryz.func48, Tryz.ntmps48
    go_wp2
    go_ret
    exact ⟨rfl, rfl⟩

/-! ### ending -/
theorem endK_eq (l : List UInt8) : endK l = if lfB (hd l) = true then (if hd (l.drop 1) = 23 - hd l then 2 else 1) else 0 := by
  cases l with
  | nil => rfl
  | cons c r =>
    show (if lfB c.toNat = true then (if startsWith (23 - c.toNat) r = true then 2 else 1) else 0) = if lfB c.toNat = true then (if hd r = 23 - c.toNat then 2 else 1) else 0
    cases hl : lfB c.toNat
    · rfl
    · have hc : c.toNat = 10 ∨ c.toNat = 13 := by unfold lfB at hl; simpa using hl
      simp only [if_true]
      cases r with
      | nil =>
        rw [show startsWith (23 - c.toNat) [] = false from rfl, show hd [] = 0 from rfl, if_neg (by decide), if_neg (by omega)]
      | cons d r' =>
        rw [show startsWith (23 - c.toNat) (d :: r') = decide (d.toNat = 23 - c.toNat) from rfl, show hd (d :: r') = d.toNat from rfl]
        by_cases g : d.toNat = 23 - c.toNat
        · rw [if_pos g, decide_eq_true g, if_pos rfl]
        · rw [if_neg g, decide_eq_false g, if_neg (by decide)]
theorem lf_is {b : Nat} : lfB b = true ↔ b = 10 ∨ b = 13 := by unfold lfB; simp

set_option maxHeartbeats 1000000 in
theorem ref_ending (s : ByteArray) (i : Nat) (w : World) (hi : i ≤ 1000000000) :
    Calls Tryz.prog 47 #[.string s, .int .i64 i] w fun e w' => e = .returned (.int .i64 (endK (s.data.toList.drop i) : Nat)) ∧ w = w' := by
  have c1 := fun w => ref_at s i w
  have c2 := fun w => ref_at s (i + 1) w
  rw [show ((i + 1 : Nat) : Int) = (i : Int) + 1 from by omega] at c2
  have he := endK_eq (s.data.toList.drop i)
  rw [next_hd] at he
  have ha := hd_lt (s.data.toList.drop i)
  have hb := hd_lt (s.data.toList.drop (i + 1))
  rw [he]
  clear he
  generalize hd (s.data.toList.drop i) = a at *
  generalize hd (s.data.toList.drop (i + 1)) = b at *
  by_cases h : a = 10 ∨ a = 13
  · rcases h with rfl | rfl
    · rw [if_pos (by decide)]
      by_cases ho : b = 13
      · subst ho
        rw [if_pos rfl]
        go_enter Tryz.func47, Tryz.ntmps47
        go_wp2_with (go_at_call 51; first | ((with_reducible refine (c1 _).mono ?_); rintro e w1 ⟨rfl, rfl⟩) | ((with_reducible refine (c2 _).mono ?_); rintro e w1 ⟨rfl, rfl⟩))
        go_ret
        exact ⟨rfl, rfl⟩
      · have e1 : ((10 + (b : Int)) % 256 == 23) = false := by rw [beq_eq_false_iff_ne]; omega
        have e2 : (IntKind.u8.wrap (10 + (b : Int)) == 23) = false := by rw [beq_eq_false_iff_ne, IntKind.wrap_u8]; omega
        rw [if_neg ho]
        clear ho
        go_enter Tryz.func47, Tryz.ntmps47
        go_wp2_with (go_at_call 51; first | ((with_reducible refine (c1 _).mono ?_); rintro e w1 ⟨rfl, rfl⟩) | ((with_reducible refine (c2 _).mono ?_); rintro e w1 ⟨rfl, rfl⟩))
        go_ret
        exact ⟨rfl, rfl⟩
    · rw [if_pos (by decide)]
      by_cases ho : b = 10
      · subst ho
        rw [if_pos rfl]
        go_enter Tryz.func47, Tryz.ntmps47
        go_wp2_with (go_at_call 51; first | ((with_reducible refine (c1 _).mono ?_); rintro e w1 ⟨rfl, rfl⟩) | ((with_reducible refine (c2 _).mono ?_); rintro e w1 ⟨rfl, rfl⟩))
        go_ret
        exact ⟨rfl, rfl⟩
      · have e1 : ((13 + (b : Int)) % 256 == 23) = false := by rw [beq_eq_false_iff_ne]; omega
        have e2 : (IntKind.u8.wrap (13 + (b : Int)) == 23) = false := by rw [beq_eq_false_iff_ne, IntKind.wrap_u8]; omega
        rw [if_neg ho]
        clear ho
        go_enter Tryz.func47, Tryz.ntmps47
        go_wp2_with (go_at_call 51; first | ((with_reducible refine (c1 _).mono ?_); rintro e w1 ⟨rfl, rfl⟩) | ((with_reducible refine (c2 _).mono ?_); rintro e w1 ⟨rfl, rfl⟩))
        go_ret
        exact ⟨rfl, rfl⟩
  · have t1 : ((a : Int) != 10) = true := by rw [bne_iff_ne]; omega
    have t2 : ((a : Int) != 13) = true := by rw [bne_iff_ne]; omega
    rw [if_neg (by rw [lf_is]; exact h)]
    clear h
    go_enter Tryz.func47, Tryz.ntmps47
    go_wp2_with fail
    refine (c1 _).mono ?_
    rintro e w1 ⟨rfl, rfl⟩
    go_wp2_with fail
    refine (c1 _).mono ?_
    rintro e w1 ⟨rfl, rfl⟩
    go_wp2
    go_ret
    exact ⟨rfl, rfl⟩

/-! ### Lines -/
theorem lines_no {c : UInt8} {r : List UInt8} (h : endK (c :: r) = 0) : linesOf (c :: r) = linesOf r := by
  have : lfB c.toNat = false := by
    cases hl : lfB c.toNat
    · rfl
    · rw [endK, if_pos hl] at h; split at h <;> omega
  unfold linesOf
  rw [linesF, if_neg (by rw [this]; decide)]
theorem lines_after {c : UInt8} {r : List UInt8} (hc : lfB c.toNat = true) (h : startsWith (23 - c.toNat) r = false) : linesF c.toNat r = linesF 0 r := by
  have hc' := lf_is.1 hc
  cases r with
  | nil => rfl
  | cons d r =>
    rw [linesF, linesF]
    rw [startsWith] at h
    have hd' : d.toNat ≠ 23 - c.toNat := by simpa using h
    cases hl : lfB d.toNat
    · rw [if_neg (by decide), if_neg (by decide)]
    · have := lf_is.1 hl
      rw [if_pos rfl, if_pos rfl, if_neg (by omega), if_neg (by omega)]
theorem lines_one {c : UInt8} {r : List UInt8} (h : endK (c :: r) = 1) : linesOf (c :: r) = 1 + linesOf r := by
  rw [endK] at h
  cases hl : lfB c.toNat
  · rw [hl] at h; simp at h
  · rw [if_pos hl] at h
    cases hs : startsWith (23 - c.toNat) r
    · have := lf_is.1 hl
      unfold linesOf
      rw [linesF, if_pos hl, if_neg (by omega), lines_after hl hs, Nat.add_comm]
    · rw [hs, if_pos rfl] at h; omega
theorem lines_two {c : UInt8} {r : List UInt8} (h : endK (c :: r) = 2) : linesOf (c :: r) = 1 + linesOf (r.drop 1) ∧ r ≠ [] := by
  rw [endK] at h
  cases hl : lfB c.toNat
  · rw [hl] at h; simp at h
  · rw [if_pos hl] at h
    cases hs : startsWith (23 - c.toNat) r
    · rw [hs] at h; simp at h
    · cases r with
      | nil => cases hs
      | cons d r =>
        have hc := lf_is.1 hl
        have hd' : d.toNat = 23 - c.toNat := by rw [startsWith] at hs; simpa using hs
        have hdl : lfB d.toNat = true := lf_is.2 (by omega)
        refine ⟨?_, by simp⟩
        unfold linesOf
        rw [linesF, if_pos hl, if_neg (by omega), linesF, if_pos hdl, if_pos (by omega), List.drop_one, List.tail_cons, Nat.add_comm]
theorem endK_le (l : List UInt8) : endK l ≤ 2 := by rw [endK_eq]; split; · split <;> omega
                                                    omega

set_option maxHeartbeats 1000000 in
theorem ref_lines (s : ByteArray) (w : World) (hs : s.size ≤ 1000000000) :
    Calls Tryz.prog 26 #[.string s] w fun e w' => e = .returned (.int .i64 (linesOf s.data.toList : Nat)) ∧ w = w' := by
  go_enter Tryz.func26, Tryz.ntmps26
  go_wp2
  go_loop [3, 4] (fun n i => ∃ k m : Nat, k ≤ s.size ∧ m ≤ k ∧ i = .int .i64 k ∧ n = .int .i64 m ∧ m + linesOf (s.data.toList.drop k) = linesOf s.data.toList) (fun _ i => s.size - (intOf i).toNat)
  case atStart => exact ⟨0, 0, by omega, by omega, rfl, rfl, by rw [List.drop_zero, Nat.zero_add]⟩
  case round =>
    obtain ⟨k, m, hk, hm, rfl, rfl, ha⟩ := hrel
    by_cases hlt : k < s.size
    · have hlt' : (k : Int) < s.size := by omega
      have c := ref_ending s k w (by omega)
      obtain ⟨ch, ec, hl⟩ := drop_at s k hlt
      have h2 := endK_le (s.data.toList.drop k)
      have hm9 : (m : Int) ≤ k := by omega
      rcases (show endK (s.data.toList.drop k) = 0 ∨ endK (s.data.toList.drop k) = 1 ∨ endK (s.data.toList.drop k) = 2 from by omega) with he | he | he
      · rw [he] at c
        rw [hl] at he
        have HA := Lib.hid (show m + linesOf (s.data.toList.drop (k + 1)) = linesOf s.data.toList by rw [← ha, hl, lines_no he])
        clear ha hl he h2 ec
        go_wp2_with fail
        refine c.mono ?_
        rintro e w1 ⟨rfl, rfl⟩
        go_wp2
        go_round
        case rel => exact ⟨k + 1, m, by omega, by omega, by go_num, rfl, HA.out⟩
        case measure => simp only [intOf]; omega
      · rw [he] at c
        rw [hl] at he
        have HA := Lib.hid (show (m + 1) + linesOf (s.data.toList.drop (k + 1)) = linesOf s.data.toList by rw [← ha, hl, lines_one he]; omega)
        clear ha hl he h2 ec
        go_wp2_with fail
        refine c.mono ?_
        rintro e w1 ⟨rfl, rfl⟩
        go_wp2
        go_round
        case rel => exact ⟨k + 1, m + 1, by omega, by omega, by go_num, by go_num, HA.out⟩
        case measure => simp only [intOf]; omega
      · rw [he] at c
        rw [hl] at he
        obtain ⟨hq, hne⟩ := lines_two he
        have HA := Lib.hid (show (m + 1) + linesOf (s.data.toList.drop (k + 2)) = linesOf s.data.toList by rw [← ha, hl, hq, List.drop_drop, show k + 1 + 1 = k + 2 from rfl]; omega)
        have hk2 : k + 2 ≤ s.size := by
          have : (s.data.toList.drop (k + 1)).length ≠ 0 := fun h => hne (List.eq_nil_of_length_eq_zero h)
          rw [List.length_drop] at this
          have hl : s.data.toList.length = s.size := rfl
          omega
        clear ha hl he h2 ec hq hne
        go_wp2_with fail
        refine c.mono ?_
        rintro e w1 ⟨rfl, rfl⟩
        go_wp2
        go_round
        case rel => exact ⟨k + 2, m + 1, by omega, by omega, by go_num, by go_num, HA.out⟩
        case measure => simp only [intOf]; omega
    · obtain rfl : k = s.size := by omega
      have HA := Lib.hid (show m = linesOf s.data.toList by rw [← ha, drop_end]; rfl)
      clear ha
      go_wp2
      go_ret
      exact ⟨ret_i64 (by rw [← HA.out]), rfl⟩

end Go.Proofs.YtajeghkmgcpgiaaGreatDoor.Lex
