/-
  twinstepref04.quoted, by contract.
-/
import Derived.Test.YtajeghkmgcpgiaaGreatDoorLexA
import Derived.Test.YtajeghkmgcpgiaaGreatDoorTextsC
import Derived.Deep.LoopGhost
namespace Go.Proofs.YtajeghkmgcpgiaaGreatDoor.Lex
open Go.RowKit

theorem quote_cons (q st : Nat) (c : UInt8) (r : List UInt8) : quoteK q st (c :: r) =
    if st = 92 then (if lfB c.toNat = true then (quoteK q c.toNat r).map (· + 1) else if c.toNat = 122 then (quoteK q 122 r).map (· + 1) else (quoteK q 0 r).map (· + 1))
    else if lfB st = true ∧ st + c.toNat = 23 then (quoteK q 0 r).map (· + 1)
    else if st = 122 ∧ spaceB c.toNat = true then (quoteK q 122 r).map (· + 1)
    else if c.toNat = q then some 1
    else if lfB c.toNat = true then none
    else if c.toNat = 92 then (quoteK q 92 r).map (· + 1)
    else (quoteK q 0 r).map (· + 1) := rfl
/-- A state that changes nothing here is as none. -/
theorem quote_same {q st : Nat} {l : List UInt8} (h92 : st ≠ 92) (h1 : ∀ c r, l = c :: r → ¬ (lfB st = true ∧ st + c.toNat = 23)) (h2 : ∀ c r, l = c :: r → ¬ (st = 122 ∧ spaceB c.toNat = true)) : quoteK q st l = quoteK q 0 l := by
  cases l with
  | nil => rfl
  | cons c r =>
    have g1 := h1 c r rfl
    have g2 := h2 c r rfl
    rw [quote_cons, quote_cons, if_neg h92, if_neg g1, if_neg g2, if_neg (show ¬ (0 : Nat) = 92 by decide), if_neg (show ¬ (lfB 0 = true ∧ 0 + c.toNat = 23) from fun g => by simp [lfB] at g), if_neg (show ¬ ((0 : Nat) = 122 ∧ spaceB c.toNat = true) from fun g => by omega)]
theorem quote_zero {q : Nat} {c : UInt8} {r : List UInt8} : quoteK q 0 (c :: r) =
    if c.toNat = q then some 1 else if lfB c.toNat = true then none else if c.toNat = 92 then (quoteK q 92 r).map (· + 1) else (quoteK q 0 r).map (· + 1) := by
  rw [quote_cons, if_neg (show ¬ (0 : Nat) = 92 by decide), if_neg (show ¬ (lfB 0 = true ∧ 0 + c.toNat = 23) from fun g => by simp [lfB] at g), if_neg (show ¬ ((0 : Nat) = 122 ∧ spaceB c.toNat = true) from fun g => by omega)]
theorem quote_blanks (q : Nat) : ∀ l : List UInt8, quoteK q 122 l = (quoteK q 0 (l.drop (blanks l))).map (· + blanks l)
  | [] => rfl
  | c :: r => by
    have ih := quote_blanks q r
    cases hs : spaceB c.toNat
    · rw [quote_same (by decide) (fun _ _ _ g => by simp [lfB] at g) (fun c' r' e g => by injection e with e1 e2; rw [← e1, hs] at g; exact absurd g.2 (by decide))]
      have hb : blanks (c :: r) = 0 := by rw [blanks]; exact if_neg (by show ¬ spaceB c.toNat = true; rw [hs]; decide)
      rw [hb, List.drop_zero]
      simp
    · have hb : blanks (c :: r) = blanks r + 1 := by rw [blanks]; exact if_pos (by show spaceB c.toNat = true; exact hs)
      rw [quote_cons, if_neg (by decide), if_neg (fun g => by simp [lfB] at g), if_pos ⟨rfl, hs⟩, ih, hb, List.drop_succ_cons, Option.map_map]
      congr 1
theorem quote_back {q : Nat} {l : List UInt8} (h : endK l = 0) (hz : hd l ≠ 122) : quoteK q 92 l = (quoteK q 0 (l.drop 1)).map (· + 1) := by
  cases l with
  | nil => rfl
  | cons c r =>
    have : lfB c.toNat = false := by
      cases hl : lfB c.toNat
      · rfl
      · rw [endK, if_pos hl] at h; split at h <;> omega
    rw [quote_cons, if_pos rfl, if_neg (by rw [this]; decide), if_neg (show ¬ c.toNat = 122 from hz), List.drop_one, List.tail_cons]
theorem quote_back_z {q : Nat} {l : List UInt8} (hz : hd l = 122) : quoteK q 92 l = (quoteK q 0 ((l.drop 1).drop (blanks (l.drop 1)))).map (· + (1 + blanks (l.drop 1))) := by
  cases l with
  | nil => cases hz
  | cons c r =>
    have hc : c.toNat = 122 := hz
    rw [quote_cons, if_pos rfl, if_neg (by rw [hc]; decide), if_pos hc, quote_blanks, Option.map_map, List.drop_one, List.tail_cons]
    congr 1
    funext x
    simp only [Function.comp_apply]; omega
theorem quote_back_one {q : Nat} {l : List UInt8} (h : endK l = 1) : quoteK q 92 l = (quoteK q 0 (l.drop 1)).map (· + 1) := by
  cases l with
  | nil => cases h
  | cons c r =>
    rw [endK] at h
    cases hl : lfB c.toNat
    · rw [hl] at h; simp at h
    · rw [if_pos hl] at h
      have hc := lf_is.1 hl
      cases hs : startsWith (23 - c.toNat) r
      · rw [quote_cons, if_pos rfl, if_pos hl, quote_same (by omega) (fun c' r' e g => ?_) (fun c' r' e g => by omega), List.drop_one, List.tail_cons]
        subst e
        rw [startsWith] at hs
        have : c'.toNat ≠ 23 - c.toNat := by simpa using hs
        omega
      · rw [hs, if_pos rfl] at h; omega
theorem quote_back_two {q : Nat} {l : List UInt8} (h : endK l = 2) : quoteK q 92 l = (quoteK q 0 (l.drop 2)).map (· + 2) := by
  cases l with
  | nil => cases h
  | cons c r =>
    rw [endK] at h
    cases hl : lfB c.toNat
    · rw [hl] at h; simp at h
    · rw [if_pos hl] at h
      have hc := lf_is.1 hl
      cases hs : startsWith (23 - c.toNat) r
      · rw [hs] at h; simp at h
      · cases r with
        | nil => cases hs
        | cons d r =>
          have hd' : d.toNat = 23 - c.toNat := by rw [startsWith] at hs; simpa using hs
          rw [quote_cons, if_pos rfl, if_pos hl, quote_cons, if_neg (by omega), if_pos ⟨hl, by omega⟩, Option.map_map]
          rfl

theorem lf_head {l : List UInt8} (h : endK l ≠ 0) : hd l = 10 ∨ hd l = 13 := by
  rw [endK_eq] at h
  cases hl : lfB (hd l)
  · rw [hl] at h; simp at h
  · exact lf_is.1 hl
theorem lf_room {s : ByteArray} {p k : Nat} (h : endK (s.data.toList.drop p) = k) : k = 0 ∨ p + k ≤ s.size := by
  have hl : s.data.toList.length = s.size := rfl
  by_cases hlt : p < s.size
  · have h2 := endK_le (s.data.toList.drop p)
    rcases (show k = 0 ∨ k = 1 ∨ k = 2 from by omega) with rfl | rfl | rfl
    · exact .inl rfl
    · exact .inr (by omega)
    · obtain ⟨c, e, hd'⟩ := drop_at s p hlt
      rw [hd'] at h
      obtain ⟨_, hne⟩ := lines_two h
      have : (s.data.toList.drop (p + 1)).length ≠ 0 := fun h => hne (List.eq_nil_of_length_eq_zero h)
      rw [List.length_drop] at this
      exact .inr (by omega)
  · rw [List.drop_of_length_le (show s.data.toList.length ≤ p by omega)] at h
    exact .inl h.symm
theorem back_map {X Y Z : Option Nat} {d : Nat} (h : X = Y.map (· + 1)) (h' : Y = Z.map (· + d)) : X = Z.map (· + (d + 1)) := by
  rw [h, h', Option.map_map]; rfl

def quoteN (q : Nat) (l : List UInt8) : Nat := match quoteK q 0 l with | some n => n + 1 | none => 0

/-- What stands ahead of place p of a literal that begins at i. -/
structure QAt (s : ByteArray) (q i p : Nat) : Prop where
  ge : i + 1 ≤ p
  le : p ≤ s.size + 1
  says : quoteK q 0 (s.data.toList.drop (i + 1)) = (quoteK q 0 (s.data.toList.drop p)).map (· + (p - (i + 1)))
theorem QAt.more {s : ByteArray} {q i p d : Nat} (h : QAt s q i p) (hs : quoteK q 0 (s.data.toList.drop p) = (quoteK q 0 (s.data.toList.drop (p + d))).map (· + d)) (hl : p + d ≤ s.size + 1) : QAt s q i (p + d) := by
  have hg := h.ge
  refine ⟨by omega, hl, ?_⟩
  rw [h.says, hs, Option.map_map]
  congr 1
  funext x
  simp only [Function.comp_apply]; omega
theorem QAt.none {s : ByteArray} {q i p : Nat} (h : QAt s q i p) (hs : quoteK q 0 (s.data.toList.drop p) = Option.none) : quoteN q (s.data.toList.drop (i + 1)) = 0 := by
  unfold quoteN; rw [h.says, hs]; rfl
theorem QAt.some {s : ByteArray} {q i p : Nat} (h : QAt s q i p) (hs : quoteK q 0 (s.data.toList.drop p) = Option.some 1) : quoteN q (s.data.toList.drop (i + 1)) = p + 1 - i := by
  have hg := h.ge
  unfold quoteN; rw [h.says, hs]
  simp only [Option.map_some]; omega

def QSays (n : Nat) (w : World) (e : Ending) (w' : World) : Prop := e = .returned (.int .i64 n) ∧ Below w.heap.size w w'
theorem q_says {n : Nat} {x : Int} {w w' : World} (h : x = n) (hb : Below w.heap.size w w') : QSays n w (.returned (.int .i64 x)) w' := by subst h; exact ⟨rfl, hb⟩

set_option maxHeartbeats 4000000 in
set_option maxRecDepth 100000 in
theorem ref_quoted (s : ByteArray) (i : Nat) (w : World) (hs : s.size ≤ 100000000) (hi : i < s.size) :
    Calls Tryz.prog 55 #[.string s, .int .i64 i] w (QSays (quoteN (byteAt s i) (s.data.toList.drop (i + 1))) w) := by
  have hxi := run_index_at (P := Tryz.prog) 9 s (i : Int) i Tryz.underlying9 hi rfl
  have hi' : (i : Int) < s.size := by omega
  have h0 : QAt s (byteAt s i) i (i + 1) := ⟨Nat.le_refl _, by omega, by rw [Nat.sub_self]; simp⟩
  have H0 := Lib.hid h0
  clear h0
  generalize byteAt s i = q at *
  go_enter Tryz.func55, Tryz.ntmps55
  go_wp2
  go_loopw [5] (fun k wr => ∃ p : Nat, k = .int .i64 p ∧ QAt s q i p ∧ Below w.heap.size w wr) (fun k _ => s.size + 1 - (intOf k).toNat)
  case atStart => exact ⟨i + 1, by go_num, H0.out, Below.refl _ _⟩
  case round =>
    obtain ⟨p, rfl, hq, hb⟩ := hrel
    have hp1 := hq.ge
    have hp2 := hq.le
    have HQ := Lib.hid hq
    have HB := Lib.hid hb
    clear hq hb
    by_cases hlt : p < s.size
    · have hlt' : (p : Int) < s.size := by omega
      have hx := run_index_at (P := Tryz.prog) 9 s (p : Int) p Tryz.underlying9 hlt rfl
      obtain ⟨ch, ec, hl⟩ := drop_at s p hlt
      have hz := quote_zero (q := q) (c := ch) (r := s.data.toList.drop (p + 1))
      rw [← hl, ec] at hz
      by_cases hbq : byteAt s p = q
      · have t1 : (((byteAt s p : Nat) : Int) == (q : Int)) = true := by rw [beq_iff_eq]; omega
        have HR := Lib.hid (HQ.out.some (by rw [hz, if_pos hbq]))
        clear hz hl ec hbq
        generalize byteAt s p = b at *
        go_wp2
        go_quiet (fail)
        have HB2 := Lib.hid (below_drewN HB.out nq)
        go_wp2
        go_ret
        exact q_says (by rw [HR.out]; omega) HB2.out
      · have t1 : (((byteAt s p : Nat) : Int) == (q : Int)) = false := by rw [beq_eq_false_iff_ne]; omega
        rw [if_neg hbq] at hz
        by_cases hln : byteAt s p = 10 ∨ byteAt s p = 13
        · have HR := Lib.hid (HQ.out.none (by rw [hz, if_pos (lf_is.2 hln)]))
          clear hz hl ec hbq
          generalize byteAt s p = b at *
          rcases hln with hln | hln
          · have t2 : ((b : Int) == 10) = true := by rw [hln]; rfl
            clear hln
            go_wp2
            go_quiet (fail)
            have HB2 := Lib.hid (below_drewN HB.out nq)
            go_wp2
            go_ret
            exact q_says (by rw [HR.out]; rfl) HB2.out
          · have t2 : ((b : Int) == 10) = false := by rw [hln]; rfl
            have t3 : ((b : Int) == 13) = true := by rw [hln]; rfl
            clear hln
            go_wp2
            go_quiet (fail)
            have HB2 := Lib.hid (below_drewN HB.out nq)
            go_wp2
            go_ret
            exact q_says (by rw [HR.out]; rfl) HB2.out
        · have t2 : (((byteAt s p : Nat) : Int) == 10) = false := by rw [beq_eq_false_iff_ne]; omega
          have t3 : (((byteAt s p : Nat) : Int) == 13) = false := by rw [beq_eq_false_iff_ne]; omega
          rw [if_neg (by rw [lf_is]; exact hln)] at hz
          by_cases h92 : byteAt s p = 92
          · have t4 : (((byteAt s p : Nat) : Int) != 92) = false := by rw [h92]; rfl
            rw [if_pos h92] at hz
            have ce := fun w => ref_ending s (p + 1) w (by omega)
            have ca := fun w => ref_at s (p + 1) w
            rw [show ((p + 1 : Nat) : Int) = (p : Int) + 1 from by omega] at ce ca
            have h2 := endK_le (s.data.toList.drop (p + 1))
            clear hl ec hbq hln h92
            generalize byteAt s p = b at *
            have hd1 : (s.data.toList.drop (p + 1)).drop 1 = s.data.toList.drop (p + 2) := by rw [List.drop_drop]
            have hd2 : (s.data.toList.drop (p + 1)).drop 2 = s.data.toList.drop (p + 3) := by rw [List.drop_drop]
            rcases (show endK (s.data.toList.drop (p + 1)) = 0 ∨ endK (s.data.toList.drop (p + 1)) = 1 ∨ endK (s.data.toList.drop (p + 1)) = 2 from by omega) with he | he | he
            · rw [he] at ce
              by_cases hzz : hd (s.data.toList.drop (p + 1)) = 122
              · have hB := back_map hz (quote_back_z hzz)
                rw [hd1, List.drop_drop] at hB
                rw [hzz] at ca
                have hlt3 : p + 1 < s.size := by
                  refine Nat.lt_of_not_le fun h => ?_
                  rw [hd_end h] at hzz; omega
                have HB1 := Lib.hid hB
                clear hz hd1 hd2 he hzz hB
                go_wp2
                go_quiet (fail)
                have HB2 := Lib.hid (below_drewN HB.out nq)
                generalize wr.drewN nq = wq at *
                go_wp2_with fail
                refine (ce _).mono ?_
                rintro e w1 ⟨rfl, rfl⟩
                go_wp2_with fail
                refine (ca _).mono ?_
                rintro e w1 ⟨rfl, rfl⟩
                go_wp2_with fail
                go_loop [6] (fun n => ∃ m : Nat, n = .int .i64 ((1 : Int) + m) ∧ p + 2 + m ≤ s.size ∧ m + blanks (s.data.toList.drop (p + 2 + m)) = blanks (s.data.toList.drop (p + 2))) (fun n => s.size + 1 - (intOf n).toNat)
                case atStart => exact ⟨0, by congr 1, by omega, by rw [Nat.add_zero, Nat.zero_add]⟩
                case round =>
                  obtain ⟨m, rfl, hm, hbl⟩ := hrel
                  by_cases hlt4 : p + 2 + m < s.size
                  · have hlt4' : (p : Int) + 1 + (1 + m) < s.size := by omega
                    have hxm := run_index_at (P := Tryz.prog) 9 s ((p : Int) + 1 + (1 + m)) (p + 2 + m) Tryz.underlying9 hlt4 (by omega)
                    have cs := fun w => ref_space (byteAt s (p + 2 + m)) w (byteAt_lt s _)
                    have hyes := blanks_yes hlt4
                    have hno := blanks_no hlt4
                    generalize byteAt s (p + 2 + m) = u at *
                    cases hsp : spaceB u
                    · have HN := Lib.hid (show m = blanks (s.data.toList.drop (p + 2)) by rw [← hbl, hno hsp, Nat.add_zero])
                      rw [hsp] at cs
                      clear hyes hno hsp hbl
                      go_wp2_with fail
                      refine (cs _).mono ?_
                      rintro e w1 ⟨rfl, rfl⟩
                      go_wp2_with fail
                      go_roundw
                      case rel => exact ⟨p + (1 + blanks (s.data.toList.drop (p + 2)) + 1), by rw [← HN.out]; congr 1 <;> omega, HQ.out.more (by rw [HB1.out, show p + (1 + blanks (s.data.toList.drop (p + 2)) + 1) = p + 2 + blanks (s.data.toList.drop (p + 2)) from by omega]) (by rw [← HN.out]; omega), HB2.out⟩
                      case measure => simp only [intOf]; omega
                    · have HN := Lib.hid (show (m + 1) + blanks (s.data.toList.drop (p + 2 + (m + 1))) = blanks (s.data.toList.drop (p + 2)) by rw [← hbl, hyes hsp, show p + 2 + m + 1 = p + 2 + (m + 1) from rfl]; omega)
                      rw [hsp] at cs
                      clear hyes hno hsp hbl
                      go_wp2_with fail
                      refine (cs _).mono ?_
                      rintro e w1 ⟨rfl, rfl⟩
                      go_wp2_with fail
                      go_round
                      case rel => exact ⟨m + 1, by congr 1 <;> omega, by omega, HN.out⟩
                      case measure => simp only [intOf]; omega
                  · have hlt4' : ¬ (p : Int) + 1 + (1 + m) < s.size := by omega
                    have HN := Lib.hid (show m = blanks (s.data.toList.drop (p + 2)) by rw [← hbl, blanks_end (by omega), Nat.add_zero])
                    clear hbl
                    go_wp2_with fail
                    go_roundw
                    case rel => exact ⟨p + (1 + blanks (s.data.toList.drop (p + 2)) + 1), by rw [← HN.out]; congr 1 <;> omega, HQ.out.more (by rw [HB1.out, show p + (1 + blanks (s.data.toList.drop (p + 2)) + 1) = p + 2 + blanks (s.data.toList.drop (p + 2)) from by omega]) (by rw [← HN.out]; omega), HB2.out⟩
                    case measure => simp only [intOf]; omega
              · have hB := back_map hz (quote_back he hzz)
                rw [hd1] at hB
                have HM := Lib.hid (HQ.out.more (d := 2) hB (by omega))
                have t5 : (((hd (s.data.toList.drop (p + 1)) : Nat) : Int) == 122) = false := by rw [beq_eq_false_iff_ne]; omega
                clear hz hd1 hd2 he hzz hB
                generalize hd (s.data.toList.drop (p + 1)) = a at *
                go_wp2
                go_quiet (fail)
                have HB2 := Lib.hid (below_drewN HB.out nq)
                generalize wr.drewN nq = wq at *
                go_wp2_with fail
                refine (ce _).mono ?_
                rintro e w1 ⟨rfl, rfl⟩
                go_wp2_with fail
                refine (ca _).mono ?_
                rintro e w1 ⟨rfl, rfl⟩
                go_wp2_with fail
                go_roundw
                case rel => exact ⟨p + 2, by congr 1 <;> omega, HM.out, HB2.out⟩
                case measure => simp only [intOf]; omega
            · rw [he] at ce
              have hB := back_map hz (quote_back_one he)
              rw [hd1] at hB
              have hle := lf_room he
              have HM := Lib.hid (HQ.out.more (d := 2) hB (by omega))
              have hlf := lf_head (by rw [he]; decide : endK (s.data.toList.drop (p + 1)) ≠ 0)
              have t5 : (((hd (s.data.toList.drop (p + 1)) : Nat) : Int) == 122) = false := by rw [beq_eq_false_iff_ne]; omega
              clear hz hd1 hd2 he hB hlf
              generalize hd (s.data.toList.drop (p + 1)) = a at *
              go_wp2
              go_quiet (fail)
              have HB2 := Lib.hid (below_drewN HB.out nq)
              generalize wr.drewN nq = wq at *
              go_wp2_with fail
              refine (ce _).mono ?_
              rintro e w1 ⟨rfl, rfl⟩
              go_wp2_with fail
              refine (ca _).mono ?_
              rintro e w1 ⟨rfl, rfl⟩
              go_wp2_with fail
              go_roundw
              case rel => exact ⟨p + 2, by congr 1 <;> omega, HM.out, HB2.out⟩
              case measure => simp only [intOf]; omega
            · rw [he] at ce
              have hB := back_map hz (quote_back_two he)
              rw [hd2] at hB
              have hle := lf_room he
              have HM := Lib.hid (HQ.out.more (d := 3) hB (by omega))
              have hlf := lf_head (by rw [he]; decide : endK (s.data.toList.drop (p + 1)) ≠ 0)
              have t5 : (((hd (s.data.toList.drop (p + 1)) : Nat) : Int) == 122) = false := by rw [beq_eq_false_iff_ne]; omega
              clear hz hd1 hd2 he hB hlf
              generalize hd (s.data.toList.drop (p + 1)) = a at *
              go_wp2
              go_quiet (fail)
              have HB2 := Lib.hid (below_drewN HB.out nq)
              generalize wr.drewN nq = wq at *
              go_wp2_with fail
              refine (ce _).mono ?_
              rintro e w1 ⟨rfl, rfl⟩
              go_wp2_with fail
              refine (ca _).mono ?_
              rintro e w1 ⟨rfl, rfl⟩
              go_wp2_with fail
              go_roundw
              case rel => exact ⟨p + 3, by congr 1 <;> omega, HM.out, HB2.out⟩
              case measure => simp only [intOf]; omega
          · have t4 : (((byteAt s p : Nat) : Int) != 92) = true := by rw [bne_iff_ne]; omega
            rw [if_neg h92] at hz
            have HM := Lib.hid (HQ.out.more (d := 1) hz (by omega))
            clear hz hl ec hbq hln h92
            generalize byteAt s p = b at *
            go_wp2
            go_quiet (fail)
            have HB2 := Lib.hid (below_drewN HB.out nq)
            go_wp2
            go_roundw
            case rel => exact ⟨p + 1, by go_num, HM.out, HB2.out⟩
            case measure => simp only [intOf]; omega
    · have HR := Lib.hid (HQ.out.none (by rw [List.drop_of_length_le (show s.data.toList.length ≤ p from Nat.le_of_not_lt hlt)]; rfl))
      have hlt' : ¬ (p : Int) < s.size := by omega
      go_wp2
      go_ret
      exact q_says (by rw [HR.out]; rfl) HB.out

end Go.Proofs.YtajeghkmgcpgiaaGreatDoor.Lex
