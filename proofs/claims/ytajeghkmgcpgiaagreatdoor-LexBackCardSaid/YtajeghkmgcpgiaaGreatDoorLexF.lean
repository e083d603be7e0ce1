/-
  twinstepref04: number, note, by contracts.
-/
import Derived.Test.YtajeghkmgcpgiaaGreatDoorLexB
import Derived.Test.YtajeghkmgcpgiaaGreatDoorLexC
import Derived.Test.YtajeghkmgcpgiaaGreatDoorRefParse
namespace Go.Proofs.YtajeghkmgcpgiaaGreatDoor.Lex
open Go.RowKit

/-- Does a byte say that a numeral is no whole number? -/
def dotB (hex : Bool) (b : Nat) : Bool := decide (b = 46) || power hex b
def digsL (l : List UInt8) : Bool := l.all fun c => digitB c.toNat
def dotsL (hex : Bool) (l : List UInt8) : Bool := l.any fun c => dotB hex c.toNat
/-- A numeral's number, and its fault. -/
def numOk (s : ByteArray) : Bool := (Num.parseOf s).2 && (hexP s.data.toList || digsL s.data.toList)
def numberN (s : ByteArray) : Int := if numOk s = true then (Num.parseOf s).1 else 0
def numberE (s : ByteArray) : Nat := if numOk s = true then 0 else if (digsL s.data.toList || dotsL (hexP s.data.toList) s.data.toList) = true then 31 else 30
def NumSays (s : ByteArray) (w : World) (e : Ending) (w' : World) : Prop := e = .returned (.tuple #[.int .i64 (numberN s), .int .i64 (numberE s : Nat)]) ∧ w = w'
theorem num_says {s : ByteArray} {x y : Int} {w : World} (h : x = numberN s) (h' : y = numberE s) : NumSays s w (.returned (.tuple #[.int .i64 x, .int .i64 y])) w := by subst h h'; exact ⟨rfl, rfl⟩

set_option maxHeartbeats 4000000 in
set_option maxRecDepth 100000 in
theorem ref_numb (s : ByteArray) (w : World) (hs : s.size ≤ 1000000000) :
    Calls Tryz.prog 54 #[.string s] w (NumSays s w) := by
  have c3 := fun w => ref_starts s ⟨#[48, 120]⟩ 0 w hs (by decide) (Nat.zero_le _)
  have c4 := fun w => ref_starts s ⟨#[48, 88]⟩ 0 w hs (by decide) (Nat.zero_le _)
  have hx := hex_starts (s := s) (i := 0)
  rw [List.drop_zero] at hx
  have cp := fun w => Num.ref_parse s w hs
  have HE := Lib.hid (show numberE s = if numOk s = true then 0 else if (digsL s.data.toList || dotsL (hexP s.data.toList) s.data.toList) = true then 31 else 30 from rfl)
  have HK := Lib.hid (show numOk s = ((Num.parseOf s).2 && (hexP s.data.toList || digsL s.data.toList)) from rfl)
  have HN := Lib.hid (show numberN s = if numOk s = true then (Num.parseOf s).1 else 0 from rfl)
  go_enter Tryz.func54, Tryz.ntmps54
  go_upto_region 1 with fail
  go_cut [4] (fun c wx => c = .bool (hexP s.data.toList) ∧ wx = w)
  case first =>
    cases h1 : startsAt s ⟨#[48, 120]⟩ 0
    · rw [h1] at c3 hx
      rw [Bool.false_or] at hx
      have HX := Lib.hid hx
      clear hx h1
      go_wp2_with fail
      refine (c3 _).mono ?_
      rintro e w1 ⟨rfl, rfl⟩
      go_wp2_with fail
      refine (c4 _).mono ?_
      rintro e w1 ⟨rfl, rfl⟩
      go_wp2_with fail
      go_meet
      exact ⟨by rw [← HX.out], rfl⟩
    · rw [h1] at c3 hx
      have HX := Lib.hid hx
      clear hx h1
      go_wp2_with fail
      refine (c3 _).mono ?_
      rintro e w1 ⟨rfl, rfl⟩
      go_wp2_with fail
      go_meet
      exact ⟨by rw [← HX.out]; rfl, rfl⟩
  case rest =>
    obtain ⟨rfl, rfl⟩ := hcut
    clear c3 c4 hx
    generalize hexP s.data.toList = hex at *
    generalize (Num.parseOf s).1 = n at *
    generalize (Num.parseOf s).2 = ok at *
    go_wp2_with fail
    go_loopg [5, 6, 7] s.size (fun r d f i wr => wr = wc ∧ ∃ (k : Nat) (dg fl : Bool), r = s.size - k ∧ k ≤ s.size ∧ i = .int .i64 k ∧ d = .bool dg ∧ f = .bool fl ∧ dg = digsL (s.data.toList.take k) ∧ fl = dotsL hex (s.data.toList.take k))
    case atStart => exact ⟨rfl, 0, true, false, rfl, Nat.zero_le _, rfl, rfl, rfl, rfl, rfl⟩
    case round =>
      obtain ⟨rfl, k, dg, fl, rfl, hk, rfl, rfl, rfl, hdg, hfl⟩ := hrel
      by_cases hlt : k < s.size
      · have hlt' : (k : Int) < s.size := by omega
        have hx := run_index_at (P := Tryz.prog) 9 s (k : Int) k Tryz.underlying9 hlt rfl
        have cd := fun w => ref_digit (byteAt s k) w (byteAt_lt s k)
        obtain ⟨c, ec, ht⟩ := take_more hlt
        have HD := Lib.hid (show (dg && digitB (byteAt s k)) = digsL (s.data.toList.take (k + 1)) by rw [ht, digsL, List.all_append, ← digsL, ← hdg, ← ec]; simp)
        have HF := Lib.hid (show (fl || dotB hex (byteAt s k)) = dotsL hex (s.data.toList.take (k + 1)) by rw [ht, dotsL, List.any_append, ← dotsL, ← hfl, ← ec]; simp)
        clear hdg hfl ht ec
        generalize byteAt s k = x at *
        go_upto_region 8 with fail
        go_cut [5] (fun c wx => c = .bool (dg && digitB x) ∧ wx = wr)
        case first =>
          cases dg
          · go_wp2_with fail
            go_meet
            exact ⟨rfl, rfl⟩
          · go_wp2_with fail
            refine (cd _).mono ?_
            rintro e w1 ⟨rfl, rfl⟩
            go_wp2_with fail
            go_meet
            exact ⟨rfl, rfl⟩
        case rest =>
          obtain ⟨rfl, rfl⟩ := hcut
          clear cd
          generalize (dg && digitB x) = dg2 at *
          cases fl
          · by_cases h46 : x = 46
            · have t1 : ((x : Int) == 46) = true := by rw [h46]; rfl
              have HW := Lib.hid (show (false || dotB hex x) = true by rw [dotB, decide_eq_true h46]; rfl)
              clear h46
              go_wp2_with fail
              go_roundg (s.size - (k + 1))
              case measure => omega
              case rel => exact ⟨rfl, k + 1, dg2, true, rfl, by omega, by go_num, rfl, rfl, HD.out, HW.out.symm.trans HF.out⟩
            · have t1 : ((x : Int) == 46) = false := by rw [beq_eq_false_iff_ne]; omega
              cases hex
              · by_cases h1 : x = 101
                · have t2 : ((x : Int) == 101) = true := by rw [h1]; rfl
                  have HW := Lib.hid (show (false || dotB false x) = true by rw [h1]; rfl)
                  clear h1 h46
                  go_wp2_with fail
                  go_roundg (s.size - (k + 1))
                  case measure => omega
                  case rel => exact ⟨rfl, k + 1, dg2, true, rfl, by omega, by go_num, rfl, rfl, HD.out, HW.out.symm.trans HF.out⟩
                · have t2 : ((x : Int) == 101) = false := by rw [beq_eq_false_iff_ne]; omega
                  by_cases h2 : x = 69
                  · have t3 : ((x : Int) == 69) = true := by rw [h2]; rfl
                    have HW := Lib.hid (show (false || dotB false x) = true by rw [h2]; rfl)
                    clear h1 h2 h46
                    go_wp2_with fail
                    go_roundg (s.size - (k + 1))
                    case measure => omega
                    case rel => exact ⟨rfl, k + 1, dg2, true, rfl, by omega, by go_num, rfl, rfl, HD.out, HW.out.symm.trans HF.out⟩
                  · have t3 : ((x : Int) == 69) = false := by rw [beq_eq_false_iff_ne]; omega
                    have HW := Lib.hid (show (false || dotB false x) = false by rw [dotB, decide_eq_false h46]; exact decide_eq_false (by omega))
                    clear h1 h2 h46
                    go_wp2_with fail
                    go_roundg (s.size - (k + 1))
                    case measure => omega
                    case rel => exact ⟨rfl, k + 1, dg2, false, rfl, by omega, by go_num, rfl, rfl, HD.out, HW.out.symm.trans HF.out⟩
              · by_cases h1 : x = 112
                · have t2 : ((x : Int) == 112) = true := by rw [h1]; rfl
                  have HW := Lib.hid (show (false || dotB true x) = true by rw [h1]; rfl)
                  clear h1 h46
                  go_wp2_with fail
                  go_roundg (s.size - (k + 1))
                  case measure => omega
                  case rel => exact ⟨rfl, k + 1, dg2, true, rfl, by omega, by go_num, rfl, rfl, HD.out, HW.out.symm.trans HF.out⟩
                · have t2 : ((x : Int) == 112) = false := by rw [beq_eq_false_iff_ne]; omega
                  by_cases h2 : x = 80
                  · have t3 : ((x : Int) == 80) = true := by rw [h2]; rfl
                    have HW := Lib.hid (show (false || dotB true x) = true by rw [h2]; rfl)
                    clear h1 h2 h46
                    go_wp2_with fail
                    go_roundg (s.size - (k + 1))
                    case measure => omega
                    case rel => exact ⟨rfl, k + 1, dg2, true, rfl, by omega, by go_num, rfl, rfl, HD.out, HW.out.symm.trans HF.out⟩
                  · have t3 : ((x : Int) == 80) = false := by rw [beq_eq_false_iff_ne]; omega
                    have HW := Lib.hid (show (false || dotB true x) = false by rw [dotB, decide_eq_false h46]; exact decide_eq_false (by omega))
                    clear h1 h2 h46
                    go_wp2_with fail
                    go_roundg (s.size - (k + 1))
                    case measure => omega
                    case rel => exact ⟨rfl, k + 1, dg2, false, rfl, by omega, by go_num, rfl, rfl, HD.out, HW.out.symm.trans HF.out⟩
          · have HW := Lib.hid (show (true || dotB hex x) = true from rfl)
            go_wp2_with fail
            go_roundg (s.size - (k + 1))
            case measure => omega
            case rel => exact ⟨rfl, k + 1, dg2, true, rfl, by omega, by go_num, rfl, rfl, HD.out, HW.out.symm.trans HF.out⟩
      · obtain rfl : k = s.size := by omega
        rw [List.take_of_length_le (show s.data.toList.length ≤ s.size from Nat.le_refl _)] at hdg hfl
        rw [← hdg] at HE HK
        rw [← hfl] at HE
        clear hdg hfl
        cases ok <;> cases hex <;> cases dg <;> cases fl
        all_goals
          have hK := HK.out
          have hE := HE.out
          have hN := HN.out
          rw [hK] at hE hN
          have HE2 := Lib.hid hE
          have HN2 := Lib.hid hN
          clear hK hE hN HE HK HN
          go_wp2_with fail
          refine (cp _).mono ?_
          rintro e w1 ⟨rfl, rfl⟩
          go_wp2_with fail
          go_ret2
          exact num_says (by rw [HN2.out]; rfl) (by rw [HE2.out]; rfl)

/-! ### note -/
/-- How many bytes of a note stand at the head; none: no note; 0: it has no end. -/
def noteL (l : List UInt8) : Option Nat :=
  if ([45, 45] : List UInt8).isPrefixOf l = true then
    match longL (l.drop 2) with
    | some (some (_, n)) => some (n + 2)
    | some none => some 0
    | none => some (lineRun l)
  else none
def noteN (l : List UInt8) : Nat := match noteL l with | some n => n | none => 0
def noteB (l : List UInt8) : Bool := (noteL l).isSome
def NoteSays (l : List UInt8) (w : World) (e : Ending) (w' : World) : Prop := e = .returned (.tuple #[.int .i64 (noteN l : Nat), .bool (noteB l)]) ∧ w = w'
theorem note_none {l : List UInt8} {w : World} (h : noteL l = none) : NoteSays l w (.returned (.tuple #[.int .i64 0, .bool false])) w := by
  refine ⟨?_, rfl⟩
  rw [noteN, noteB, h]; rfl
theorem note_some {l : List UInt8} {n : Nat} {x : Int} {w : World} (h : noteL l = some n) (hx : x = n) : NoteSays l w (.returned (.tuple #[.int .i64 x, .bool true])) w := by
  refine ⟨?_, rfl⟩
  subst hx
  rw [noteN, noteB, h]; rfl
theorem long_pos {l t : List UInt8} {n : Nat} (h : longL l = some (some (t, n))) : 2 ≤ n := by
  cases l with
  | nil => cases h
  | cons c r =>
    rw [longL] at h
    split at h
    · injection h with h
      cases hb : bodyL (closeL (eqsL r)) true 0 (r.drop (eqsL r + 1)) with
      | none => rw [hb] at h; cases h
      | some x =>
        rw [hb] at h
        injection h with h
        injection h with h1 h2
        omega
    · cases h
theorem prefix_le {a b : List UInt8} (h : a.isPrefixOf b = true) : a.length ≤ b.length := by
  have := List.isPrefixOf_iff_prefix.1 h
  exact this.length_le
theorem body_le {cl : List UInt8} : ∀ (l : List UInt8) (f : Bool) (p : Nat) (t : List UInt8) (n : Nat), bodyL cl f p l = some (t, n) → n ≤ l.length ∧ t.length ≤ n
  | [], _, _, _, _, h => by cases h
  | c :: r, f, p, t, n, h => by
    rw [body_cons] at h
    have ih := fun f p => body_le (cl := cl) r f p
    split at h
    · rename_i hp
      injection h with h
      injection h with h1 h2
      subst h1 h2
      exact ⟨prefix_le hp, Nat.zero_le _⟩
    · split at h
      · split at h
        · cases hb : bodyL cl false 0 r with
          | none => rw [hb] at h; cases h
          | some x =>
            rw [hb] at h
            injection h with h
            injection h with h1 h2
            have := ih false 0 x.1 x.2 hb
            subst h1 h2
            simp only [List.length_cons]; omega
        · cases hb : bodyL cl false c.toNat r with
          | none => rw [hb] at h; cases h
          | some x =>
            rw [hb] at h
            injection h with h
            injection h with h1 h2
            have := ih false c.toNat x.1 x.2 hb
            subst h1 h2
            cases f
            · simp only [Bool.false_eq_true, if_false, List.length_cons]; omega
            · simp only [if_true, List.length_cons]; omega
      · cases hb : bodyL cl false 0 r with
        | none => rw [hb] at h; cases h
        | some x =>
          rw [hb] at h
          injection h with h
          injection h with h1 h2
          have := ih false 0 x.1 x.2 hb
          subst h1 h2
          simp only [List.length_cons]; omega
theorem eqs_le : ∀ l : List UInt8, eqsL l ≤ l.length
  | [] => Nat.le_refl 0
  | c :: r => by
    have := eqs_le r
    rw [eqsL]
    split
    · simp only [List.length_cons]; omega
    · exact Nat.zero_le _
theorem long_le {l t : List UInt8} {n : Nat} (h : longL l = some (some (t, n))) : n ≤ l.length := by
  cases l with
  | nil => cases h
  | cons c r =>
    rw [longL] at h
    split at h
    · rename_i hc
      injection h with h
      cases hb : bodyL (closeL (eqsL r)) true 0 (r.drop (eqsL r + 1)) with
      | none => rw [hb] at h; cases h
      | some x =>
        rw [hb] at h
        injection h with h
        injection h with h1 h2
        have h3 := (body_le _ _ _ x.1 x.2 hb).1
        rw [List.length_drop] at h3
        have h4 := eqs_le r
        simp only [List.length_cons]
        by_cases h5 : eqsL r = r.length
        · rw [h5, List.drop_length] at hc
          exact absurd hc.2 (by decide)
        · omega
    · cases h
theorem run_lf {s : ByteArray} {p : Nat} (h : p < s.size) (he : endK (s.data.toList.drop p) = 0) : lineRun (s.data.toList.drop p) = lineRun (s.data.toList.drop (p + 1)) + 1 := by
  obtain ⟨c, e, hl⟩ := drop_at s p h
  rw [hl] at he ⊢
  have : lfB c.toNat = false := by
    cases hl : lfB c.toNat
    · rfl
    · rw [endK, if_pos hl] at he; split at he <;> omega
  rw [lineRun, if_neg (by rw [this]; decide)]
theorem run_lf_no {s : ByteArray} {p : Nat} (he : endK (s.data.toList.drop p) ≠ 0) : lineRun (s.data.toList.drop p) = 0 := by
  cases hl : s.data.toList.drop p with
  | nil => rfl
  | cons c r =>
    rw [hl] at he
    cases hc : lfB c.toNat
    · rw [endK, if_neg (by rw [hc]; decide)] at he; omega
    · rw [lineRun, if_pos hc]

set_option maxHeartbeats 2000000 in
theorem ref_note (s : ByteArray) (i : Nat) (w : World) (hs : s.size ≤ 100000000) (hi : i ≤ s.size) :
    Calls Tryz.prog 27 #[.string s, .int .i64 i] w (NoteSays (s.data.toList.drop i) w) := by
  have c1 := fun w => ref_starts s ⟨#[45, 45]⟩ i w (by omega) (by decide) hi
  cases hst : startsAt s ⟨#[45, 45]⟩ i
  · rw [hst] at c1
    have HN := Lib.hid (show noteL (s.data.toList.drop i) = none by unfold noteL; rw [if_neg]; rw [show ([45, 45] : List UInt8).isPrefixOf (s.data.toList.drop i) = false from hst]; decide)
    clear hst
    go_enter Tryz.func27, Tryz.ntmps27
    go_wp2_with fail
    refine (c1 _).mono ?_
    rintro e w1 ⟨rfl, rfl⟩
    go_wp2_with fail
    go_ret2
    exact note_none HN.out
  · rw [hst] at c1
    have hi2 : i + 2 ≤ s.size := by
      have := starts_room (s := s) (t := ⟨#[45, 45]⟩) (i := i)
      refine Nat.le_of_not_lt fun h => ?_
      rw [this h hi] at hst; cases hst
    have hN : noteL (s.data.toList.drop i) = match longL (s.data.toList.drop (i + 2)) with
      | some (some (_, n)) => some (n + 2)
      | some none => some 0
      | none => some (lineRun (s.data.toList.drop i)) := by
      unfold noteL
      rw [if_pos (show ([45, 45] : List UInt8).isPrefixOf (s.data.toList.drop i) = true from hst), List.drop_drop]
    have c2 := fun w => ref_long s (i + 2) w hs hi2
    rw [show ((i + 2 : Nat) : Int) = (i : Int) + 2 from by omega] at c2
    unfold LongSays longT longN longB at c2
    cases hl : longL (s.data.toList.drop (i + 2)) with
    | none =>
      rw [hl] at c2 hN
      have HN := Lib.hid hN
      simp only [Option.isSome_none] at c2
      clear hst hl hN
      go_enter Tryz.func27, Tryz.ntmps27
      go_wp2_with fail
      refine (c1 _).mono ?_
      rintro e w1 ⟨rfl, rfl⟩
      go_wp2_with fail
      refine (c2 _).mono ?_
      rintro e w1 ⟨rfl, rfl⟩
      go_wp2_with fail
      go_loop [9] (fun k => ∃ p : Nat, k = .int .i64 p ∧ i ≤ p ∧ p ≤ s.size ∧ (p - i) + lineRun (s.data.toList.drop p) = lineRun (s.data.toList.drop i)) (fun k => s.size - (intOf k).toNat)
      case atStart => exact ⟨i, rfl, by omega, by omega, by omega⟩
      case round =>
        obtain ⟨p, rfl, hp1, hp2, hp⟩ := hrel
        by_cases hlt : p < s.size
        · have hlt' : (p : Int) < s.size := by omega
          have ce := fun w => ref_ending s p w (by omega)
          by_cases he : endK (s.data.toList.drop p) = 0
          · have HP := Lib.hid (show (p + 1 - i) + lineRun (s.data.toList.drop (p + 1)) = lineRun (s.data.toList.drop i) by rw [← hp, run_lf hlt he]; omega)
            rw [he] at ce
            clear hp he
            go_wp2_with fail
            refine (ce _).mono ?_
            rintro e w1 ⟨rfl, rfl⟩
            go_wp2_with fail
            go_round
            case rel => exact ⟨p + 1, by go_num, by omega, by omega, HP.out⟩
            case measure => simp only [intOf]; omega
          · have HP := Lib.hid (show p - i = lineRun (s.data.toList.drop i) by rw [← hp, run_lf_no he, Nat.add_zero])
            have t1 : (((endK (s.data.toList.drop p) : Nat) : Int) == 0) = false := by rw [beq_eq_false_iff_ne]; omega
            clear hp he
            generalize endK (s.data.toList.drop p) = b at *
            go_wp2_with fail
            refine (ce _).mono ?_
            rintro e w1 ⟨rfl, rfl⟩
            go_wp2_with fail
            go_ret2
            exact note_some HN.out (by rw [← HP.out]; omega)
        · obtain rfl : p = s.size := by omega
          have HP := Lib.hid (show s.size - i = lineRun (s.data.toList.drop i) by rw [← hp, drop_end]; rfl)
          clear hp
          go_wp2_with fail
          go_ret2
          exact note_some HN.out (by rw [← HP.out]; omega)
    | some x =>
      rw [hl] at c2 hN
      cases x with
      | none =>
        have HN := Lib.hid hN
        simp only [Option.isSome_some] at c2
        clear hst hl hN
        go_enter Tryz.func27, Tryz.ntmps27
        go_wp2_with fail
        refine (c1 _).mono ?_
        rintro e w1 ⟨rfl, rfl⟩
        go_wp2_with fail
        refine (c2 _).mono ?_
        rintro e w1 ⟨rfl, rfl⟩
        go_wp2_with fail
        go_ret2
        exact note_some HN.out rfl
      | some x =>
        obtain ⟨t, n⟩ := x
        have hn2 := long_pos hl
        have hn9 := long_le hl
        have HN := Lib.hid hN
        simp only [Option.isSome_some] at c2
        have t1 : ((n : Int) == 0) = false := by rw [beq_eq_false_iff_ne]; omega
        have hnb : (n : Int) ≤ 100000000 := by
          have hl2 : (s.data.toList.drop (i + 2)).length ≤ s.size := by rw [List.length_drop]; show s.size - (i + 2) ≤ _; omega
          omega
        clear hst hl hN
        generalize (⟨t.toArray⟩ : ByteArray) = T at *
        go_enter Tryz.func27, Tryz.ntmps27
        go_wp2_with fail
        refine (c1 _).mono ?_
        rintro e w1 ⟨rfl, rfl⟩
        go_wp2_with fail
        refine (c2 _).mono ?_
        rintro e w1 ⟨rfl, rfl⟩
        go_wp2_with fail
        go_ret2
        exact note_some HN.out (by omega)

end Go.Proofs.YtajeghkmgcpgiaaGreatDoor.Lex
