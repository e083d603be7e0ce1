/-
  twinstepref01: Digit, Letter; twinstepref04.numeral, by contracts.
-/
import Derived.Test.YtajeghkmgcpgiaaGreatDoorLexA
import Derived.Deep.DeepCutAuto
import Derived.Deep.CutBlock
import Derived.Deep.LoopGhost
namespace Go.Proofs.YtajeghkmgcpgiaaGreatDoor.Lex
open Go.RowKit

theorem in_digit : ∀ b < 256, inB b ⟨#[48, 49, 50, 51, 52, 53, 54, 55, 56, 57]⟩ = digitB b := by decide +kernel
theorem ref_digit (b : Nat) (w : World) (hb : b < 256) :
    Calls Tryz.prog 52 #[.int .u8 b] w fun e w' => e = .returned (.bool (digitB b)) ∧ w = w' := by
  go_enter Tryz.func52, Tryz.ntmps52
  go_wp2_with (go_at_call 46; refine (ref_in b ⟨#[48, 49, 50, 51, 52, 53, 54, 55, 56, 57]⟩ _ (by decide)).mono ?_; rintro e w' ⟨rfl, rfl⟩)
  go_ret
  exact ⟨ret_bool (in_digit b hb), rfl⟩

theorem in_letter : ∀ b < 256, inB b ⟨#[97, 98, 99, 100, 101, 102, 103, 104, 105, 106, 107, 108, 109, 110, 111, 112, 113, 114, 115, 116, 117, 118, 119, 120, 121, 122, 65, 66, 67, 68, 69, 70, 71, 72, 73, 74, 75, 76, 77, 78, 79, 80, 81, 82, 83, 84, 85, 86, 87, 88, 89, 90, 95]⟩ = letterB b := by decide +kernel
theorem ref_letter (b : Nat) (w : World) (hb : b < 256) :
    Calls Tryz.prog 50 #[.int .u8 b] w fun e w' => e = .returned (.bool (letterB b)) ∧ w = w' := by
  go_enter Tryz.func50, Tryz.ntmps50
  go_wp2_with (go_at_call 46; refine (ref_in b ⟨#[97, 98, 99, 100, 101, 102, 103, 104, 105, 106, 107, 108, 109, 110, 111, 112, 113, 114, 115, 116, 117, 118, 119, 120, 121, 122, 65, 66, 67, 68, 69, 70, 71, 72, 73, 74, 75, 76, 77, 78, 79, 80, 81, 82, 83, 84, 85, 86, 87, 88, 89, 90, 95]⟩ _ (by decide)).mono ?_; rintro e w' ⟨rfl, rfl⟩)
  go_ret
  exact ⟨ret_bool (in_letter b hb), rfl⟩

/-- 'at' ahead of the text. -/
theorem ref_at_ahead (s : ByteArray) (x : Int) (w : World) (hx : x < 0) :
    Calls Tryz.prog 51 #[.string s, .int .i64 x] w fun e w' => e = .returned (.int .u8 0) ∧ w = w' := by
  go_enter Tryz.func51, Tryz.ntmps51
  go_wp2
  go_ret
  exact ⟨rfl, rfl⟩

/-! ### numeral -/
theorem hex_starts {s : ByteArray} {i : Nat} : (startsAt s ⟨#[48, 120]⟩ i || startsAt s ⟨#[48, 88]⟩ i) = hexP (s.data.toList.drop i) := by
  unfold startsAt hexP
  cases s.data.toList.drop i with
  | nil => rfl
  | cons c r =>
    cases r with
    | nil => simp [hd, List.isPrefixOf]
    | cons d r =>
      have e : ∀ (x : UInt8) (n : UInt8), (n == x) = decide (x.toNat = n.toNat) := fun x n => by
        rw [Bool.eq_iff_iff]; simp only [beq_iff_eq, decide_eq_true_eq]
        exact ⟨fun h => by rw [h], fun h => (UInt8.toNat_inj.1 h).symm⟩
      show (([48, 120] : List UInt8).isPrefixOf (c :: d :: r) || ([48, 88] : List UInt8).isPrefixOf (c :: d :: r)) = (decide (c.toNat = 48) && decide (d.toNat = 120 ∨ d.toNat = 88))
      simp only [List.isPrefixOf, Bool.and_true, e, show (48 : UInt8).toNat = 48 from rfl, show (120 : UInt8).toNat = 120 from rfl, show (88 : UInt8).toNat = 88 from rfl]
      by_cases h1 : c.toNat = 48 <;> by_cases h2 : d.toNat = 120 <;> by_cases h3 : d.toNat = 88 <;> simp [h1, h2, h3]

def numP (pw : Bool) (b : Nat) : Bool := digitB b || letterB b || decide (b = 46) || (pw && decide (b = 43 ∨ b = 45))
theorem numC_eq (hex : Bool) (L b : Nat) : numC hex L b = numP (power hex L) b := rfl
/-- The byte ahead of p, within a numeral that begins at i; 0: none. -/
def lastB (s : ByteArray) (i p : Nat) : Nat := if p = i then 0 else byteAt s (p - 1)
theorem num_yes {s : ByteArray} {hex : Bool} {i p : Nat} (hip : i ≤ p) (h : p < s.size) (hc : numC hex (lastB s i p) (byteAt s p) = true) :
    numRun hex (lastB s i p) (s.data.toList.drop p) = numRun hex (lastB s i (p + 1)) (s.data.toList.drop (p + 1)) + 1 := by
  obtain ⟨c, e, hl⟩ := drop_at s p h
  have hL : lastB s i (p + 1) = byteAt s p := by unfold lastB; rw [if_neg (by omega), Nat.add_sub_cancel]
  rw [hl, numRun, e, if_pos hc, hL]
theorem num_no {s : ByteArray} {hex : Bool} {L p : Nat} (h : p < s.size) (hc : numC hex L (byteAt s p) = false) : numRun hex L (s.data.toList.drop p) = 0 := by
  obtain ⟨c, e, hl⟩ := drop_at s p h
  rw [hl, numRun, e, if_neg (by rw [hc]; decide)]

/-- Does a numeral begin with these two bytes? -/
def numB (a b : Nat) : Bool := digitB a || (decide (a = 46) && digitB b)
theorem numL_eq (s : ByteArray) (i : Nat) : numL (s.data.toList.drop i) = if numB (hd (s.data.toList.drop i)) (hd (s.data.toList.drop (i + 1))) = true then numRun (hexP (s.data.toList.drop i)) 0 (s.data.toList.drop i) else 0 := by
  unfold numL numB
  rw [next_hd]

set_option maxHeartbeats 4000000 in
set_option maxRecDepth 100000 in
theorem ref_numeral (s : ByteArray) (i : Nat) (w : World) (hs : s.size ≤ 1000000000) (hi : i ≤ s.size) :
    Calls Tryz.prog 53 #[.string s, .int .i64 i] w fun e w' => e = .returned (.int .i64 (numL (s.data.toList.drop i) : Nat)) ∧ w = w' := by
  have c1 := fun w => ref_at s i w
  have c2 := fun w => ref_at s (i + 1) w
  rw [show ((i + 1 : Nat) : Int) = (i : Int) + 1 from by omega] at c2
  have hN := numL_eq s i
  have ha := hd_lt (s.data.toList.drop i)
  have hb := hd_lt (s.data.toList.drop (i + 1))
  have d1 := fun w => ref_digit (hd (s.data.toList.drop i)) w ha
  have d2 := fun w => ref_digit (hd (s.data.toList.drop (i + 1))) w hb
  have h46 : ((((hd (s.data.toList.drop i) : Nat) : Int) == 46) = decide (hd (s.data.toList.drop i) = 46)) := by
    rw [Bool.eq_iff_iff]; simp only [beq_iff_eq, decide_eq_true_eq]; omega
  have HN := Lib.hid hN
  clear hN
  generalize hd (s.data.toList.drop i) = a at *
  generalize hd (s.data.toList.drop (i + 1)) = b at *
  go_enter Tryz.func53, Tryz.ntmps53
  go_upto_region 1 with fail
  go_cut [28] (fun c wx => c = .bool (!numB a b) ∧ wx = w)
  case first =>
    clear HN
    cases hda : digitB a
    · rw [hda] at d1
      by_cases h : a = 46
      · rw [decide_eq_true h] at h46
        cases hdb : digitB b
        · rw [hdb] at d2
          have HB := Lib.hid (show numB a b = false by rw [numB, hda, hdb, Bool.and_false]; rfl)
          clear h hda hdb
          go_wp2_with fail
          refine (c1 _).mono ?_
          rintro e w1 ⟨rfl, rfl⟩
          go_wp2_with fail
          refine (d1 _).mono ?_
          rintro e w1 ⟨rfl, rfl⟩
          go_wp2_with fail
          refine (c1 _).mono ?_
          rintro e w1 ⟨rfl, rfl⟩
          go_wp2_with fail
          refine (c2 _).mono ?_
          rintro e w1 ⟨rfl, rfl⟩
          go_wp2_with fail
          refine (d2 _).mono ?_
          rintro e w1 ⟨rfl, rfl⟩
          go_wp2_with fail
          go_meet
          exact ⟨by rw [HB.out]; rfl, rfl⟩
        · rw [hdb] at d2
          have HB := Lib.hid (show numB a b = true by rw [numB, hda, hdb, decide_eq_true h]; rfl)
          clear h hda hdb
          go_wp2_with fail
          refine (c1 _).mono ?_
          rintro e w1 ⟨rfl, rfl⟩
          go_wp2_with fail
          refine (d1 _).mono ?_
          rintro e w1 ⟨rfl, rfl⟩
          go_wp2_with fail
          refine (c1 _).mono ?_
          rintro e w1 ⟨rfl, rfl⟩
          go_wp2_with fail
          refine (c2 _).mono ?_
          rintro e w1 ⟨rfl, rfl⟩
          go_wp2_with fail
          refine (d2 _).mono ?_
          rintro e w1 ⟨rfl, rfl⟩
          go_wp2_with fail
          go_meet
          exact ⟨by rw [HB.out]; rfl, rfl⟩
      · rw [decide_eq_false h] at h46
        have HB := Lib.hid (show numB a b = false by rw [numB, hda, decide_eq_false h]; rfl)
        clear h hda
        go_wp2_with fail
        refine (c1 _).mono ?_
        rintro e w1 ⟨rfl, rfl⟩
        go_wp2_with fail
        refine (d1 _).mono ?_
        rintro e w1 ⟨rfl, rfl⟩
        go_wp2_with fail
        refine (c1 _).mono ?_
        rintro e w1 ⟨rfl, rfl⟩
        go_wp2_with fail
        go_meet
        exact ⟨by rw [HB.out]; rfl, rfl⟩
    · rw [hda] at d1
      have HB := Lib.hid (show numB a b = true by rw [numB, hda]; rfl)
      clear hda
      go_wp2_with fail
      refine (c1 _).mono ?_
      rintro e w1 ⟨rfl, rfl⟩
      go_wp2_with fail
      refine (d1 _).mono ?_
      rintro e w1 ⟨rfl, rfl⟩
      go_wp2_with fail
      go_meet
      exact ⟨by rw [HB.out]; rfl, rfl⟩
  case rest =>
    obtain ⟨rfl, rfl⟩ := hcut
    clear c1 c2 d1 d2 h46
    cases hn : numB a b
    · rw [hn] at HN
      have HN := Lib.hid (HN.out.trans (if_neg (by decide)))
      go_wp2_with fail
      go_ret
      exact ⟨ret_i64 (by rw [HN.out]; rfl), rfl⟩
    · rw [hn] at HN
      have HM := Lib.hid (show numL (s.data.toList.drop i) = numRun (hexP (s.data.toList.drop i)) 0 (s.data.toList.drop i) from HN.out.trans (if_pos rfl))
      have c3 := fun w => ref_starts s ⟨#[48, 120]⟩ i w hs (by decide) hi
      have c4 := fun w => ref_starts s ⟨#[48, 88]⟩ i w hs (by decide) hi
      have hx := hex_starts (s := s) (i := i)
      go_upto_region 3 with fail
      go_cut [5] (fun c wx => c = .bool (hexP (s.data.toList.drop i)) ∧ wx = wc)
      case first =>
        cases h1 : startsAt s ⟨#[48, 120]⟩ i
        · rw [h1] at c3 hx
          rw [Bool.false_or] at hx
          have HX := Lib.hid hx
          clear hx h1
          go_wp2_with fail
          refine (c3 _).mono ?_
          rintro e w1 ⟨rfl, rfl⟩
          go_wp2_with fail
          refine (c4 _).mono ?_
          rintro e w1 ⟨rfl, rfl⟩
          go_wp2_with fail
          go_meet
          exact ⟨by rw [← HX.out], rfl⟩
        · rw [h1] at c3 hx
          have HX := Lib.hid hx
          clear hx h1
          go_wp2_with fail
          refine (c3 _).mono ?_
          rintro e w1 ⟨rfl, rfl⟩
          go_wp2_with fail
          go_meet
          exact ⟨by rw [← HX.out]; rfl, rfl⟩
      case rest =>
        obtain ⟨rfl, rfl⟩ := hcut
        clear c3 c4 hx
        generalize hexP (s.data.toList.drop i) = hex at *
        go_wp2_with fail
        go_loopg [6] (s.size - i) (fun r k wr => wr = wc ∧ ∃ p : Nat, r = s.size - p ∧ k = .int .i64 p ∧ i ≤ p ∧ p ≤ s.size ∧ (p - i) + numRun hex (lastB s i p) (s.data.toList.drop p) = numL (s.data.toList.drop i))
        case atStart => exact ⟨rfl, i, rfl, rfl, by omega, hi, by rw [HM.out, Nat.sub_self, Nat.zero_add, lastB, if_pos rfl]⟩
        case round =>
          obtain ⟨rfl, p, rfl, rfl, hip, hps, hrun⟩ := hrel
          have HR := Lib.hid hrun
          clear hrun
          by_cases hlt : p < s.size
          · have hlt' : (p : Int) < s.size := by omega
            have hx := run_index_at (P := Tryz.prog) 9 s (p : Int) p Tryz.underlying9 hlt rfl
            go_upto_region 7 with fail
            go_cut [8] (fun c wx => wx = wr ∧ ∃ L : Nat, c = .int .u8 L ∧ L < 256 ∧ (i < p → L = lastB s i p))
            case first =>
              by_cases h0 : p = 0
              · subst h0
                have c5 := ref_at_ahead s (((0 : Nat) : Int) - 1) wr (by decide)
                go_wp2_with fail
                refine c5.mono ?_
                rintro e w1 ⟨rfl, rfl⟩
                go_wp2_with fail
                go_meet
                exact ⟨rfl, 0, rfl, by decide, fun h => by omega⟩
              · have c5 := ref_at s (p - 1) wr
                rw [show ((p - 1 : Nat) : Int) = (p : Int) - 1 from by omega, hd_at (s := s) (i := p - 1) (by omega)] at c5
                have HL := Lib.hid (fun (h : i < p) => show byteAt s (p - 1) = lastB s i p by rw [lastB, if_neg (by omega)])
                have hl9 := byteAt_lt s (p - 1)
                generalize byteAt s (p - 1) = L at *
                go_wp2_with fail
                refine c5.mono ?_
                rintro e w1 ⟨rfl, rfl⟩
                go_wp2_with fail
                go_meet
                exact ⟨rfl, L, rfl, hl9, HL.out⟩
            case rest =>
              obtain ⟨rfl, L0, rfl, hL9, hL0⟩ := hcut
              have hb9 := byteAt_lt s p
              have cd := fun w => ref_digit (byteAt s p) w hb9
              have cl := fun w => ref_letter (byteAt s p) w hb9
              have HY := Lib.hid (fun h => num_yes (hex := hex) hip hlt h)
              have HX := Lib.hid (fun h => num_no (hex := hex) (L := lastB s i p) hlt h)
              go_upto_region 8 with fail
              go_cut [9] (fun c wx => c = .bool (power hex (lastB s i p)) ∧ wx = wc)
              case first =>
                by_cases hlp : i < p
                · obtain rfl := hL0 hlp
                  have hlp' : (i : Int) < p := by omega
                  generalize lastB s i p = L at *
                  cases hex
                  · by_cases h1 : L = 101
                    · have t1 : ((L : Int) == 101) = true := by rw [h1]; rfl
                      have HP := Lib.hid (show power false L = true by rw [h1]; rfl)
                      clear h1
                      go_wp2_with fail
                      go_meet
                      exact ⟨by rw [HP.out], rfl⟩
                    · have t1 : ((L : Int) == 101) = false := by rw [beq_eq_false_iff_ne]; omega
                      by_cases h2 : L = 69
                      · have t2 : ((L : Int) == 69) = true := by rw [h2]; rfl
                        have HP := Lib.hid (show power false L = true by rw [h2]; rfl)
                        clear h1 h2
                        go_wp2_with fail
                        go_meet
                        exact ⟨by rw [HP.out], rfl⟩
                      · have t2 : ((L : Int) == 69) = false := by rw [beq_eq_false_iff_ne]; omega
                        have HP := Lib.hid (show power false L = false from decide_eq_false (by omega))
                        clear h1 h2
                        go_wp2_with fail
                        go_meet
                        exact ⟨by rw [HP.out], rfl⟩
                  · by_cases h1 : L = 112
                    · have t1 : ((L : Int) == 112) = true := by rw [h1]; rfl
                      have HP := Lib.hid (show power true L = true by rw [h1]; rfl)
                      clear h1
                      go_wp2_with fail
                      go_meet
                      exact ⟨by rw [HP.out], rfl⟩
                    · have t1 : ((L : Int) == 112) = false := by rw [beq_eq_false_iff_ne]; omega
                      by_cases h2 : L = 80
                      · have t2 : ((L : Int) == 80) = true := by rw [h2]; rfl
                        have HP := Lib.hid (show power true L = true by rw [h2]; rfl)
                        clear h1 h2
                        go_wp2_with fail
                        go_meet
                        exact ⟨by rw [HP.out], rfl⟩
                      · have t2 : ((L : Int) == 80) = false := by rw [beq_eq_false_iff_ne]; omega
                        have HP := Lib.hid (show power true L = false from decide_eq_false (by omega))
                        clear h1 h2
                        go_wp2_with fail
                        go_meet
                        exact ⟨by rw [HP.out], rfl⟩
                · obtain rfl : i = p := by omega
                  have HP := Lib.hid (show power hex (lastB s i i) = false by rw [lastB, if_pos rfl]; cases hex <;> rfl)
                  go_wp2_with fail
                  go_meet
                  exact ⟨by rw [HP.out], rfl⟩
              case rest =>
                obtain ⟨rfl, rfl⟩ := hcut
                generalize lastB s i p = L at *
                generalize byteAt s p = b at *
                have HCP := Lib.hid (numC_eq hex L b)
                generalize power hex L = pw at *
                go_upto_region 9 with fail
                go_cut [98] (fun c wx => c = .bool (!numP pw b) ∧ wx = wc)
                case first =>
                  cases hdg : digitB b
                  · rw [hdg] at cd
                    cases hlt2 : letterB b
                    · rw [hlt2] at cl
                      by_cases h46 : b = 46
                      · have t1 : ((b : Int) != 46) = false := by rw [h46]; rfl
                        have HC := Lib.hid (show numP pw b = true by rw [numP, hdg, hlt2, decide_eq_true h46]; rfl)
                        clear hdg hlt2 h46
                        go_wp2_with fail
                        refine (cd _).mono ?_
                        rintro e w1 ⟨rfl, rfl⟩
                        go_wp2_with fail
                        refine (cl _).mono ?_
                        rintro e w1 ⟨rfl, rfl⟩
                        go_wp2_with fail
                        go_meet
                        exact ⟨by rw [HC.out]; rfl, rfl⟩
                      · have t1 : ((b : Int) != 46) = true := by rw [bne_iff_ne]; omega
                        cases pw
                        · have HC := Lib.hid (show numP false b = false by rw [numP, hdg, hlt2, decide_eq_false h46]; rfl)
                          clear hdg hlt2 h46
                          go_wp2_with fail
                          refine (cd _).mono ?_
                          rintro e w1 ⟨rfl, rfl⟩
                          go_wp2_with fail
                          refine (cl _).mono ?_
                          rintro e w1 ⟨rfl, rfl⟩
                          go_wp2_with fail
                          go_meet
                          exact ⟨by rw [HC.out]; rfl, rfl⟩
                        · by_cases h43 : b = 43
                          · have t2 : ((b : Int) == 43) = true := by rw [h43]; rfl
                            have HC := Lib.hid (show numP true b = true by rw [numP, hdg, hlt2, decide_eq_false h46, decide_eq_true (p := b = 43 ∨ b = 45) (by omega)]; rfl)
                            clear hdg hlt2 h46 h43
                            go_wp2_with fail
                            refine (cd _).mono ?_
                            rintro e w1 ⟨rfl, rfl⟩
                            go_wp2_with fail
                            refine (cl _).mono ?_
                            rintro e w1 ⟨rfl, rfl⟩
                            go_wp2_with fail
                            go_meet
                            exact ⟨by rw [HC.out]; rfl, rfl⟩
                          · have t2 : ((b : Int) == 43) = false := by rw [beq_eq_false_iff_ne]; omega
                            by_cases h45 : b = 45
                            · have t3 : ((b : Int) == 45) = true := by rw [h45]; rfl
                              have HC := Lib.hid (show numP true b = true by rw [numP, hdg, hlt2, decide_eq_false h46, decide_eq_true (p := b = 43 ∨ b = 45) (by omega)]; rfl)
                              clear hdg hlt2 h46 h43 h45
                              go_wp2_with fail
                              refine (cd _).mono ?_
                              rintro e w1 ⟨rfl, rfl⟩
                              go_wp2_with fail
                              refine (cl _).mono ?_
                              rintro e w1 ⟨rfl, rfl⟩
                              go_wp2_with fail
                              go_meet
                              exact ⟨by rw [HC.out]; rfl, rfl⟩
                            · have t3 : ((b : Int) == 45) = false := by rw [beq_eq_false_iff_ne]; omega
                              have HC := Lib.hid (show numP true b = false by rw [numP, hdg, hlt2, decide_eq_false h46, decide_eq_false (p := b = 43 ∨ b = 45) (by omega)]; rfl)
                              clear hdg hlt2 h46 h43 h45
                              go_wp2_with fail
                              refine (cd _).mono ?_
                              rintro e w1 ⟨rfl, rfl⟩
                              go_wp2_with fail
                              refine (cl _).mono ?_
                              rintro e w1 ⟨rfl, rfl⟩
                              go_wp2_with fail
                              go_meet
                              exact ⟨by rw [HC.out]; rfl, rfl⟩
                    · rw [hlt2] at cl
                      have HC := Lib.hid (show numP pw b = true by rw [numP, hdg, hlt2]; rfl)
                      clear hdg hlt2
                      go_wp2_with fail
                      refine (cd _).mono ?_
                      rintro e w1 ⟨rfl, rfl⟩
                      go_wp2_with fail
                      refine (cl _).mono ?_
                      rintro e w1 ⟨rfl, rfl⟩
                      go_wp2_with fail
                      go_meet
                      exact ⟨by rw [HC.out]; rfl, rfl⟩
                  · rw [hdg] at cd
                    have HC := Lib.hid (show numP pw b = true by rw [numP, hdg]; rfl)
                    clear hdg
                    go_wp2_with fail
                    refine (cd _).mono ?_
                    rintro e w1 ⟨rfl, rfl⟩
                    go_wp2_with fail
                    go_meet
                    exact ⟨by rw [HC.out]; rfl, rfl⟩
                case rest =>
                  obtain ⟨rfl, rfl⟩ := hcut
                  clear cd cl hL0
                  cases hn2 : numP pw b
                  · have HQ := Lib.hid (show p - i = numL (s.data.toList.drop i) by rw [← HR.out, HX.out (HCP.out.trans hn2)]; rfl)
                    clear hn2
                    go_wp2_with fail
                    go_ret
                    exact ⟨ret_i64 (by rw [← HQ.out]; omega), rfl⟩
                  · have HQ := Lib.hid (show (p + 1 - i) + numRun hex (lastB s i (p + 1)) (s.data.toList.drop (p + 1)) = numL (s.data.toList.drop i) by rw [← HR.out, HY.out (HCP.out.trans hn2)]; omega)
                    clear hn2
                    go_wp2_with fail
                    go_roundg (s.size - (p + 1))
                    case measure => omega
                    case rel => exact ⟨rfl, p + 1, rfl, by go_num, by omega, by omega, HQ.out⟩
          · obtain rfl : p = s.size := by omega
            have HQ := Lib.hid (show s.size - i = numL (s.data.toList.drop i) by rw [← HR.out, drop_end]; rfl)
            go_wp2_with fail
            go_ret
            exact ⟨ret_i64 (by rw [← HQ.out]; omega), rfl⟩

end Go.Proofs.YtajeghkmgcpgiaaGreatDoor.Lex
