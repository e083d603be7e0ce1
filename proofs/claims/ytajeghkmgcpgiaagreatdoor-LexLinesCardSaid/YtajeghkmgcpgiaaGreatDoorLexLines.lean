/-
  LexLines.
-/
import Derived.Test.YtajeghkmgcpgiaaGreatDoorLexTells
import Derived.Test.YtajeghkmgcpgiaaGreatDoorLexLinesMath
namespace Go.Proofs.YtajeghkmgcpgiaaGreatDoor.Lex
open Go.RowKit

theorem no13_of {s : ByteArray} (h : ∀ j, j < s.size → byteAt s j ≠ 13) : No13 s.data.toList := by
  intro c hc
  obtain ⟨j, hj, rfl⟩ := List.getElem_of_mem hc
  have hj' : j < s.size := hj
  have := h j hj'
  obtain ⟨d, e, hd⟩ := drop_at s j hj'
  rw [List.drop_eq_getElem_cons hj] at hd
  injection hd with h1 h2
  rw [h1, e]; exact this

theorem tokF_bound : ∀ (f line : Nat) (l : List UInt8) (acc : List Tok), (tokF f line l acc).2.2 ≤ line + l.length
  | 0, _, _, _ => Nat.zero_le _
  | f + 1, line, l, acc => by
    have h1 := lines_take l (blanks l)
    have h2 := blanks_le l
    have h3 : (l.drop (blanks l)).length = l.length - blanks l := List.length_drop
    rw [tokF]
    split
    · exact Nat.zero_le _
    · split
      · show line + _ ≤ _; omega
      · rename_i k hk
        have h4 := note_len hk
        have h5 := lines_take (l.drop (blanks l)) (k + 1)
        refine Nat.le_trans (tokF_bound f _ _ _) ?_
        rw [List.length_drop]; omega
      · split
        · rename_i he
          have h4 := (one_len he).2
          generalize oneL (l.drop (blanks l)) = O at *
          have h5 := lines_take (l.drop (blanks l)) O.len
          refine Nat.le_trans (tokF_bound f _ _ _) ?_
          rw [List.length_drop]; omega
        · show line + _ ≤ _; omega
theorem tokens_bound (l : List UInt8) (h : l.length ≤ 60000) : (tokensL l).2.2 ≤ 60001 := by
  rw [tokensL, if_neg (by omega)]
  exact Nat.le_trans (tokF_bound _ _ _ _) (by omega)
theorem Rises.le {l : List Tok} (h : Rises l) : ∀ j, j ≤ l.length → ∀ i, i ≤ j → lastL (l.take i) ≤ lastL (l.take j)
  | 0, _, i, hi => by rw [show i = 0 from by omega]; exact Nat.le_refl _
  | j + 1, hj, i, hi => by
    by_cases e : i = j + 1
    · rw [e]; exact Nat.le_refl _
    · refine Nat.le_trans (h.le j (by omega) i (by omega)) ?_
      rw [lastL_take l j (by omega)]
      exact h j (by omega)
theorem Rises.line_le {l : List Tok} (h : Rises l) (i : Nat) (hi : i < l.length) : l[i].line ≤ lastL l := by
  have := h.le l.length (Nat.le_refl _) (i + 1) (by omega)
  rwa [lastL_take l i hi, List.take_length] at this
theorem tens_le : ∀ l : List UInt8, tens l ≤ l.length
  | [] => Nat.le_refl 0
  | c :: r => by
    have := tens_le r
    rw [tens, List.length_cons]; split <;> omega
theorem tens_append : ∀ a b : List UInt8, tens (a ++ b) = tens a + tens b
  | [], b => by simp [tens]
  | c :: a, b => by rw [List.cons_append, tens, tens, tens_append a b]; omega
theorem tens_step (s : ByteArray) (k : Nat) (h : k < s.size) : tens (s.data.toList.take (k + 1)) = tens (s.data.toList.take k) + if byteAt s k = 10 then 1 else 0 := by
  have hk : k < s.data.toList.length := h
  obtain ⟨d, e, hd⟩ := drop_at s k h
  rw [List.drop_eq_getElem_cons hk] at hd
  injection hd with h1 h2
  rw [List.take_succ_eq_append_getElem hk, tens_append, h1, ← e]
  simp [tens]
/-- What the law compares. -/
structure Pair (s : ByteArray) (l : List Tok) (x n n' : Nat) : Prop where
  one : tokensL s.data.toList = (l, x, n)
  two : tokensL ((⟨#[10]⟩ ++ s : ByteArray).data.toList) = (l.map up, x, n')
  rises : Rises l
  line : x ≠ 0 → n' = n + 1
  none : x ≠ 0 → l = []
  last : x = 0 → lastL l = 1 + tens s.data.toList ∧ ∃ pre t, l = pre ++ [t] ∧ t.k = 6
  few : l.length ≤ 1000000000
  low : n ≤ 60001
theorem pair_of {s : ByteArray} (h : No13 s.data.toList) (hs : s.size ≤ 3000) : ∃ l x n n', Pair s l x n n' := by
  have hu := tokens_up s.data.toList h (by show s.size ≤ _; omega)
  have hl := tokens_lines s.data.toList h (by show s.size ≤ _; omega)
  have hf := tokens_len s.data.toList (by show s.size ≤ _; omega)
  have hnb := tokens_bound s.data.toList (by show s.size ≤ _; omega)
  have hc : (⟨#[10]⟩ ++ s : ByteArray).data.toList = 10 :: s.data.toList := by rw [ByteArray.data_append]; simp
  rw [← hc] at hu
  generalize hR : tokensL s.data.toList = R at *
  obtain ⟨l, x, n⟩ := R
  refine ⟨l, x, n, if x = 0 then n else n + 1, hR, hu, ?_, fun hx => if_neg hx, fun hx => ?_, fun hx => ?_, hf, hnb⟩
  · rcases hl with ⟨_, hl⟩ | ⟨_, hl⟩
    · rw [show l = [] from hl]; exact fun i hi => absurd hi (Nat.not_lt_zero _)
    · exact hl.1
  · rcases hl with ⟨_, hl⟩ | ⟨h0, _⟩
    · exact hl
    · exact absurd h0 hx
  · rcases hl with ⟨h0, _⟩ | ⟨_, hl⟩
    · exact absurd hx h0
    · exact hl.2

set_option maxHeartbeats 4000000 in
set_option maxRecDepth 100000 in
theorem lexLines_walk (s : ByteArray) (w : World) (hV : LVars w) :
    Calls Tryz.prog 6 #[.string s] w fun e w' => e = .returned (.bool true) ∧ Below w.heap.size w w' := by
  have HV := Lib.hid hV
  clear hV
  by_cases h4 : (3000 : Int) < s.size
  · go_enter Tryz.func6, Tryz.ntmps6
    go_wp2_with fail
    refine (awake_lex _ HV.out).mono ?_
    rintro e w1 ⟨rfl, b1⟩
    go_wp2
    go_ret
    exact ⟨rfl, b1⟩
  · have h4' : s.size ≤ 3000 := by omega
    go_enter Tryz.func6, Tryz.ntmps6
    go_wp2_with fail
    go_loop [3] (fun i => ∃ k : Nat, i = .int .i64 k ∧ k ≤ s.size ∧ ∀ j, j < k → byteAt s j ≠ 13) (fun i => s.size - (intOf i).toNat)
    case atStart => exact ⟨0, rfl, Nat.zero_le _, fun j hj => absurd hj (Nat.not_lt_zero _)⟩
    case round =>
      obtain ⟨k, rfl, hk, h13⟩ := hrel
      by_cases hlt : k < s.size
      · have hlt' : (k : Int) < s.size := by omega
        have hx := run_index_at (P := Tryz.prog) 9 s (k : Int) k Tryz.underlying9 hlt rfl
        by_cases hc : byteAt s k = 13
        · have hc' : (((byteAt s k : Nat) : Int) == 13) = true := by rw [hc]; rfl
          generalize byteAt s k = b at *
          clear h13
          go_wp2_with fail
          refine (awake_lex _ HV.out).mono ?_
          rintro e w1 ⟨rfl, b1⟩
          go_wp2_with fail
          go_ret
          exact ⟨rfl, b1⟩
        · have HS := Lib.hid (show ∀ j, j < k + 1 → byteAt s j ≠ 13 from fun j hj => by
            by_cases hjk : j = k
            · rw [hjk]; exact hc
            · exact h13 j (by omega))
          have hc' : (((byteAt s k : Nat) : Int) == 13) = false := by rw [beq_eq_false_iff_ne]; omega
          generalize byteAt s k = b at *
          clear h13
          go_wp2_with fail
          go_round
          case rel => exact ⟨k + 1, by go_num, by omega, HS.out⟩
          case measure => simp only [intOf]; omega
      · have hnlt : ¬ (k : Int) < s.size := by omega
        obtain rfl : k = s.size := by omega
        obtain ⟨l, x, n, n', hP⟩ := pair_of (no13_of h13) h4'
        have HP := Lib.hid hP
        have c1 := own_tokens s w HV.out
        have c2 := fun w hV => own_tokens (⟨#[10]⟩ ++ s) w hV
        rw [hP.one] at c1
        rw [hP.two] at c2
        unfold ToksSays at c1 c2
        dsimp only at c1 c2
        have hcat := fun w => run_string_add_sum (P := Tryz.prog) (w := w) ⟨#[10]⟩ s (by show 1 + s.size ≤ _; omega)
        clear h13 hP
        generalize (⟨#[10]⟩ ++ s : ByteArray) = s2 at *
        go_wp2_with fail
        refine c1.mono ?_
        rintro e w1 ⟨v, rfl, hv, hb⟩
        have B1 := Lib.hid hb
        have V1 := Lib.hid hv
        clear hb hv
        go_wp2_with fail
        refine (c2 _ (HV.out.below (B1.out.alloc B1.out.size _))).mono ?_
        rintro e w2 ⟨v2, rfl, hv2, hb2⟩
        have hA : (w2.alloc (.cells #[.int .i64 x, .int .i64 n'] 33)).heap[w1.heap.size]? = some (.cells #[.int .i64 x, .int .i64 n] 33 (0, 0)) := by
          rw [heap_old _ (by have := hb2.size; simp at this; omega), hb2.block w1.heap.size (by simp), heap_new]
        have k0 := cell_of_heap4 hA 0 (.int .i64 x) rfl
        have k1 := cell_of_heap4 hA 1 (.int .i64 n) rfl
        have hbb := (((Below.refl w1.heap.size w1).alloc (Nat.le_refl _) (.cells #[.int .i64 x, .int .i64 n] 33)).trans (hb2.mono (by simp)))
        have hnew := (Below.refl w2.heap.size w2).alloc (Nat.le_refl _) (.cells #[.int .i64 x, .int .i64 n'] 33)
        have V2 := Lib.hid ((V1.out.below hbb).below hnew)
        have U2 := Lib.hid (hv2.below hnew)
        have B2 := Lib.hid (trans_below (trans_below B1.out hbb) hnew)
        have k2 := cell_of_heap4 (heap_new w2 (.cells #[.int .i64 x, .int .i64 n'] 33)) 0 (.int .i64 x) rfl
        have k3 := cell_of_heap4 (heap_new w2 (.cells #[.int .i64 x, .int .i64 n'] 33)) 1 (.int .i64 n') rfl
        have hg1 : w1.heap.size < (w2.alloc (.cells #[.int .i64 x, .int .i64 n'] 33)).heap.size := (Array.getElem?_eq_some_iff.1 hA).1
        have hg2 : w2.heap.size < (w2.alloc (.cells #[.int .i64 x, .int .i64 n'] 33)).heap.size := by simp
        clear hA hbb hnew hb2 hv2 B1 V1 c1 c2 hcat
        go_upto_region 10 with fail
        generalize w2.alloc (.cells #[.int .i64 x, .int .i64 n'] 33) = W at *
        generalize w1.heap.size = g1 at *
        generalize w2.heap.size = g2 at *
        have hnb := HP.out.low
        have hlb := HP.out.few
        obtain ⟨ao, ca, rfl, hca⟩ := V2.out
        obtain ⟨bo, cb, rfl, hcb⟩ := U2.out
        clear V2 U2
        rw [List.length_map] at *
        by_cases hx : x = 0
        · subst hx
          rw [show ((0 : Nat) : Int) = 0 from rfl] at *
          obtain ⟨hla, pre, tk, hpre, hk6⟩ := HP.out.last rfl
          have hri := HP.out.rises
          have hte : tens s.data.toList ≤ s.size := tens_le s.data.toList
          have HL := Lib.hid hla
          have HPR := Lib.hid hpre
          have HR := Lib.hid hri
          have hl30 : lastL l ≤ 3001 := by omega
          clear hla hpre hri hte
          go_wp2_with fail
          go_loopg [8, 9] l.length (fun r la i wr => ∃ k : Nat, r = l.length - k ∧ la = .int .i64 (lastL (l.take k) : Nat) ∧ i = .int .i64 k ∧ k ≤ l.length ∧ Below W.heap.size W wr)
          case atStart => exact ⟨0, rfl, rfl, rfl, Nat.zero_le _, Below.refl _ _⟩
          case round =>
            obtain ⟨k, rfl, rfl, rfl, hk2, hbw⟩ := hrel
            by_cases hlt2 : k < l.length
            · have hlt2' : (k : Int) < l.length := by omega
              have hlm : k < (l.map up).length := by rw [List.length_map]; exact hlt2
              obtain ⟨h1, hh1, rfl, hc⟩ := hca (fun h => by rw [h] at hlt2; cases hlt2)
              obtain ⟨h2, hh2, rfl, hd⟩ := hcb (fun h => by rw [h] at hlm; cases hlm)
              have c3 := (hc k hlt2).2.2.2
              have d3 := (hd k hlm).2.2.2
              rw [← hbw.cell (p := ⟨h1, _, none⟩) hh1] at c3
              rw [← hbw.cell (p := ⟨h2, _, none⟩) hh2, List.getElem_map] at d3
              rw [show ((up l[k]).line : Int) = (l[k].line : Int) + 1 from by show ((l[k].line + 1 : Nat) : Int) = _; omega] at d3
              have hge := HR.out k hlt2
              have hle := HR.out.line_le k hlt2
              have hsn := Lib.hid (lastL_take l k hlt2)
              have HBW := Lib.hid hbw
              generalize l[k].line = ln at *
              generalize lastL (l.take k) = la at *
              clear hca hcb hc hd hbw k0 k1 k2 k3
              have e1 : (decide ((ln : Int) < la)) = false := by rw [decide_eq_false_iff_not]; omega
              have e0 := IntWalk.i64_in k (by omega)
              have e2 := IntWalk.i64_in ((ln : Int) + 1) (by omega)
              go_wp2_with fail
              go_quiet (fail)
              have HB3 := Lib.hid (below_drewN HBW.out nq)
              clear e0 e2 d3
              go_wp2_with fail
              go_roundg (l.length - (k + 1))
              case measure => omega
              case rel => exact ⟨k + 1, rfl, by rw [hsn.out], by go_num, by omega, HB3.out⟩
            · have hlt2' : ¬ (k : Int) < l.length := by omega
              obtain rfl : k = l.length := by omega
              have HBW := Lib.hid hbw
              rw [List.take_length]
              rw [← hbw.cell (p := ⟨g1, _, none⟩) hg1] at k0
              clear hbw k1 k2 k3
              go_wp2_with fail
              go_loop [10, 11] (fun n i => ∃ k : Nat, i = .int .i64 k ∧ k ≤ s.size ∧ n = .int .i64 (1 + (tens (s.data.toList.take k) : Nat) : Int)) (fun _ i => s.size - (intOf i).toNat)
              case atStart => exact ⟨0, rfl, Nat.zero_le _, rfl⟩
              case round =>
                obtain ⟨k, rfl, hk5, rfl⟩ := hrel
                by_cases hlt5 : k < s.size
                · have hlt5' : (k : Int) < s.size := by omega
                  have hx5 := run_index_at (P := Tryz.prog) 9 s (k : Int) k Tryz.underlying9 hlt5 rfl
                  have hst := tens_step s k hlt5
                  have htk : tens (s.data.toList.take k) ≤ k := Nat.le_trans (tens_le _) (by rw [List.length_take]; omega)
                  have htk' : ((tens (s.data.toList.take k) : Nat) : Int) ≤ 3000 := by omega
                  by_cases h10 : byteAt s k = 10
                  · rw [if_pos h10] at hst
                    have hc5 : (((byteAt s k : Nat) : Int) == 10) = true := by rw [h10]; rfl
                    have HT := Lib.hid hst
                    clear hst h10 htk
                    generalize byteAt s k = b at *
                    generalize tens (s.data.toList.take k) = m at *
                    go_wp2_with fail
                    go_round
                    case rel => exact ⟨k + 1, by go_num, by omega, by rw [HT.out]; go_num⟩
                    case measure => simp only [intOf]; omega
                  · rw [if_neg h10] at hst
                    have hc5 : (((byteAt s k : Nat) : Int) == 10) = false := by rw [beq_eq_false_iff_ne]; omega
                    have HT := Lib.hid hst
                    clear hst h10 htk
                    generalize byteAt s k = b at *
                    generalize tens (s.data.toList.take k) = m at *
                    go_wp2_with fail
                    go_round
                    case rel => exact ⟨k + 1, by go_num, by omega, by rw [HT.out]; rfl⟩
                    case measure => simp only [intOf]; omega
                · have hlt5' : ¬ (k : Int) < s.size := by omega
                  obtain rfl : k = s.size := by omega
                  rw [show s.data.toList.take s.size = s.data.toList from List.take_length]
                  have hje : l.length = pre.length + 1 := by rw [HPR.out]; simp
                  have hkk : ∀ (h : pre.length < l.length), l[pre.length].k = 6 := fun h => by
                    have : l[pre.length]'h = tk := by simp [HPR.out]
                    rw [this]; exact hk6
                  obtain ⟨h1, hh1, rfl, hc⟩ := hca (fun h => by rw [h] at hje; simp at hje)
                  have c0 := (hc pre.length (by omega)).1
                  rw [hkk (by omega), ← HBW.out.cell (p := ⟨h1, _, none⟩) hh1] at c0
                  have HLL := Lib.hid HL.out
                  rw [HL.out, hje]
                  generalize tens s.data.toList = m at *
                  generalize pre.length = j at *
                  clear hca hcb hc HR
                  go_wp2_with fail
                  refine (awake_lex _ (HV.out.below (trans_below B2.out HBW.out))).mono ?_
                  rintro e w9 ⟨rfl, b9⟩
                  have B9 := Lib.hid (trans_below (trans_below B2.out HBW.out) b9)
                  clear b9
                  go_wp2_with fail
                  go_ret
                  exact ⟨rfl, B9.out⟩
        · have hl := HP.out.none hx
          have hn := HP.out.line hx
          subst hl hn
          rw [show ((n + 1 : Nat) : Int) = (n : Int) + 1 from by omega] at *
          have hx' : ((x : Int) != 0) = true := by rw [bne_iff_ne]; omega
          have hnb' : (n : Int) ≤ 60001 := by omega
          rw [List.length_nil]
          go_wp2_with fail
          refine wp_loop_rounds 1 ?_
          rw [rounds_succ]
          go_wp2_with fail
          go_loop [10, 11] (fun n i => ∃ k : Nat, i = .int .i64 k ∧ k ≤ s.size ∧ n = .int .i64 (1 + (tens (s.data.toList.take k) : Nat) : Int)) (fun _ i => s.size - (intOf i).toNat)
          case atStart => exact ⟨0, rfl, Nat.zero_le _, rfl⟩
          case round =>
            obtain ⟨k, rfl, hk5, rfl⟩ := hrel
            by_cases hlt5 : k < s.size
            · have hlt5' : (k : Int) < s.size := by omega
              have hx5 := run_index_at (P := Tryz.prog) 9 s (k : Int) k Tryz.underlying9 hlt5 rfl
              have hst := tens_step s k hlt5
              have htk : tens (s.data.toList.take k) ≤ k := Nat.le_trans (tens_le _) (by rw [List.length_take]; omega)
              have htk' : ((tens (s.data.toList.take k) : Nat) : Int) ≤ 3000 := by omega
              by_cases h10 : byteAt s k = 10
              · rw [if_pos h10] at hst
                have hc5 : (((byteAt s k : Nat) : Int) == 10) = true := by rw [h10]; rfl
                have HT := Lib.hid hst
                clear hst h10 htk
                generalize byteAt s k = b at *
                generalize tens (s.data.toList.take k) = m at *
                go_wp2_with fail
                go_round
                case rel => exact ⟨k + 1, by go_num, by omega, by rw [HT.out]; go_num⟩
                case measure => simp only [intOf]; omega
              · rw [if_neg h10] at hst
                have hc5 : (((byteAt s k : Nat) : Int) == 10) = false := by rw [beq_eq_false_iff_ne]; omega
                have HT := Lib.hid hst
                clear hst h10 htk
                generalize byteAt s k = b at *
                generalize tens (s.data.toList.take k) = m at *
                go_wp2_with fail
                go_round
                case rel => exact ⟨k + 1, by go_num, by omega, by rw [HT.out]; rfl⟩
                case measure => simp only [intOf]; omega
            · have hlt5' : ¬ (k : Int) < s.size := by omega
              obtain rfl : k = s.size := by omega
              rw [show s.data.toList.take s.size = s.data.toList from List.take_length]
              go_wp2_with fail
              refine (awake_lex _ (HV.out.below B2.out)).mono ?_
              rintro e w9 ⟨rfl, b9⟩
              have B9 := Lib.hid (trans_below B2.out b9)
              clear b9
              go_wp2_with fail
              go_ret
              exact ⟨rfl, B9.out⟩

end Go.Proofs.YtajeghkmgcpgiaaGreatDoor.Lex
