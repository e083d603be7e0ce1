/-
  LexTells.
-/
import Derived.Test.YtajeghkmgcpgiaaGreatDoorLexAwake
namespace Go.Proofs.YtajeghkmgcpgiaaGreatDoor.Lex
open Go.RowKit

theorem tokF_len : ∀ (f line : Nat) (l : List UInt8) (acc : List Tok), (tokF f line l acc).1.length ≤ acc.length + f
  | 0, _, _, _ => Nat.zero_le _
  | f + 1, line, l, acc => by
    rw [tokF]
    split
    · show (acc ++ _).length ≤ _
      rw [List.length_append, List.length_singleton]; omega
    · split
      · exact Nat.zero_le _
      · have := tokF_len f
        refine Nat.le_trans (this _ _ _) (by omega)
      · split
        · refine Nat.le_trans (tokF_len f _ _ _) ?_
          rw [List.length_append, List.length_singleton]; omega
        · exact Nat.zero_le _
theorem tokens_len (l : List UInt8) (h : l.length ≤ 100000000) : (tokensL l).1.length ≤ 1000000000 := by
  unfold tokensL
  split
  · exact Nat.zero_le _
  · refine Nat.le_trans (tokF_len _ _ _ _) ?_
    rw [List.length_nil]; omega

set_option maxHeartbeats 2000000 in
set_option maxRecDepth 100000 in
theorem lexTells_walk (s : ByteArray) (w : World) (hV : LVars w) :
    Calls Tryz.prog 4 #[.string s] w fun e w' => e = .returned (.bool true) ∧ Below w.heap.size w w' := by
  have HV := Lib.hid hV
  clear hV
  by_cases h4 : (4000 : Int) < s.size
  · go_enter Tryz.func4, Tryz.ntmps4
    go_wp2_with fail
    refine (awake_lex _ HV.out).mono ?_
    rintro e w1 ⟨rfl, b1⟩
    go_wp2
    go_ret
    exact ⟨rfl, b1⟩
  have c1 := own_tokens s w HV.out
  have c2 := fun w => ref_tokens s w
  have hlen := tokens_len s.data.toList (by show s.size ≤ _; omega)
  have c3 := fun w => own_wordB s w
  have c4 := fun w => ref_word s w
  generalize tokensL s.data.toList = R at *
  obtain ⟨l, x, n⟩ := R
  unfold ToksSays at c1 c2
  dsimp only at c1 c2 hlen
  have hm := fault_guard
  have hq := fun w => eql_fault x n x n w
  rw [decide_eq_true ⟨rfl, rfl⟩] at hq
  generalize wordB s = wd at *
  go_enter Tryz.func4, Tryz.ntmps4
  go_wp2_with fail
  refine c1.mono ?_
  rintro e w1 ⟨v, rfl, hv, hb⟩
  have B1 := Lib.hid hb
  have V1 := Lib.hid hv
  clear hb hv
  go_wp2_with fail
  refine (c2 _).mono ?_
  rintro e w2 ⟨v2, rfl, hv2, hb2⟩
  have hA : (w2.alloc (.cells #[.int .i64 x, .int .i64 n] 33)).heap[w1.heap.size]? = some (.cells #[.int .i64 x, .int .i64 n] 33 (0, 0)) := by
    rw [heap_old _ (by have := hb2.size; simp at this; omega), hb2.block w1.heap.size (by simp), heap_new]
  have k0 := cell_of_heap4 hA 0 (.int .i64 x) rfl
  have k1 := cell_of_heap4 hA 1 (.int .i64 n) rfl
  have hbb := (((Below.refl w1.heap.size w1).alloc (Nat.le_refl _) (.cells #[.int .i64 x, .int .i64 n] 33)).trans (hb2.mono (by simp)))
  have V2 := Lib.hid ((V1.out.below hbb).below ((Below.refl w2.heap.size w2).alloc (Nat.le_refl _) (.cells #[.int .i64 x, .int .i64 n] 33)))
  have U2 := Lib.hid (hv2.below ((Below.refl w2.heap.size w2).alloc (Nat.le_refl _) (.cells #[.int .i64 x, .int .i64 n] 33)))
  have B2 := Lib.hid (trans_below (trans_below B1.out hbb) ((Below.refl w2.heap.size w2).alloc (Nat.le_refl _) (.cells #[.int .i64 x, .int .i64 n] 33)))
  have k2 := cell_of_heap4 (heap_new w2 (.cells #[.int .i64 x, .int .i64 n] 33)) 0 (.int .i64 x) rfl
  have k3 := cell_of_heap4 (heap_new w2 (.cells #[.int .i64 x, .int .i64 n] 33)) 1 (.int .i64 n) rfl
  clear hA hbb hb2 hv2 B1 V1 c1 c2
  go_wp2_with fail
  refine (same_tokens v v2 l l _ V2.out U2.out hlen).mono ?_
  rintro e w3 ⟨rfl, b3⟩
  have B3 := Lib.hid (trans_below B2.out b3)
  rw [decide_eq_true (rfl : l = l)]
  clear b3 k0 k1 k2 k3 V2 U2 hq hm
  go_wp2_with fail
  refine (c3 _).mono ?_
  rintro e w4 ⟨rfl, b4⟩
  have B4 := Lib.hid (trans_below B3.out b4)
  clear b4
  go_wp2_with fail
  refine (c4 _).mono ?_
  rintro e w5 ⟨rfl, b5⟩
  have B5 := Lib.hid (trans_below B4.out b5)
  clear b5
  go_wp2_with fail
  refine (awake_lex _ (HV.out.below B5.out)).mono ?_
  rintro e w6 ⟨rfl, b6⟩
  have B6 := Lib.hid (trans_below B5.out b6)
  clear b6
  go_wp2_with fail
  go_ret
  exact ⟨rfl, B6.out⟩

end Go.Proofs.YtajeghkmgcpgiaaGreatDoor.Lex
