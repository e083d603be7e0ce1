/-
  A part of the proof.
-/
import Derived.Deep.CutRange
import Derived.Lib.Hide
import Derived.Test.YtnkejjlidgnkkaaGreatDoorClRZM
set_option maxRecDepth 100000
set_option maxHeartbeats 40000000
namespace Go.Proofs.YtnkejjlidgnkkaaGreatDoor.Ps

open Go.Lib renaming hid → qh
open Go Go.RowKit Go.ChangeShapes Go.WideShapes Go.Shelf
open Go.Proofs.YtnkejjlidgnkkaaGreatDoor.Nd
open Go.Proofs.YtnkejjlidgnkkaaGreatDoor.Lex (Tok tokensL TokReads ToksSays LVars)
theorem neq_same : ∀ w : World, (binOp .neq 30 (.agg #[.int .i64 0, .int .i64 0]) (.agg #[.int .i64 0, .int .i64 0])).run Tryz.prog w = .ok (.bool false) w := fun w => neq_fault 0 0 0 0 w
theorem neq_other {a : Int} (b : Int) (h : a ≠ 0) : ∀ w : World, (binOp .neq 30 (.agg #[.int .i64 a, .int .i64 b]) (.agg #[.int .i64 0, .int .i64 0])).run Tryz.prog w = .ok (.bool true) w := fun w => by
 rw [neq_fault, show decide (a = 0 /\ b = 0) = false from decide_eq_false (fun h2 => h h2.1)]; rfl
structure At3 (w W : World) (A G : Nat) (v : Value) (r e n e2 n2 : Int) : Prop where
 syn : W.heap[A]? = some (.cells #[v, .int .i64 r] 27 (0, 0))
 flt : W.heap[A + 1]? = some (.cells #[.int .i64 e, .int .i64 n] 30 (0, 0))
 lex : W.heap[G]? = some (.cells #[.int .i64 e2, .int .i64 n2] 30 (0, 0))
 old : Below w.heap.size w W
def prevK (ks : List Int) (j : Nat) : Int := if j = 0 then -1 else ks.getD (j - 1) 0
theorem prevK_succ (ks : List Int) (j : Nat) (h : j < ks.length) : prevK ks (j + 1) = ks[j] := by
 unfold prevK;rw [if_neg (by omega), Nat.add_sub_cancel, List.getD_eq_getElem?_getD, List.getElem?_eq_getElem h, Option.getD_some]
theorem prevK_lt {ks : List Int} (hs : ks.Pairwise (· < ·)) (h0 : ∀ c ∈ ks, 0 <= c) (j : Nat) (h : j < ks.length) : prevK ks j < ks[j] := by
 unfold prevK;by_cases hj : j = 0
 ·rw [if_pos hj];have := h0 _ (List.getElem_mem h);omega
 ·rw [if_neg hj, List.getD_eq_getElem?_getD, List.getElem?_eq_getElem (by omega), Option.getD_some];exact (List.pairwise_iff_getElem.1 hs) (j - 1) j (by omega) h (by omega)
theorem parseRight_small (t : ByteArray) (w : World) (hv : PVars w) (hs : ¬ (5000 : Int) < t.size) :
  Calls Tryz.prog 4 #[.string t] w fun en w' => en = .returned (.bool true) /\ Below w.heap.size w w' := by
 have HV := qh hv;have HPC := qh (parse_calls t w hv);have HTC := qh (fun w' (hb : Below w.heap.size w w') => Lex.own_tokens t w' (hv.below hb).lex);have HAW := qh (fun w' (hb : Below w.heap.size w w') => awake_fn w' (hv.below hb));have HPR := qh (parse_right t);have hT0 := tokens_line0 t.data.toList;have HSY := qh (fun (w w' : World) (v : Value) (rs : List R3) => says_syn (text := t) (w := w) (w' := w') (v := v) (rs := rs));have HFI := qh (parse_fine t);clear hv;generalize parseL t = R at *;generalize tokensL t.data.toList = T at *;obtain ⟨l, r, er, li⟩ := R;obtain ⟨tl, e2, n2⟩ := T;simp only at HPR hT0 HSY HFI;obtain ⟨N, hN⟩ : ∃ N, l.length = N := ⟨_, rfl⟩;have HN := qh hN;have HT0 := qh hT0;clear hN hT0;go_enter Tryz.func4, Tryz.ntmps4;go_wp2_with fail;refine HPC.out.mono ?_;rintro en w1 ⟨v, rs, rfl, ho, hm, hb⟩;have HS := qh (HSY.out w w1 v rs ho hm);obtain ⟨ao, c, rfl⟩ := own_slice ho.1;have hlen : rs.length = N := by have := congrArg List.length hm; rw [List.length_map] at this; exact this.trans HN.out
 rw [hlen] at HS ⊢;have B1 := qh hb;clear ho hm hlen hb HSY HPC;obtain ⟨W2, hW2⟩ : ∃ W2, two w1 (.slice ao N c) r er li = W2 := ⟨_, rfl⟩;have hal : Below w1.heap.size w1 W2 := hW2 ▸ two_old;have q1 : W2.heap[w1.heap.size]? = some (.cells #[.slice ao N c, .int .i64 r] 27 (0, 0)) := hW2 ▸ two_syn;have q2 : W2.heap[w1.heap.size + 1]? = some (.cells #[.int .i64 er, .int .i64 li] 30 (0, 0)) := hW2 ▸ two_fault;have B2 := qh (B1.out.trans (hal.mono B1.out.size));have Q1 := qh q1;have Q2 := qh q2;unfold two at hW2;have HAL := qh hal;clear hal q1 q2;go_wp2_with fail;clear hW2;refine (HTC.out W2 B2.out).mono ?_;rintro en w3 ⟨tv, rfl, -, b3⟩;have q1 := (b3.block _ (lt_of_heap Q1.out)).trans Q1.out;have q2 := (b3.block _ (lt_of_heap Q2.out)).trans Q2.out;have B3 := qh (B2.out.trans (b3.mono B2.out.size));have HAL3 := qh (HAL.out.trans (b3.mono HAL.out.size));obtain ⟨A, hA⟩ : ∃ A, A = w1.heap.size := ⟨_, rfl⟩;rw [<- hA] at q1 q2 ⊢;obtain ⟨W, hW⟩ : ∃ W, w3.alloc (.cells #[.int .i64 e2, .int .i64 n2] 30) = W := ⟨_, rfl⟩;have hAt : At3 w W A w3.heap.size (.slice ao N c) r er li e2 n2 := hW ▸ ⟨miss6 q1, miss6 q2, hit rfl, B3.out.alloc B3.out.size _⟩;have HSW := qh (fun h => (HS.out h).below (HAL3.out.trans (show Below w1.heap.size w3 W from hW ▸ (Below.refl _ _).alloc (by have := HAL3.out.size; omega) _)));have HAT := qh hAt;clear HAL HAL3 b3 q1 q2 hA B1 B2 B3 Q1 Q2 HS hAt;have z0 := cell_of HAT.out.syn 0 (.slice ao N c) rfl;have z1 := cell_of HAT.out.syn 1 (.int .i64 r) rfl;have y0 := cell_of HAT.out.flt 0 (.int .i64 er) rfl;have y1 := cell_of HAT.out.flt 1 (.int .i64 li) rfl;have x0 := cell_of HAT.out.lex 0 (.int .i64 e2) rfl;have x1 := cell_of HAT.out.lex 1 (.int .i64 n2) rfl;go_upto_region 5 with fail;clear hW;rcases HPR.out with ⟨h1, h2, h3, hR, hr, hpost⟩ | ⟨h1, h2, h3, h4, h5⟩ | ⟨h1, h2⟩
 ·have h0 := HT0.out h1;subst h1 h2 h3 h0;simp only [show ((0 : Nat) : Int) = 0 from rfl] at x0 x1 y0 y1 HAT ⊢;have hrN : r = (N : Int) - 1 := by rw [<- HN.out]; exact hr
  clear hr;subst hrN;have hS := HSW.out hR;obtain ⟨hh, hP⟩ := hpost;have hPI := hP.inv;have hRT := right_true hS (HFI.out hR) hR;have HLESS := qh hPI.less;have HSORT := qh hPI.sorted;have hfew := hR.few;have hN4 : N <= 4096 := by have := HN.out; omega
  clear hfew hPI hP hR HSW HFI HPR HTC HT0;have HS := qh hS;clear hS;have hne := neq_same;have e1 : IntKind.i64.wrap ((N : Int) - 1) = (N : Int) - 1 := IntWalk.i64_in _ (by omega);go_wp2_with fail;refine hRT.mono ?_;rintro en W5 ⟨rfl, b5⟩;clear hRT hne;have HS5 := qh (HS.out.below b5);have z0 := cell_of ((b5.block _ (lt_of_heap HAT.out.syn)).trans HAT.out.syn) 0 (.slice ao N c) rfl;have z1 := cell_of ((b5.block _ (lt_of_heap HAT.out.syn)).trans HAT.out.syn) 1 (.int .i64 ((N : Int) - 1)) rfl;have B5 := qh (HAT.out.old.trans (b5.mono HAT.out.old.size));clear x0 x1 y0 y1 b5 HS;go_wp2_with fail;clear z1 e1;go_loopg [7] N (fun rr i wr => ∃ k : Nat, rr = N - k /\ i = .int .i64 k /\ k <= N /\ W5 = wr)
  case atStart => exact ⟨0, rfl, rfl, Nat.zero_le _, rfl⟩
  case round =>
   obtain ⟨k, rfl, rfl, hk, rfl⟩ := hrel;by_cases hlt : k < N
   ·have hlt' : (k : Int) < N := by omega
    have hlta : k < l.length := by have := HN.out; omega
    obtain ⟨v0, hv0, ⟨ao2, ca2, hv1, -, hca⟩, -⟩ := HS5.out;cases hv0;simp only [Value.slice.injEq] at hv1;obtain ⟨rfl, -, rfl⟩ := hv1;obtain ⟨g, off, hg, rfl, hc⟩ := hca (fun h => by rw [h] at hlta; cases hlta);obtain ⟨vn, vk, c0, c1, c2, c3, c4, c5, cn, ck, -⟩ := hc k hlta;have hin : inR l (k : Int) := ⟨Int.natCast_nonneg _, by omega⟩;have hat : at' l (k : Int) = l[k] := by
     unfold at';rw [Int.toNat_natCast, List.getD_eq_getElem?_getD, List.getElem?_eq_getElem hlta, Option.getD_some]
    have hless := HLESS.out _ hin;have hsort := HSORT.out _ hin;rw [hat] at hless hsort;generalize l[k].kids = ks at *;clear c0 c1 c2 c3 c5 cn hc hca hat hin;obtain ⟨a2, e2, rfl, hkl, hkc⟩ := ck;rw [List.length_map] at c4 hkl;obtain ⟨M, hM⟩ : ∃ M, ks.length = M := ⟨_, rfl⟩;rw [hM] at c4 hkl;have HKC := qh hkc;have HM := qh hM;have HL2 := qh hless;have HS2 := qh hsort;clear hkc hM hless hsort;have hk64 := IntWalk.i64_in k (by omega);go_wp2_with fail;go_loopg [8, 9] M (fun rr la j wr => ∃ m : Nat, rr = M - m /\ j = .int .i64 m /\ la = .int .i64 (prevK ks m) /\ m <= M /\ W5 = wr)
    case atStart => exact ⟨0, rfl, rfl, rfl, Nat.zero_le _, rfl⟩
    case round =>
     obtain ⟨m, rfl, rfl, rfl, hm, rfl⟩ := hrel;by_cases hmt : m < M
     ·have hmt' : (m : Int) < M := by omega
      have hma : m < ks.length := by have := HM.out; omega
      obtain ⟨g2, off2, hg2, rfl, hc2⟩ := HKC.out (fun h => by rw [List.map_eq_nil_iff] at h; rw [h] at hma; cases hma);have d0 := hc2 m (by rw [List.length_map]; exact hma);rw [List.getElem_map] at d0;have f1 := (HL2.out _ (List.getElem_mem hma)).2;have f2 := prevK_lt HS2.out (fun c hc => (HL2.out c hc).1) m hma;have f3 := prevK_succ ks m hma;generalize ks[m] = x at *;generalize prevK ks m = la at *;have f4 : ¬ (k : Int) <= x := by omega
      have f5 : ¬ x <= la := by omega
      have F3 := qh f3;clear hc2 f3;have hm64 := IntWalk.i64_in m (by omega);go_wp2_with fail;go_roundg (M - (m + 1))
      case measure => omega
      case rel => exact ⟨m + 1, rfl, by go_num, by rw [F3.out], by omega, rfl⟩
     ·have hmt' : ¬ (m : Int) < M := by omega
      go_wp2_with fail;go_roundg (N - (k + 1))
      case measure => omega
      case rel => exact ⟨k + 1, rfl, by go_num, by omega, rfl⟩
   ·have hlt' : ¬ (k : Int) < N := by omega
    go_wp2_with fail;refine (HAW.out _ B5.out).mono ?_;rintro en w' ⟨rfl, b⟩;have BB := qh (B5.out.trans (b.mono B5.out.size));clear b;go_wp2_with fail;go_ret;exact ⟨rfl, BB.out⟩
 ·have h0 := HT0.out h1;subst h1 h0 h2;have hne0 := neq_same;have hne := neq_other (a := (er : Int)) (li : Int) (by omega);have hl := HN.out;have hN0 : (N : Int) = 0 := by rw [<- hl]; rfl
  have hli : ¬ ((li : Int) < 1) := by omega
  clear hl;rcases h4 with h4 | h4
  ·subst h4;go_wp2_with fail;refine (HAW.out _ HAT.out.old).mono ?_;rintro en w' ⟨rfl, b⟩;have BB := qh (HAT.out.old.trans (b.mono HAT.out.old.size));clear b;go_wp2_with fail;go_ret;exact ⟨rfl, BB.out⟩
  ·subst h4;go_wp2_with fail;refine (HAW.out _ HAT.out.old).mono ?_;rintro en w' ⟨rfl, b⟩;have BB := qh (HAT.out.old.trans (b.mono HAT.out.old.size));clear b;go_wp2_with fail;go_ret;exact ⟨rfl, BB.out⟩
 ·simp only [Prod.mk.injEq] at h1 h2;obtain ⟨rfl, rfl, rfl, rfl⟩ := h2;have hne := neq_other (a := (er : Int)) (li : Int) (by omega);have heq : ∀ w : World, (binOp .eql 30 (.agg #[.int .i64 er, .int .i64 li]) (.agg #[.int .i64 er, .int .i64 li])).run Tryz.prog w = .ok (.bool true) w := fun w => by
   rw [eql_fault, show decide ((er : Int) = er /\ (li : Int) = li) = true from decide_eq_true ⟨rfl, rfl⟩]
  have hl := HN.out;have hN0 : (N : Int) = 0 := by rw [<- hl]; rfl
  clear hl;go_wp2_with fail;refine (HAW.out _ HAT.out.old).mono ?_;rintro en w' ⟨rfl, b⟩;have BB := qh (HAT.out.old.trans (b.mono HAT.out.old.size));clear b;go_wp2_with fail;go_ret;exact ⟨rfl, BB.out⟩
theorem parseRight_walk (t : ByteArray) (w : World) (hv : PVars w) :
  Calls Tryz.prog 4 #[.string t] w fun en w' => en = .returned (.bool true) /\ Below w.heap.size w w' := by
 by_cases hs : (5000 : Int) < t.size
 ·have HAW := awake_fn w hv;clear hv;go_enter Tryz.func4, Tryz.ntmps4;go_wp2_with fail;refine HAW.mono ?_;rintro en w' ⟨rfl, b⟩;have BB := qh b;clear b HAW;go_wp2_with fail;go_ret;exact ⟨rfl, BB.out⟩
 ·exact parseRight_small t w hv hs
end Go.Proofs.YtnkejjlidgnkkaaGreatDoor.Ps
