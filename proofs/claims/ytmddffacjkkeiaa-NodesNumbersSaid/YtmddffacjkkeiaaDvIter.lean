/-
  Layer 5: deeper; slices.Backward over a list of places.
-/
import Derived.Test.YtmddffacjkkeiaaDvNode
import Derived.Test.YtmddffacjkkeiaaRfLaw
import Derived.RangeFuncBound
import Derived.RangeFuncBox
import Derived.RangeFuncCalls
import Derived.RangeFuncLeaves
import Derived.Shelf.Abstract
import Derived.Shelf.RegionOpen
import Derived.WalkKit
import Derived.OwnWalkIn
import Derived.TacticsInMore
import Derived.LoopNIn
import Derived.LoopIn
namespace Go.Proofs.Ytmddffacjkkeiaa.Nd
open Go Go.RowKit Go.ChangeShapes Go.WideShapes Go.Shelf
open Go.Proofs.Ytmddffacjkkeiaa.Rf

attribute [local go_sem] Oper.semAt_some

/-! ### deeper -/
theorem deep1 (k : Nat) (i : Nat) (w : World) (h : k = 1 ∨ k = 35) : Calls Try.prog 47 #[.int .u8 (k : Int), .int .i64 (i : Int)] w fun e w' => e = .returned (.int .i64 0) ∧ w = w' := by
  rcases h with rfl | rfl
  · go_enter Try.func47, Try.ntmps47
    go_wp2_with fail
    go_ret
    exact ⟨rfl, rfl⟩
  · go_enter Try.func47, Try.ntmps47
    go_wp2_with fail
    go_ret
    exact ⟨rfl, rfl⟩
theorem deep2 (k : Nat) (i : Nat) (w : World) (h : k = 28 ∨ k = 29 ∨ k = 30 ∨ k = 31 ∨ k = 32 ∨ k = 33) : Calls Try.prog 47 #[.int .u8 (k : Int), .int .i64 (i : Int)] w fun e w' => e = .returned (.int .i64 ((if i = 0 then 0 else 1 : Nat) : Int)) ∧ w = w' := by
  by_cases h0 : i = 0
  · subst h0
    rcases h with rfl | rfl | rfl | rfl | rfl | rfl
    all_goals
      go_enter Try.func47, Try.ntmps47
      go_wp2_with fail
      go_ret
      exact ⟨rfl, rfl⟩
  · rw [if_neg h0]
    have h1 : ¬ (i : Int) < 1 := by omega
    have h2 : (1 : Int) ≤ i := by omega
    have h3 : min (i : Int) 1 = 1 := by omega
    have h4 : 1 ≤ i := by omega
    rcases h with rfl | rfl | rfl | rfl | rfl | rfl
    all_goals
      go_enter Try.func47, Try.ntmps47
      go_wp2
      all_goals
        go_ret
        first
          | exact ⟨rfl, rfl⟩
          | (refine ⟨congrArg (fun z => Ending.returned (.int .i64 z)) ?_, rfl⟩; omega)
theorem deep3 (k : Nat) (i : Nat) (w : World) (h : ¬ (k = 1 ∨ k = 35)) (h' : ¬ (k = 28 ∨ k = 29 ∨ k = 30 ∨ k = 31 ∨ k = 32 ∨ k = 33)) : Calls Try.prog 47 #[.int .u8 (k : Int), .int .i64 (i : Int)] w fun e w' => e = .returned (.int .i64 1) ∧ w = w' := by
  have e1 : ¬ (k : Int) = 1 := by omega
  have e2 : ¬ (k : Int) = 35 := by omega
  have e3 : ¬ (k : Int) = 28 := by omega
  have e4 : ¬ (k : Int) = 29 := by omega
  have e5 : ¬ (k : Int) = 30 := by omega
  have e6 : ¬ (k : Int) = 31 := by omega
  have e7 : ¬ (k : Int) = 32 := by omega
  have e8 : ¬ (k : Int) = 33 := by omega
  clear h h'
  go_enter Try.func47, Try.ntmps47
  go_wp2_with fail
  go_ret
  exact ⟨rfl, rfl⟩
theorem own_deeper (k : Nat) (i : Nat) (w : World) : Calls Try.prog 47 #[.int .u8 (k : Int), .int .i64 (i : Int)] w fun e w' => e = .returned (.int .i64 (up k i : Int)) ∧ w = w' := by
  by_cases h : k = 1 ∨ k = 35
  · have e : up k i = 0 := by unfold up; rw [if_pos (by omega)]
    rw [e]; exact deep1 k i w h
  · by_cases h' : k = 28 ∨ k = 29 ∨ k = 30 ∨ k = 31 ∨ k = 32 ∨ k = 33
    · have e : up k i = if i = 0 then 0 else 1 := by
        unfold up
        by_cases h0 : i = 0
        · rw [if_pos h0, if_pos (by omega)]
        · rw [if_neg h0, if_neg (by omega)]
      rw [e]; exact deep2 k i w h'
    · have e : up k i = 1 := by unfold up; rw [if_neg (by omega)]
      rw [e]; exact deep3 k i w h h'

/-! ### slices.Backward -/
/-- What has come behind j rounds: the last j places, backwards, with their numbers. -/
def backU (ks : List Int) (j : Nat) : List (Nat × Int) := (List.range j).map fun t => (ks.length - 1 - t, ks.getD (ks.length - 1 - t) 0)
theorem backU_succ (ks : List Int) (j : Nat) : backU ks (j + 1) = backU ks j ++ [(ks.length - 1 - j, ks.getD (ks.length - 1 - j) 0)] := by simp [backU, List.range_succ]
theorem backU_length (ks : List Int) (j : Nat) : (backU ks j).length = j := by simp [backU]

set_option maxRecDepth 100000 in
set_option maxHeartbeats 2000000 in
theorem back_in (l Bs n₀ : Nat) (ao : Option Addr) (cap : Nat) (ks : List Int) (hlen : ks.length ≤ 1000000000000000000) (J Jx : List (Nat × Int) → World → Prop)
    (hY : ∀ pre x W, J pre W → (∃ j, j ≤ ks.length ∧ pre ++ [x] = backU ks j) → YieldAt Fence.wide 5 Try.prog l #[.int .i64 (x.1 : Int), .int .i64 x.2] W fun e W' =>
      (e = .returned (.bool true) ∧ J (pre ++ [x]) W' ∧ Tame (fun g _ => decide (n₀ ≤ g) && decide (g ≠ Bs)) W W') ∨ (e = .returned (.bool false) ∧ Jx (pre ++ [x]) W' ∧ Tame (fun g _ => decide (n₀ ≤ g) && decide (g ≠ Bs)) W W'))
    (W : World) (hBs : Boxed W Bs 28 (.slice ao ks.length cap)) (hc : ∀ j, j < ks.length → ∃ g off, ao = some ⟨g, off, none⟩ ∧ g < n₀ ∧ W.cell? ⟨g, off + j, none⟩ = some (.int .i64 (ks.getD j 0))) (hn₀ : n₀ ≤ W.heap.size) (h0 : J [] W) :
    CallsIn Fence.wide 6 Try.prog 62 #[.func (.yield l) #[] #[], .pointer (some ⟨Bs, 0, none⟩)] W fun e W' => (∃ v, e = .returned v) ∧
      ((∃ ys, ys = backU ks ks.length ∧ J ys W') ∨ (∃ pre, (∃ j, j ≤ ks.length ∧ pre = backU ks j) ∧ Jx pre W')) := by
  have HC := Lib.hid hc
  have HBS := Lib.hid hBs
  clear hc
  have c0 := hBs.cell
  clear hBs
  obtain ⟨m, hm⟩ : ∃ m, m = ks.length := ⟨_, rfl⟩
  rw [← hm] at hlen c0 HBS hY ⊢
  have HM := Lib.hid hm
  have HYY := Lib.hid hY
  clear hm hY
  have hw : IntKind.i64.wrap ((m : Int) - 1) = (m : Int) - 1 := IntWalk.i64_in _ (by omega)
  refine callsIn_of_wp Try.func62 rfl trivial ?_ rfl
  simp only [Try.ntmps62, List.size_toArray, List.length_cons, List.length_nil, Nat.reduceAdd, Nat.reduceSub, Array.replicate_succ, Array.replicate_zero, List.push_toArray, List.append_toArray, List.nil_append, List.cons_append]
  gi_wp2
  gi_loopw [3] (fun i wr => ∃ k : Nat, k ≤ m ∧ i = .int .i64 ((m : Int) - 1 - k) ∧ J (backU ks k) wr ∧ Tame (fun g _ => decide (n₀ ≤ g) && decide (g ≠ Bs)) W wr)
    (fun i _ => (intOf i + 1).toNat)
  case atStart => exact ⟨0, Nat.zero_le _, by simp, h0, Tame.refl _ _⟩
  case round =>
    obtain ⟨k, hk, rfl, hJs, hT⟩ := hrel
    have hbx := hT.same _ _ HBS.out (by simp)
    have c0 := cell_of hbx 0 _ rfl
    by_cases hlt : k < m
    · obtain ⟨d, hd⟩ : ∃ d, d = m - 1 - k := ⟨_, rfl⟩
      have hdz : (m : Int) - 1 - k = d := by omega
      have hdm : d < ks.length := by have := HM.out; omega
      obtain ⟨g, off, rfl, hg, hcell⟩ := HC.out d hdm
      have hcell' : wr.cell? ⟨g, off + d, none⟩ = some (.int .i64 (ks.getD d 0)) := by
        have hb := hT.below (n := n₀) (fun g o h => by simp at h; exact h.1) hn₀
        rw [hb.cell (p := ⟨g, off + d, none⟩) hg]; exact hcell
      obtain ⟨z, hz⟩ : ∃ z, ks.getD d 0 = z := ⟨_, rfl⟩
      rw [hz] at hcell'
      have HZ := Lib.hid hz
      obtain ⟨fn, tmps, assign, body, hy, hR⟩ := HYY.out (backU ks k) (d, z) wr hJs ⟨k + 1, by omega, by rw [backU_succ, ← HM.out, ← hd, hz]⟩
      dsimp only at hy
      rw [hdz]
      have hdm2 : (d : Int) < m := by omega
      have hd0 : (0 : Int) ≤ d := Int.natCast_nonneg d
      have HD := Lib.hid hd
      have HDZ := Lib.hid hdz
      clear hcell hd hdz hbx hz
      gi_wp2
      refine hR.mono ?_
      rintro e W3 (⟨rfl, hJ3, hk3⟩ | ⟨rfl, hJx3, _⟩)
      · gi_wp2
        go_roundw
        case rel => exact ⟨k + 1, by omega, by have := HDZ.out; go_num, by rw [backU_succ, ← HM.out, ← HD.out, HZ.out]; exact hJ3, hT.trans hk3⟩
        case measure => simp [intOf] <;> omega
      · gi_wp2
        refine bodyPost_ret (results_none rfl _ _ _) rfl ?_
        exact ⟨⟨_, rfl⟩, .inr ⟨_, ⟨k + 1, by omega, by rw [backU_succ, ← HM.out, ← HD.out, HZ.out]⟩, hJx3⟩⟩
    · obtain rfl : k = m := by omega
      have hz : (k : Int) - 1 - k = -1 := by omega
      rw [hz]
      gi_wp2
      go_end0
      exact ⟨⟨_, rfl⟩, .inl ⟨_, rfl, hJs⟩⟩

theorem own_backward (ao : Option Addr) (n cap : Nat) (w : World) : Calls Try.prog 46 #[.slice ao n cap] w fun e w' => e = .returned (.func (.func 62) #[] #[.pointer (some ⟨w.heap.size, 0, none⟩)]) ∧ w' = w.alloc (.cells #[.slice ao n cap] 28) := by
  go_enter Try.func46, Try.ntmps46
  go_wp2_with fail
  go_ret
  exact ⟨rfl, rfl⟩

theorem back_seq (Bs n₀ : Nat) (ao : Option Addr) (cap : Nat) (ks : List Int) (hlen : ks.length ≤ 1000000000000000000) (w : World) (hBs : Boxed w Bs 28 (.slice ao ks.length cap)) (hc : ∀ j, j < ks.length → ∃ g off, ao = some ⟨g, off, none⟩ ∧ g < n₀ ∧ w.cell? ⟨g, off + j, none⟩ = some (.int .i64 (ks.getD j 0))) (hn₀ : n₀ ≤ w.heap.size) :
    SeqT 6 Try.prog 62 #[.pointer (some ⟨Bs, 0, none⟩)] (fun x : Nat × Int => #[Value.int .i64 (x.1 : Int), Value.int .i64 x.2]) [] (fun _ g _ => decide (n₀ ≤ g) && decide (g ≠ Bs)) (fun pre => ∃ j, j ≤ ks.length ∧ pre = backU ks j) (fun xs => xs = backU ks ks.length) w := by
  intro l J Jx W hW _ _ hY h0
  refine back_in l Bs n₀ ao cap ks hlen J Jx (fun pre x W1 hj hok => hY pre x W1 hj hok) W ((hW.block Bs (hBs.lt)).trans hBs) (fun j hj => ?_) (Nat.le_trans hn₀ hW.size) h0
  obtain ⟨g, off, e, hg, hcell⟩ := hc j hj
  exact ⟨g, off, e, hg, by rw [hW.cell (p := ⟨g, off + j, none⟩) (Nat.lt_of_lt_of_le hg hn₀)]; exact hcell⟩

end Go.Proofs.Ytmddffacjkkeiaa.Nd
