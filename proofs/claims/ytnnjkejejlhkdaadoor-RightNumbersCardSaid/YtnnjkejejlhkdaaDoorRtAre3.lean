/-
  Layer 9: whether a list has as many items as it may have, and each of them is so; with whatever function it is handed.
-/
import Derived.Test.YtnnjkejejlhkdaaDoorRtAre
import Derived.Deep.LoopGhost
import Derived.Deep.DeepCutAuto
namespace Go.Proofs.YtnnjkejejlhkdaaDoor.Rt
open Go Go.RowKit

set_option maxHeartbeats 2000000 in
set_option maxRecDepth 100000 in
theorem are_int {S : Type} (B : Nat) (w : World) (v : Value) (l : List Int) (lo hi : Int) (f : Nat) (bound caps : Array Value) (step : Nat → S → Option S) (I : S → World → Prop) (s0 : S)
    (hv : LstB B w v (ints l)) (hB : B ≤ w.heap.size) (he : Enters f) (hI : Kept I)
    (hc : ∀ i (_ : i < l.length) s w', Below B w w' → w.heap.size ≤ w'.heap.size → I s w' → runN step i s0 = some s → Calls Tryd.prog f (bound ++ (#[.int .i64 (i : Int), .int .i64 l[i]] ++ caps)) w' (StepSays B (step i s) I w'))
    (h0 : I s0 w) :
    Calls Tryd.prog 47 #[v, .agg #[.int .i64 lo, .int .i64 hi], .func (.func f) bound caps] w (AreSays B (spanB lo hi l.length) (runN step l.length s0) I w) := by
  obtain ⟨ao, cap, rfl, hl⟩ := hv.slice
  rw [ints_len] at hl ⊢
  have HV := Lib.hid hv
  have HC := Lib.hid hc
  have HI := Lib.hid hI
  have H0 := Lib.hid h0
  have HB := Lib.hid hB
  clear hv hc hI h0 hB
  unfold Enters at he
  obtain ⟨n, hn⟩ : ∃ n, n = l.length := ⟨_, rfl⟩
  rw [← hn] at hl
  rw [← hn]
  have HN := Lib.hid hn
  clear hn
  unfold Len at hl
  by_cases h1 : (n : Int) < lo
  · have hs : spanB lo hi n = false := by unfold spanB; rw [decide_eq_false (by omega)]; rfl
    rw [hs]
    clear HV
    go_enter Tryd.func47, Tryd.ntmps47
    go_wp2_with fail
    go_ret
    exact ⟨(Below.refl _ _).alloc HB.out _, by simp, rfl, fun s h => by cases h⟩
  by_cases h2 : hi < (n : Int)
  · have hs : spanB lo hi n = false := by unfold spanB; rw [decide_eq_false (p := (n : Int) ≤ hi) (by omega), Bool.and_false]
    rw [hs]
    clear HV
    go_enter Tryd.func47, Tryd.ntmps47
    go_wp2_with fail
    go_ret
    exact ⟨(Below.refl _ _).alloc HB.out _, by simp, rfl, fun s h => by cases h⟩
  have hs : spanB lo hi n = true := by unfold spanB; rw [decide_eq_true (by omega), decide_eq_true (by omega)]; rfl
  rw [hs]
  clear hs
  go_enter Tryd.func47, Tryd.ntmps47
  go_wp2_with fail
  clear h1 h2
  go_loopg [23] n (fun r x wr => ∃ (k : Nat) (s : S), r = n - k ∧ k ≤ n ∧ x = .int .i64 (k : Int) ∧ Below B w wr ∧ w.heap.size ≤ wr.heap.size ∧ runN step k s0 = some s ∧ I s wr)
  case atStart => exact ⟨0, s0, rfl, Nat.zero_le _, rfl, (Below.refl _ _).alloc HB.out _, by simp, rfl, HI.out _ _ _ H0.out ((Below.refl _ _).alloc (Nat.le_refl _) _)⟩
  case round =>
    obtain ⟨k, s, rfl, hk, rfl, hb, hsz, hr, hIs⟩ := hrel
    have HR := Lib.hid hr
    have HS := Lib.hid hIs
    have HBB := Lib.hid hb
    have HSZ := Lib.hid hsz
    clear hr hIs hb hsz
    by_cases hlt : k < n
    · have hlt' : (k : Int) < n := by omega
      have hkl : k < l.length := by have := HN.out; omega
      obtain ⟨g, off, cap, hg, hv, _, c0⟩ := (HV.out.below HBB.out).item (i := k) (by rw [ints_len]; exact hkl)
      injection hv with e1 e2 e3
      subst e1
      subst e3
      unfold ints at c0
      rw [List.getElem_map] at c0
      clear e2
      have c := HC.out k hkl s wr HBB.out HSZ.out HS.out HR.out
      generalize l[k] = ek at *
      go_wp2_with fail
      refine c.mono ?_
      rintro e w1 ⟨hb1, hsz1, rfl, hs1⟩
      have HB1 := Lib.hid (HBB.out.trans (hb1))
      have HSZ1 := Lib.hid (Nat.le_trans HSZ.out hsz1)
      have HS1 := Lib.hid hs1
      have hrs : runN step (k + 1) s0 = step k s := by
        show (runN step k s0).bind (step k) = _
        rw [HR.out]; rfl
      have HRS := Lib.hid hrs
      clear hb1 hsz1 hs1 hrs c
      cases hst : step k s with
      | none =>
        have HST := Lib.hid hst
        clear hst
        go_wp2_with fail
        go_ret
        have hn : runN step n s0 = none := runN_none (HRS.out.trans HST.out) n (by omega)
        exact ⟨HB1.out, HSZ1.out, by rw [hn]; rfl, fun s h h2 => by rw [hn] at h2; cases h2⟩
      | some s1 =>
        have HST := Lib.hid hst
        clear hst
        go_wp2_with fail
        go_roundg (n - (k + 1))
        case rel => exact ⟨k + 1, s1, rfl, by omega, by go_num, HB1.out, HSZ1.out, HRS.out.trans HST.out, HS1.out _ HST.out⟩
        case measure => omega
    · obtain rfl : k = n := by omega
      go_wp2_with fail
      go_ret
      exact ⟨HBB.out, HSZ.out, by rw [HR.out]; rfl, fun s' _ h => by rw [HR.out] at h; injection h with h; subst h; exact HS.out⟩

set_option maxHeartbeats 2000000 in
set_option maxRecDepth 100000 in
theorem are_str {S : Type} (B : Nat) (w : World) (v : Value) (l : List ByteArray) (lo hi : Int) (f : Nat) (bound caps : Array Value) (step : Nat → S → Option S) (I : S → World → Prop) (s0 : S)
    (hv : LstB B w v (texts l)) (hB : B ≤ w.heap.size) (he : Enters f) (hI : Kept I)
    (hc : ∀ i (_ : i < l.length) s w', Below B w w' → w.heap.size ≤ w'.heap.size → I s w' → runN step i s0 = some s → Calls Tryd.prog f (bound ++ (#[.int .i64 (i : Int), .string l[i]] ++ caps)) w' (StepSays B (step i s) I w'))
    (h0 : I s0 w) :
    Calls Tryd.prog 17 #[v, .agg #[.int .i64 lo, .int .i64 hi], .func (.func f) bound caps] w (AreSays B (spanB lo hi l.length) (runN step l.length s0) I w) := by
  obtain ⟨ao, cap, rfl, hl⟩ := hv.slice
  rw [texts_len] at hl ⊢
  have HV := Lib.hid hv
  have HC := Lib.hid hc
  have HI := Lib.hid hI
  have H0 := Lib.hid h0
  have HB := Lib.hid hB
  clear hv hc hI h0 hB
  unfold Enters at he
  obtain ⟨n, hn⟩ : ∃ n, n = l.length := ⟨_, rfl⟩
  rw [← hn] at hl
  rw [← hn]
  have HN := Lib.hid hn
  clear hn
  unfold Len at hl
  by_cases h1 : (n : Int) < lo
  · have hs : spanB lo hi n = false := by unfold spanB; rw [decide_eq_false (by omega)]; rfl
    rw [hs]
    clear HV
    go_enter Tryd.func17, Tryd.ntmps17
    go_wp2_with fail
    go_ret
    exact ⟨(Below.refl _ _).alloc HB.out _, by simp, rfl, fun s h => by cases h⟩
  by_cases h2 : hi < (n : Int)
  · have hs : spanB lo hi n = false := by unfold spanB; rw [decide_eq_false (p := (n : Int) ≤ hi) (by omega), Bool.and_false]
    rw [hs]
    clear HV
    go_enter Tryd.func17, Tryd.ntmps17
    go_wp2_with fail
    go_ret
    exact ⟨(Below.refl _ _).alloc HB.out _, by simp, rfl, fun s h => by cases h⟩
  have hs : spanB lo hi n = true := by unfold spanB; rw [decide_eq_true (by omega), decide_eq_true (by omega)]; rfl
  rw [hs]
  clear hs
  go_enter Tryd.func17, Tryd.ntmps17
  go_wp2_with fail
  clear h1 h2
  go_loopg [23] n (fun r x wr => ∃ (k : Nat) (s : S), r = n - k ∧ k ≤ n ∧ x = .int .i64 (k : Int) ∧ Below B w wr ∧ w.heap.size ≤ wr.heap.size ∧ runN step k s0 = some s ∧ I s wr)
  case atStart => exact ⟨0, s0, rfl, Nat.zero_le _, rfl, (Below.refl _ _).alloc HB.out _, by simp, rfl, HI.out _ _ _ H0.out ((Below.refl _ _).alloc (Nat.le_refl _) _)⟩
  case round =>
    obtain ⟨k, s, rfl, hk, rfl, hb, hsz, hr, hIs⟩ := hrel
    have HR := Lib.hid hr
    have HS := Lib.hid hIs
    have HBB := Lib.hid hb
    have HSZ := Lib.hid hsz
    clear hr hIs hb hsz
    by_cases hlt : k < n
    · have hlt' : (k : Int) < n := by omega
      have hkl : k < l.length := by have := HN.out; omega
      obtain ⟨g, off, cap, hg, hv, _, c0⟩ := (HV.out.below HBB.out).item (i := k) (by rw [texts_len]; exact hkl)
      injection hv with e1 e2 e3
      subst e1
      subst e3
      unfold texts at c0
      rw [List.getElem_map] at c0
      clear e2
      have c := HC.out k hkl s wr HBB.out HSZ.out HS.out HR.out
      generalize l[k] = ek at *
      go_wp2_with fail
      refine c.mono ?_
      rintro e w1 ⟨hb1, hsz1, rfl, hs1⟩
      have HB1 := Lib.hid (HBB.out.trans (hb1))
      have HSZ1 := Lib.hid (Nat.le_trans HSZ.out hsz1)
      have HS1 := Lib.hid hs1
      have hrs : runN step (k + 1) s0 = step k s := by
        show (runN step k s0).bind (step k) = _
        rw [HR.out]; rfl
      have HRS := Lib.hid hrs
      clear hb1 hsz1 hs1 hrs c
      cases hst : step k s with
      | none =>
        have HST := Lib.hid hst
        clear hst
        go_wp2_with fail
        go_ret
        have hn : runN step n s0 = none := runN_none (HRS.out.trans HST.out) n (by omega)
        exact ⟨HB1.out, HSZ1.out, by rw [hn]; rfl, fun s h h2 => by rw [hn] at h2; cases h2⟩
      | some s1 =>
        have HST := Lib.hid hst
        clear hst
        go_wp2_with fail
        go_roundg (n - (k + 1))
        case rel => exact ⟨k + 1, s1, rfl, by omega, by go_num, HB1.out, HSZ1.out, HRS.out.trans HST.out, HS1.out _ HST.out⟩
        case measure => omega
    · obtain rfl : k = n := by omega
      go_wp2_with fail
      go_ret
      exact ⟨HBB.out, HSZ.out, by rw [HR.out]; rfl, fun s' _ h => by rw [HR.out] at h; injection h with h; subst h; exact HS.out⟩

end Go.Proofs.YtnnjkejejlhkdaaDoor.Rt
