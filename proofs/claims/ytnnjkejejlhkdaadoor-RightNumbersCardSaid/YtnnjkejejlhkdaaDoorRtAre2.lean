/-
  Layer 9: whether a list has as many items as it may have, and each of them is so; with whatever function it is handed.
-/
import Derived.Test.YtnnjkejejlhkdaaDoorRtAre
import Derived.Deep.LoopGhost
import Derived.Deep.DeepCutAuto
namespace Go.Proofs.YtnnjkejejlhkdaaDoor.Rt
open Go Go.RowKit

set_option maxHeartbeats 2000000 in
set_option maxRecDepth 100000 in
theorem are_pr {S : Type} (B : Nat) (w : World) (v : Value) (l : List Pr) (lo hi : Int) (f : Nat) (bound caps : Array Value) (step : Nat → S → Option S) (I : S → World → Prop) (s0 : S)
    (hv : RowsB 8 (PrC B w) B w v l) (hB : B ≤ w.heap.size) (he : Enters f) (hI : Kept I)
    (hc : ∀ i (_ : i < l.length) s w' cs, Below B w w' → w.heap.size ≤ w'.heap.size → I s w' → runN step i s0 = some s → PrC B w' cs l[i] → Calls Tryd.prog f (bound ++ (#[.int .i64 (i : Int), .agg cs] ++ caps)) w' (StepSays B (step i s) I w'))
    (h0 : I s0 w) :
    Calls Tryd.prog 11 #[v, .agg #[.int .i64 lo, .int .i64 hi], .func (.func f) bound caps] w (AreSays B (spanB lo hi l.length) (runN step l.length s0) I w) := by
  obtain ⟨ao, cap, rfl, hl⟩ := hv.slice
  have HV := Lib.hid hv
  have HC := Lib.hid hc
  have HI := Lib.hid hI
  have H0 := Lib.hid h0
  have HB := Lib.hid hB
  clear hv hc hI h0 hB
  unfold Enters at he
  obtain ⟨n, hn⟩ : ∃ n, n = l.length := ⟨_, rfl⟩
  rw [← hn] at hl
  rw [← hn]
  have HN := Lib.hid hn
  clear hn
  unfold Len at hl
  by_cases h1 : (n : Int) < lo
  · have hs : spanB lo hi n = false := by unfold spanB; rw [decide_eq_false (by omega)]; rfl
    rw [hs]
    clear HV
    go_enter Tryd.func11, Tryd.ntmps11
    go_wp2_with fail
    go_ret
    exact ⟨(Below.refl _ _).alloc HB.out _, by simp, rfl, fun s h => by cases h⟩
  by_cases h2 : hi < (n : Int)
  · have hs : spanB lo hi n = false := by unfold spanB; rw [decide_eq_false (p := (n : Int) ≤ hi) (by omega), Bool.and_false]
    rw [hs]
    clear HV
    go_enter Tryd.func11, Tryd.ntmps11
    go_wp2_with fail
    go_ret
    exact ⟨(Below.refl _ _).alloc HB.out _, by simp, rfl, fun s h => by cases h⟩
  have hs : spanB lo hi n = true := by unfold spanB; rw [decide_eq_true (by omega), decide_eq_true (by omega)]; rfl
  rw [hs]
  clear hs
  go_enter Tryd.func11, Tryd.ntmps11
  go_wp2_with fail
  clear h1 h2
  go_loopg [23] n (fun r x wr => ∃ (k : Nat) (s : S), r = n - k ∧ k ≤ n ∧ x = .int .i64 (k : Int) ∧ Below B w wr ∧ w.heap.size ≤ wr.heap.size ∧ runN step k s0 = some s ∧ I s wr)
  case atStart => exact ⟨0, s0, rfl, Nat.zero_le _, rfl, (Below.refl _ _).alloc HB.out _, by simp, rfl, HI.out _ _ _ H0.out ((Below.refl _ _).alloc (Nat.le_refl _) _)⟩
  case round =>
    obtain ⟨k, s, rfl, hk, rfl, hb, hsz, hr, hIs⟩ := hrel
    have HR := Lib.hid hr
    have HS := Lib.hid hIs
    have HBB := Lib.hid hb
    have HSZ := Lib.hid hsz
    clear hr hIs hb hsz
    by_cases hlt : k < n
    · have hlt' : (k : Int) < n := by omega
      have hkl : k < l.length := by have := HN.out; omega
      obtain ⟨g, off, cap, cs, hg, hv, _, hC, hcell⟩ := (HV.out.below HBB.out (fun _ _ h => h.below HBB.out)).item hkl
      injection hv with e1 e2 e3
      subst e1
      subst e3
      have HCs := Lib.hid hC
      obtain ⟨vb, vu, vs, ve, rfl, hbx, hu, hs, he2, _⟩ := hC
      obtain ⟨a0, c90, rfl, _⟩ := hbx.slice
      obtain ⟨a1, c91, rfl, _⟩ := hu.slice
      obtain ⟨a2, c92, rfl, _⟩ := hs.slice
      obtain ⟨a3, c93, rfl, _⟩ := he2.slice
      obtain ⟨_, c0⟩ := hcell 0 (by decide)
      have c0 : wr.cell? ⟨g, off + k * 8, none⟩ = some (.int .i64 l[k].params) := c0
      obtain ⟨_, c1⟩ := hcell 1 (by decide)
      have c1 : wr.cell? ⟨g, off + k * 8 + 1, none⟩ = some (.bool l[k].more) := c1
      obtain ⟨_, c2⟩ := hcell 2 (by decide)
      have c2 : wr.cell? ⟨g, off + k * 8 + 2, none⟩ = some (.int .i64 l[k].slots) := c2
      obtain ⟨_, c3⟩ := hcell 3 (by decide)
      have c3 : wr.cell? ⟨g, off + k * 8 + 3, none⟩ = some (.slice a0 _ c90) := c3
      obtain ⟨_, c4⟩ := hcell 4 (by decide)
      have c4 : wr.cell? ⟨g, off + k * 8 + 4, none⟩ = some (.slice a1 _ c91) := c4
      obtain ⟨_, c5⟩ := hcell 5 (by decide)
      have c5 : wr.cell? ⟨g, off + k * 8 + 5, none⟩ = some (.slice a2 _ c92) := c5
      obtain ⟨_, c6⟩ := hcell 6 (by decide)
      have c6 : wr.cell? ⟨g, off + k * 8 + 6, none⟩ = some (.slice a3 _ c93) := c6
      obtain ⟨_, c7⟩ := hcell 7 (by decide)
      have c7 : wr.cell? ⟨g, off + k * 8 + 7, none⟩ = some (.int .i64 l[k].start) := c7
      clear hcell e2
      have c := fun (o : Obj) => HC.out k hkl s (wr.alloc o) _ (HBB.out.alloc (Nat.le_trans HB.out HSZ.out) o) (by simp; have := HSZ.out; omega) (HI.out _ _ _ HS.out ((Below.refl _ _).alloc (Nat.le_refl _) _)) HR.out (HCs.out.below ((Below.refl _ _).alloc (Nat.le_trans HB.out HSZ.out) o))
      have ht := fun (o : Obj) => (Below.refl B wr).alloc (Nat.le_trans HB.out HSZ.out) o
      have HT := Lib.hid ht
      clear ht
      generalize l[k] = ek at *
      go_wp2_with fail
      refine (c _).mono ?_
      rintro e w1 ⟨hb1, hsz1, rfl, hs1⟩
      have HB1 := Lib.hid (HBB.out.trans ((HT.out _).trans hb1))
      have HSZ1 := Lib.hid (Nat.le_trans HSZ.out (Nat.le_trans (by simp) hsz1))
      have HS1 := Lib.hid hs1
      have hrs : runN step (k + 1) s0 = step k s := by
        show (runN step k s0).bind (step k) = _
        rw [HR.out]; rfl
      have HRS := Lib.hid hrs
      clear hb1 hsz1 hs1 hrs c
      cases hst : step k s with
      | none =>
        have HST := Lib.hid hst
        clear hst
        go_wp2_with fail
        go_ret
        have hn : runN step n s0 = none := runN_none (HRS.out.trans HST.out) n (by omega)
        exact ⟨HB1.out, HSZ1.out, by rw [hn]; rfl, fun s h h2 => by rw [hn] at h2; cases h2⟩
      | some s1 =>
        have HST := Lib.hid hst
        clear hst
        go_wp2_with fail
        go_roundg (n - (k + 1))
        case rel => exact ⟨k + 1, s1, rfl, by omega, by go_num, HB1.out, HSZ1.out, HRS.out.trans HST.out, HS1.out _ HST.out⟩
        case measure => omega
    · obtain rfl : k = n := by omega
      go_wp2_with fail
      go_ret
      exact ⟨HBB.out, HSZ.out, by rw [HR.out]; rfl, fun s' _ h => by rw [HR.out] at h; injection h with h; subst h; exact HS.out⟩

set_option maxHeartbeats 2000000 in
set_option maxRecDepth 100000 in
theorem are_up {S : Type} (B : Nat) (w : World) (v : Value) (l : List Up) (lo hi : Int) (f : Nat) (bound caps : Array Value) (step : Nat → S → Option S) (I : S → World → Prop) (s0 : S)
    (hv : RowsB 2 UpC B w v l) (hB : B ≤ w.heap.size) (he : Enters f) (hI : Kept I)
    (hc : ∀ i (_ : i < l.length) s w' cs, Below B w w' → w.heap.size ≤ w'.heap.size → I s w' → runN step i s0 = some s → UpC cs l[i] → Calls Tryd.prog f (bound ++ (#[.int .i64 (i : Int), .agg cs] ++ caps)) w' (StepSays B (step i s) I w'))
    (h0 : I s0 w) :
    Calls Tryd.prog 33 #[v, .agg #[.int .i64 lo, .int .i64 hi], .func (.func f) bound caps] w (AreSays B (spanB lo hi l.length) (runN step l.length s0) I w) := by
  obtain ⟨ao, cap, rfl, hl⟩ := hv.slice
  have HV := Lib.hid hv
  have HC := Lib.hid hc
  have HI := Lib.hid hI
  have H0 := Lib.hid h0
  have HB := Lib.hid hB
  clear hv hc hI h0 hB
  unfold Enters at he
  obtain ⟨n, hn⟩ : ∃ n, n = l.length := ⟨_, rfl⟩
  rw [← hn] at hl
  rw [← hn]
  have HN := Lib.hid hn
  clear hn
  unfold Len at hl
  by_cases h1 : (n : Int) < lo
  · have hs : spanB lo hi n = false := by unfold spanB; rw [decide_eq_false (by omega)]; rfl
    rw [hs]
    clear HV
    go_enter Tryd.func33, Tryd.ntmps33
    go_wp2_with fail
    go_ret
    exact ⟨(Below.refl _ _).alloc HB.out _, by simp, rfl, fun s h => by cases h⟩
  by_cases h2 : hi < (n : Int)
  · have hs : spanB lo hi n = false := by unfold spanB; rw [decide_eq_false (p := (n : Int) ≤ hi) (by omega), Bool.and_false]
    rw [hs]
    clear HV
    go_enter Tryd.func33, Tryd.ntmps33
    go_wp2_with fail
    go_ret
    exact ⟨(Below.refl _ _).alloc HB.out _, by simp, rfl, fun s h => by cases h⟩
  have hs : spanB lo hi n = true := by unfold spanB; rw [decide_eq_true (by omega), decide_eq_true (by omega)]; rfl
  rw [hs]
  clear hs
  go_enter Tryd.func33, Tryd.ntmps33
  go_wp2_with fail
  clear h1 h2
  go_loopg [23] n (fun r x wr => ∃ (k : Nat) (s : S), r = n - k ∧ k ≤ n ∧ x = .int .i64 (k : Int) ∧ Below B w wr ∧ w.heap.size ≤ wr.heap.size ∧ runN step k s0 = some s ∧ I s wr)
  case atStart => exact ⟨0, s0, rfl, Nat.zero_le _, rfl, (Below.refl _ _).alloc HB.out _, by simp, rfl, HI.out _ _ _ H0.out ((Below.refl _ _).alloc (Nat.le_refl _) _)⟩
  case round =>
    obtain ⟨k, s, rfl, hk, rfl, hb, hsz, hr, hIs⟩ := hrel
    have HR := Lib.hid hr
    have HS := Lib.hid hIs
    have HBB := Lib.hid hb
    have HSZ := Lib.hid hsz
    clear hr hIs hb hsz
    by_cases hlt : k < n
    · have hlt' : (k : Int) < n := by omega
      have hkl : k < l.length := by have := HN.out; omega
      obtain ⟨g, off, cap, cs, hg, hv, _, hC, hcell⟩ := (HV.out.below HBB.out (fun _ _ h => h)).item hkl
      injection hv with e1 e2 e3
      subst e1
      subst e3
      have HCs := Lib.hid hC
      obtain ⟨rfl, _⟩ := hC
      obtain ⟨_, c0⟩ := hcell 0 (by decide)
      have c0 : wr.cell? ⟨g, off + k * 2, none⟩ = some (.bool l[k].loc) := c0
      obtain ⟨_, c1⟩ := hcell 1 (by decide)
      have c1 : wr.cell? ⟨g, off + k * 2 + 1, none⟩ = some (.int .i64 l[k].pos) := c1
      clear hcell e2
      have c := fun (o : Obj) => HC.out k hkl s (wr.alloc o) _ (HBB.out.alloc (Nat.le_trans HB.out HSZ.out) o) (by simp; have := HSZ.out; omega) (HI.out _ _ _ HS.out ((Below.refl _ _).alloc (Nat.le_refl _) _)) HR.out (HCs.out)
      have ht := fun (o : Obj) => (Below.refl B wr).alloc (Nat.le_trans HB.out HSZ.out) o
      have HT := Lib.hid ht
      clear ht
      generalize l[k] = ek at *
      go_wp2_with fail
      refine (c _).mono ?_
      rintro e w1 ⟨hb1, hsz1, rfl, hs1⟩
      have HB1 := Lib.hid (HBB.out.trans ((HT.out _).trans hb1))
      have HSZ1 := Lib.hid (Nat.le_trans HSZ.out (Nat.le_trans (by simp) hsz1))
      have HS1 := Lib.hid hs1
      have hrs : runN step (k + 1) s0 = step k s := by
        show (runN step k s0).bind (step k) = _
        rw [HR.out]; rfl
      have HRS := Lib.hid hrs
      clear hb1 hsz1 hs1 hrs c
      cases hst : step k s with
      | none =>
        have HST := Lib.hid hst
        clear hst
        go_wp2_with fail
        go_ret
        have hn : runN step n s0 = none := runN_none (HRS.out.trans HST.out) n (by omega)
        exact ⟨HB1.out, HSZ1.out, by rw [hn]; rfl, fun s h h2 => by rw [hn] at h2; cases h2⟩
      | some s1 =>
        have HST := Lib.hid hst
        clear hst
        go_wp2_with fail
        go_roundg (n - (k + 1))
        case rel => exact ⟨k + 1, s1, rfl, by omega, by go_num, HB1.out, HSZ1.out, HRS.out.trans HST.out, HS1.out _ HST.out⟩
        case measure => omega
    · obtain rfl : k = n := by omega
      go_wp2_with fail
      go_ret
      exact ⟨HBB.out, HSZ.out, by rw [HR.out]; rfl, fun s' _ h => by rw [HR.out] at h; injection h with h; subst h; exact HS.out⟩

end Go.Proofs.YtnnjkejejlhkdaaDoor.Rt
