/-
  twinstepref03: Compare, has, is, letter, number, by contracts.
-/
import Derived.Test.YtmioidbffnjoiaaDoorTextsBytes
import Derived.Test.YtmioidbffnjoiaaDoorTextsLit
import Derived.Deep.QuietTactic
import Derived.BigQuiet
import Derived.Deep.LoopGhost
namespace Go.Proofs.YtmioidbffnjoiaaDoor
open Go.RowKit

/-! ### Compare -/
def CmpIs (a b : ByteArray) (w : World) (e : Ending) (w' : World) : Prop := e = .returned (.int .i64 (cmpL a.data.toList b.data.toList)) ∧ Below w.heap.size w w'
theorem cmp_is {a b : ByteArray} {w w' : World} {x : Int} (h : x = cmpL a.data.toList b.data.toList) (hb : Below w.heap.size w w') : CmpIs a b w (.returned (.int .i64 x)) w' := by subst h; exact ⟨rfl, hb⟩

theorem cmp_step {a b : ByteArray} {k : Nat} (ha : k < a.size) (hb : k < b.size) : cmpL (a.data.toList.drop k) (b.data.toList.drop k) =
    if byteAt a k < byteAt b k then -1 else if byteAt b k < byteAt a k then 1 else cmpL (a.data.toList.drop (k + 1)) (b.data.toList.drop (k + 1)) := by
  obtain ⟨c, e, hd⟩ := drop_at a k ha
  obtain ⟨c', e', hd'⟩ := drop_at b k hb
  rw [hd, hd', cmpL, e, e']
theorem cmp_end {a b : ByteArray} {k : Nat} (ha : k ≤ a.size) (hb : k ≤ b.size) (h : k = a.size ∨ k = b.size) :
    cmpL (a.data.toList.drop k) (b.data.toList.drop k) = if a.size = b.size then 0 else if a.size < b.size then -1 else 1 := by
  rcases h with rfl | rfl
  · rw [drop_end]
    by_cases e : a.size = b.size
    · rw [if_pos e, e, drop_end]; rfl
    · obtain ⟨c, _, hd⟩ := drop_at b a.size (by omega)
      rw [hd, if_neg e, if_pos (by omega)]; rfl
  · rw [drop_end]
    by_cases e : a.size = b.size
    · rw [if_pos e, ← e, drop_end]; rfl
    · obtain ⟨c, _, hd⟩ := drop_at a b.size (by omega)
      rw [hd, if_neg e, if_neg (by omega)]; rfl

set_option maxHeartbeats 1000000 in
theorem ref_compare (a b : ByteArray) (w : World) (hsa : a.size ≤ 1000000000) (hsb : b.size ≤ 1000000000) :
    Calls Tryd.prog 16 #[.string a, .string b] w (CmpIs a b w) := by
  go_enter Tryd.func16, Tryd.ntmps16
  go_wp2
  go_loopw [5] (fun i wr => ∃ k : Nat, k ≤ a.size ∧ k ≤ b.size ∧ i = .int .i64 k ∧ Below w.heap.size w wr ∧ cmpL (a.data.toList.drop k) (b.data.toList.drop k) = cmpL a.data.toList b.data.toList) (fun i _ => a.size - (intOf i).toNat)
  case atStart => exact ⟨0, by omega, by omega, rfl, Below.refl _ _, rfl⟩
  case round =>
    obtain ⟨k, hka, hkb, rfl, hw, hr⟩ := hrel
    have HW := Lib.hid hw
    have HQ := Lib.hid hr
    clear hw hr
    by_cases hlt : k < a.size ∧ k < b.size
    · obtain ⟨hla, hlb⟩ := hlt
      have hla' : (k : Int) < a.size := by omega
      have hlb' : (k : Int) < b.size := by omega
      have hx := run_index_at (P := Tryd.prog) 9 a (k : Int) k Tryd.underlying9 hla rfl
      have hy := run_index_at (P := Tryd.prog) 9 b (k : Int) k Tryd.underlying9 hlb rfl
      have hs := (cmp_step hla hlb).symm.trans HQ.out
      generalize byteAt a k = x at *
      generalize byteAt b k = y at *
      rcases Nat.lt_trichotomy x y with h | h | h
      · have HS := Lib.hid ((if_pos h).symm.trans hs)
        have t1 : ((x : Int) != (y : Int)) = true := by simp; omega
        have t2 : decide ((x : Int) < (y : Int)) = true := by simp; omega
        have t3 : decide (x < y) = true := by simp; omega
        clear hs h
        go_wp2
        go_quiet (fail)
        have hb2 := below_drewN HW.out nq
        generalize wr.drewN nq = wr2 at *
        have HW2 := Lib.hid hb2
        clear hb2
        go_wp2
        go_quiet (fail)
        have HW3 := Lib.hid (below_drewN HW2.out nq)
        go_wp2
        go_ret
        exact cmp_is HS.out HW3.out
      · subst h
        have HS := Lib.hid (((if_neg (Nat.lt_irrefl x)).trans (if_neg (Nat.lt_irrefl x))).symm.trans hs)
        have t1 : ((x : Int) != (x : Int)) = false := by simp
        clear hs
        go_wp2
        go_quiet (fail)
        have HW2 := Lib.hid (below_drewN HW.out nq)
        go_wp2
        go_roundw
        case rel => exact ⟨k + 1, by omega, by omega, by go_num, HW2.out, HS.out⟩
        case measure => simp only [intOf]; omega
      · have HS := Lib.hid (((if_neg (by omega)).trans (if_pos h)).symm.trans hs)
        have t1 : ((x : Int) != (y : Int)) = true := by simp; omega
        have t2 : decide ((x : Int) < (y : Int)) = false := by simp; omega
        have t3 : decide (x < y) = false := by simp; omega
        clear hs h
        go_wp2
        go_quiet (fail)
        have hb2 := below_drewN HW.out nq
        generalize wr.drewN nq = wr2 at *
        have HW2 := Lib.hid hb2
        clear hb2
        go_wp2
        go_quiet (fail)
        have HW3 := Lib.hid (below_drewN HW2.out nq)
        go_wp2
        go_ret
        exact cmp_is HS.out HW3.out
    · have hc : k = a.size ∨ k = b.size := by omega
      have hs := (cmp_end hka hkb hc).symm.trans HQ.out
      rcases Nat.lt_trichotomy a.size b.size with h | h | h
      · have HS := Lib.hid (((if_neg (by omega)).trans (if_pos h)).symm.trans hs)
        obtain rfl : k = a.size := by omega
        have hne : ((a.size : Int) == (b.size : Int)) = false := by rw [beq_eq_false_iff_ne]; omega
        have hne' : ¬ a.size = b.size := by omega
        clear hs hc
        go_wp2
        go_ret
        exact cmp_is HS.out HW.out
      · have HS := Lib.hid ((if_pos h).symm.trans hs)
        have hle : ¬ k < a.size := by omega
        have hle' : a.size ≤ k := by omega
        have hne : ((a.size : Int) == (b.size : Int)) = true := by rw [beq_iff_eq]; omega
        have hne' : (a.size == b.size) = true := by rw [beq_iff_eq]; omega
        clear hs hc
        go_wp2
        go_ret
        exact cmp_is HS.out HW.out
      · have HS := Lib.hid (((if_neg (by omega)).trans (if_neg (by omega))).symm.trans hs)
        obtain rfl : k = b.size := by omega
        have hne : ((a.size : Int) == (b.size : Int)) = false := by rw [beq_eq_false_iff_ne]; omega
        have hne' : ¬ a.size = b.size := by omega
        clear hs hc
        go_wp2
        go_ret
        exact cmp_is HS.out HW.out

/-! ### is -/
/-- Has a text that byte at a place? -/
def isB (s : ByteArray) (k b : Nat) : Bool := decide (k < s.size) && decide (byteAt s k = b)
theorem isB_starts (s : ByteArray) (k b : Nat) : isB s k b = startsWith b (s.data.toList.drop k) := by
  unfold isB
  by_cases h : k < s.size
  · obtain ⟨c, e, hd⟩ := drop_at s k h
    rw [hd, decide_eq_true h, Bool.true_and, startsWith, e]
  · rw [List.drop_of_length_le (by have : s.data.toList.length = s.size := rfl
                                   omega), decide_eq_false h]; rfl

set_option maxHeartbeats 400000 in
theorem ref_is (s : ByteArray) (k b : Nat) (w : World) :
    Calls Tryd.prog 42 #[.string s, .int .i64 k, .int .u8 b] w fun e w' => e = .returned (.bool (isB s k b)) ∧ w = w' := by
  by_cases h : k < s.size
  · have h' : (k : Int) < s.size := by omega
    have hx := run_index_at (P := Tryd.prog) 9 s (k : Int) k Tryd.underlying9 h rfl
    have hi : isB s k b = decide (byteAt s k = b) := by unfold isB; rw [decide_eq_true h, Bool.true_and]
    generalize byteAt s k = x at *
    by_cases e : x = b
    · have HI := Lib.hid (hi.trans (decide_eq_true e))
      have t1 : ((x : Int) == (b : Int)) = true := by simp; omega
      clear hi e
      go_enter Tryd.func42, Tryd.ntmps42
      go_wp2
      go_ret
      exact ⟨ret_bool HI.out.symm, rfl⟩
    · have HI := Lib.hid (hi.trans (decide_eq_false e))
      have t1 : ((x : Int) == (b : Int)) = false := by simp; omega
      clear hi e
      go_enter Tryd.func42, Tryd.ntmps42
      go_wp2
      go_ret
      exact ⟨ret_bool HI.out.symm, rfl⟩
  · have h' : ¬ (k : Int) < s.size := by omega
    have HI := Lib.hid (show isB s k b = false by unfold isB; rw [decide_eq_false h]; rfl)
    go_enter Tryd.func42, Tryd.ntmps42
    go_wp2
    go_ret
    exact ⟨ret_bool HI.out.symm, rfl⟩

/-! ### number -/
theorem hexD_some {b : Nat} (h : hexB b = true) : hexD b = some (hexV b).toNat := by
  unfold hexB at h
  simp at h
  unfold hexD hexV
  split
  · congr 1; omega
  split
  · congr 1; omega
  split
  · congr 1; omega
  · omega
theorem hexD_none {b : Nat} (h : hexB b = false) : hexD b = none := by
  unfold hexB at h
  simp at h
  unfold hexD
  rw [if_neg (by omega), if_neg (by omega), if_neg (by omega)]

/-- The reference stops beyond 2^31. -/
def stopN (base : Nat) : Nat → List UInt8 → Nat → Nat × Nat
  | 0, _, a => (a, 0)
  | _ + 1, [], a => (a, 0)
  | m + 1, c :: r, a =>
    if 2147483648 ≤ a then (a, 0) else
    match hexD c.toNat with
    | some d => if d < base then ((stopN base m r (a * base + d)).1, (stopN base m r (a * base + d)).2 + 1) else (a, 0)
    | none => (a, 0)

end Go.Proofs.YtmioidbffnjoiaaDoor
