/-
  twinstepref03: is, by contract.
-/
import Derived.Test.YtajeghkmgcpgiaaGreatDoorTextsBytes
import Derived.Test.YtajeghkmgcpgiaaGreatDoorTextsLit
import Derived.Deep.QuietTactic
import Derived.BigQuiet
import Derived.Deep.LoopGhost
namespace Go.Proofs.YtajeghkmgcpgiaaGreatDoor
open Go.RowKit

/-! ### is -/
/-- Has a text that byte at a place? -/
def isB (s : ByteArray) (k b : Nat) : Bool := decide (k < s.size) && decide (byteAt s k = b)
theorem isB_starts (s : ByteArray) (k b : Nat) : isB s k b = startsWith b (s.data.toList.drop k) := by
  unfold isB
  by_cases h : k < s.size
  · obtain ⟨c, e, hd⟩ := drop_at s k h
    rw [hd, decide_eq_true h, Bool.true_and, startsWith, e]
  · rw [List.drop_of_length_le (by have : s.data.toList.length = s.size := rfl
                                   omega), decide_eq_false h]; rfl

set_option maxHeartbeats 400000 in
theorem ref_is (s : ByteArray) (k b : Nat) (w : World) :
    Calls Tryz.prog 98 #[.string s, .int .i64 k, .int .u8 b] w fun e w' => e = .returned (.bool (isB s k b)) ∧ w = w' := by
  by_cases h : k < s.size
  · have h' : (k : Int) < s.size := by omega
    have hx := run_index_at (P := Tryz.prog) 9 s (k : Int) k Tryz.underlying9 h rfl
    have hi : isB s k b = decide (byteAt s k = b) := by unfold isB; rw [decide_eq_true h, Bool.true_and]
    generalize byteAt s k = x at *
    by_cases e : x = b
    · have HI := Lib.hid (hi.trans (decide_eq_true e))
      have t1 : ((x : Int) == (b : Int)) = true := by simp; omega
      clear hi e
      go_enter Tryz.func98, Tryz.ntmps98
      go_wp2
      go_ret
      exact ⟨ret_bool HI.out.symm, rfl⟩
    · have HI := Lib.hid (hi.trans (decide_eq_false e))
      have t1 : ((x : Int) == (b : Int)) = false := by simp; omega
      clear hi e
      go_enter Tryz.func98, Tryz.ntmps98
      go_wp2
      go_ret
      exact ⟨ret_bool HI.out.symm, rfl⟩
  · have h' : ¬ (k : Int) < s.size := by omega
    have HI := Lib.hid (show isB s k b = false by unfold isB; rw [decide_eq_false h]; rfl)
    go_enter Tryz.func98, Tryz.ntmps98
    go_wp2
    go_ret
    exact ⟨ret_bool HI.out.symm, rfl⟩

/-! ### number -/
theorem hexD_some {b : Nat} (h : hexB b = true) : hexD b = some (hexV b).toNat := by
  unfold hexB at h
  simp at h
  unfold hexD hexV
  split
  · congr 1; omega
  split
  · congr 1; omega
  split
  · congr 1; omega
  · omega
theorem hexD_none {b : Nat} (h : hexB b = false) : hexD b = none := by
  unfold hexB at h
  simp at h
  unfold hexD
  rw [if_neg (by omega), if_neg (by omega), if_neg (by omega)]

/-- The reference stops beyond 2^31. -/
def stopN (base : Nat) : Nat → List UInt8 → Nat → Nat × Nat
  | 0, _, a => (a, 0)
  | _ + 1, [], a => (a, 0)
  | m + 1, c :: r, a =>
    if 2147483648 ≤ a then (a, 0) else
    match hexD c.toNat with
    | some d => if d < base then ((stopN base m r (a * base + d)).1, (stopN base m r (a * base + d)).2 + 1) else (a, 0)
    | none => (a, 0)

end Go.Proofs.YtajeghkmgcpgiaaGreatDoor
