/-
  Layer 12: what the calls of a pool say, whatever lies behind them; helpers of the laws.
-/
import Derived.Test.YtpfhaafaoedgpaaPlOb
import Derived.Deep.QuietTactic
import Derived.BigQuiet
import Derived.Deep.LoopGhost
import Derived.WalkSmall
import Derived.Deep.CutBlock
import Derived.Deep.DeepCutAuto
import Derived.StillTailTactics
import Derived.Deep.RegionHeld3
namespace Go.Proofs.Ytpfhaafaoedgpaa.Pl
open Go Go.RowKit

def Fresh (F F' : List Nat) (w : World) : Prop := ∀ x ∈ F', x ∈ F ∨ w.heap.size ≤ x
/-- PA w b m l F: at block b lies a pool of bound m, with the objects l, in the blocks F. -/
abbrev PoolP := World → Nat → Int → Ob → List Nat → Prop
def NewSays (PA : PoolP) (m : Int) (w : World) (e : Ending) (w' : World) : Prop :=
  ∃ b F, e = .returned (.tuple #[.pointer (some ⟨b, 0, none⟩), .int .i64 0]) ∧ PA w' b m [] F ∧ (∀ k ∈ F, w.heap.size ≤ k) ∧ Below w.heap.size w w'
def TakeSays (PA : PoolP) (b : Nat) (m : Int) (l : Ob) (F : List Nat) (size : Int) (w : World) (e : Ending) (w' : World) : Prop :=
  e = .returned (.tuple #[.int .i64 (takeL m l size).2.1, .int .i64 (takeL m l size).2.2]) ∧ ∃ F', PA w' b m (takeL m l size).1 F' ∧ Turns F w w' ∧ Fresh F F' w
def GiveSays (PA : PoolP) (b : Nat) (m : Int) (l : Ob) (F : List Nat) (id : Int) (w : World) (e : Ending) (w' : World) : Prop :=
  e = .returned (.int .i64 (giveL l id).2) ∧ ∃ F', PA w' b m (giveL l id).1 F' ∧ Turns F w w' ∧ Fresh F F' w
def ResizeSays (PA : PoolP) (b : Nat) (m : Int) (l : Ob) (F : List Nat) (id size : Int) (w : World) (e : Ending) (w' : World) : Prop :=
  e = .returned (.int .i64 (resizeL m l id size).2) ∧ ∃ F', PA w' b m (resizeL m l id size).1 F' ∧ Turns F w w' ∧ Fresh F F' w
def IdsSays (l : Ob) (w : World) (e : Ending) (w' : World) : Prop := ∃ v, e = .returned v ∧ LstP (fun _ => True) w' v (ints (idsL 1 l)) ∧ Below w.heap.size w w'
def CopySays (PA : PoolP) (m : Int) (l : Ob) (w : World) (e : Ending) (w' : World) : Prop :=
  ∃ b F, e = .returned (.pointer (some ⟨b, 0, none⟩)) ∧ PA w' b m l F ∧ (∀ k ∈ F, w.heap.size ≤ k) ∧ Below w.heap.size w w'
structure PoolSays (PA : PoolP) : Prop where
  mem : ∀ {w b m l F}, PA w b m l F → b ∈ F ∧ ∀ k ∈ F, k < w.heap.size
  ok : ∀ {w b m l F}, PA w b m l F → ObOk m l
  keep : ∀ {w w' b m l F G}, PA w b m l F → Turns G w w' → (∀ k ∈ F, k ∉ G) → PA w' b m l F
  new : ∀ (m : Int) (w : World), 0 ≤ m → m ≤ 1073741824 → Calls Try.prog 7 #[.int .i64 m] w (NewSays PA m w)
  newBad : ∀ (m : Int) (w : World), In64 m → (m < 0 ∨ 1073741824 < m) → Calls Try.prog 7 #[.int .i64 m] w (fun e w' => e = .returned (.tuple #[.pointer none, .int .i64 2]) ∧ Below w.heap.size w w')
  take : ∀ {w b m l F} (size : Int), PA w b m l F → In64 size → Calls Try.prog 8 #[.pointer (some ⟨b, 0, none⟩), .int .i64 size] w (TakeSays PA b m l F size w)
  give : ∀ {w b m l F} (id : Int), PA w b m l F → In64 id → Calls Try.prog 9 #[.pointer (some ⟨b, 0, none⟩), .int .i64 id] w (GiveSays PA b m l F id w)
  resize : ∀ {w b m l F} (id size : Int), PA w b m l F → In64 id → In64 size → Calls Try.prog 10 #[.pointer (some ⟨b, 0, none⟩), .int .i64 id, .int .i64 size] w (ResizeSays PA b m l F id size w)
  ids : ∀ {w b m l F}, PA w b m l F → Calls Try.prog 24 #[.pointer (some ⟨b, 0, none⟩)] w (IdsSays l w)
  count : ∀ {w b m l F}, PA w b m l F → Calls Try.prog 13 #[.pointer (some ⟨b, 0, none⟩)] w (fun e w' => e = .returned (.int .i64 (cntL l)) ∧ Below w.heap.size w w')
  size : ∀ {w b m l F} (id : Int), PA w b m l F → In64 id → Calls Try.prog 12 #[.pointer (some ⟨b, 0, none⟩), .int .i64 id] w (fun e w' => e = .returned (.tuple #[.int .i64 (sizeL l id).1, .bool (sizeL l id).2]) ∧ Below w.heap.size w w')
  copy : ∀ {w b m l F}, PA w b m l F → Calls Try.prog 20 #[.pointer (some ⟨b, 0, none⟩)] w (CopySays PA m l w)
  used : ∀ {w b m l F}, PA w b m l F → Calls Try.prog 14 #[.pointer (some ⟨b, 0, none⟩)] w (fun e w' => e = .returned (.int .i64 (usedL l)) ∧ Below w.heap.size w w')

def pickZ (x n : Int) : Int := if n < 1 then 0 else x % n
theorem pick_fn (x n : Int) (w : World) (hx : In64 x) (hn : In64 n) : Calls Try.prog 25 #[.int .i64 x, .int .i64 n] w fun e w' => e = .returned (.int .i64 (pickZ x n)) ∧ w = w' := by
  obtain ⟨hx1, hx2⟩ := hx
  obtain ⟨hn1, hn2⟩ := hn
  by_cases h : n < 1
  · have e : pickZ x n = 0 := by unfold pickZ; rw [if_pos h]
    rw [e]
    go_enter Try.func25, Try.ntmps25
    go_wp2_with fail
    go_ret
    exact ⟨rfl, rfl⟩
  · have e : pickZ x n = x % n := by unfold pickZ; rw [if_neg h]
    rw [e]
    have hne : (n == 0) = false := by rw [beq_eq_false_iff_ne]; omega
    have hq := Int.emod_nonneg x (show n ≠ 0 by omega)
    have hq2 := Int.emod_lt_of_pos x (show 0 < n by omega)
    by_cases h0 : x.tmod n < 0
    · have ha : x.tmod n + n = x % n := by
        have := Int.tmod_eq_emod (a := x) (b := n)
        split at this <;> omega
      have hw : IntKind.i64.wrap (x.tmod n + n) = x % n := by rw [ha]; exact IntWalk.i64_in _ (by omega)
      have hw0 := IntWalk.i64_in (x.tmod n) (by omega)
      generalize x % n = q at *
      obtain ⟨r, hr⟩ : ∃ r, x.tmod n = r := ⟨_, rfl⟩
      rw [hr] at h0 hw hw0 ha
      go_enter Try.func25, Try.ntmps25
      go_wp2_with fail
      go_ret
      exact ⟨by go_num, rfl⟩
    · have ha : x.tmod n = x % n := by
        have := Int.tmod_eq_emod (a := x) (b := n)
        split at this <;> omega
      have hw0 := IntWalk.i64_in (x.tmod n) (by omega)
      obtain ⟨r, hr⟩ : ∃ r, x.tmod n = r := ⟨_, rfl⟩
      rw [hr] at h0 hw0 ha
      rw [← ha]
      go_enter Try.func25, Try.ntmps25
      go_wp2_with fail
      go_ret
      exact ⟨by go_num, rfl⟩
end Go.Proofs.Ytpfhaafaoedgpaa.Pl
