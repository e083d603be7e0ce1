/-
  The leaves of package runes: size, mark, by contracts.
-/
import Derived.Test.YtajeghkmgcpgiaaGreatDoorRows
import Derived.Test.YtajeghkmgcpgiaaGreatDoorRunesMath
import Derived.WalkKit
import Derived.WalkSpells
import Derived.WalkLawsBesides
namespace Go.Proofs.YtajeghkmgcpgiaaGreatDoor
open Go.RowKit

set_option maxHeartbeats 400000 in
theorem size2 (n : Int) (w : World) (h0 : 0 ≤ n) (h1 : n < 2048) :
    Calls Tryz.prog 145 #[.int .i64 n] w fun e w' => e = .returned (.int .i64 2) ∧ w = w' := by
  go_enter Tryz.func145, Tryz.ntmps145
  go_wp2
  refine wp_loop_rounds 1 ?_
  rw [rounds_succ]
  go_wp2
  go_ret
  exact ⟨rfl, rfl⟩

set_option maxHeartbeats 400000 in
theorem size3 (n : Int) (w : World) (h0 : 2048 ≤ n) (h1 : n < 65536) :
    Calls Tryz.prog 145 #[.int .i64 n] w fun e w' => e = .returned (.int .i64 3) ∧ w = w' := by
  go_enter Tryz.func145, Tryz.ntmps145
  go_wp2
  refine wp_loop_rounds 2 ?_
  iterate 2 (rw [rounds_succ]; go_wp2)
  go_ret
  exact ⟨rfl, rfl⟩

set_option maxHeartbeats 400000 in
theorem size4 (n : Int) (w : World) (h0 : 65536 ≤ n) (h1 : n < 2097152) :
    Calls Tryz.prog 145 #[.int .i64 n] w fun e w' => e = .returned (.int .i64 4) ∧ w = w' := by
  go_enter Tryz.func145, Tryz.ntmps145
  go_wp2
  refine wp_loop_rounds 3 ?_
  iterate 3 (rw [rounds_succ]; go_wp2)
  go_ret
  exact ⟨rfl, rfl⟩

set_option maxHeartbeats 400000 in
theorem size5 (n : Int) (w : World) (h0 : 2097152 ≤ n) (h1 : n < 67108864) :
    Calls Tryz.prog 145 #[.int .i64 n] w fun e w' => e = .returned (.int .i64 5) ∧ w = w' := by
  go_enter Tryz.func145, Tryz.ntmps145
  go_wp2
  refine wp_loop_rounds 4 ?_
  iterate 4 (rw [rounds_succ]; go_wp2)
  go_ret
  exact ⟨rfl, rfl⟩

set_option maxHeartbeats 400000 in
theorem size6 (n : Int) (w : World) (h0 : 67108864 ≤ n) (h1 : n < 2147483648) :
    Calls Tryz.prog 145 #[.int .i64 n] w fun e w' => e = .returned (.int .i64 6) ∧ w = w' := by
  go_enter Tryz.func145, Tryz.ntmps145
  go_wp2
  refine wp_loop_rounds 5 ?_
  iterate 5 (rw [rounds_succ]; go_wp2)
  go_ret
  exact ⟨rfl, rfl⟩

set_option maxHeartbeats 400000 in
theorem mark_any (k m : Int) (w : World) (h : k = 2 ∧ m = 192 ∨ k = 3 ∧ m = 224 ∨ k = 4 ∧ m = 240 ∨ k = 5 ∧ m = 248 ∨ k = 6 ∧ m = 252) :
    Calls Tryz.prog 146 #[.int .i64 k] w fun e w' => e = .returned (.int .u8 m) ∧ w = w' := by
  rcases h with ⟨rfl, rfl⟩ | ⟨rfl, rfl⟩ | ⟨rfl, rfl⟩ | ⟨rfl, rfl⟩ | ⟨rfl, rfl⟩
  all_goals
    go_enter Tryz.func146, Tryz.ntmps146
    go_wp2
    go_ret
    exact ⟨rfl, rfl⟩

end Go.Proofs.YtajeghkmgcpgiaaGreatDoor
