/-
  Layer 12: what the developers' calls say of a pool that is none.
-/
import Derived.Test.YtpfhaafaoedgpaaPlDev
import Derived.Test.YtpfhaafaoedgpaaPlNone
namespace Go.Proofs.Ytpfhaafaoedgpaa.Pl
open Go Go.RowKit

theorem dead_take {w : World} {p : Value} (size : Int) (h : Dead w p) : Calls Try.prog 8 #[p, .int .i64 size] w (fun e w' => e = .returned (.tuple #[.int .i64 0, .int .i64 1]) ∧ Below w.heap.size w w') := by
  go_enter Try.func8, Try.ntmps8
  go_wp2_with fail
  refine (made_dead p w h).mono ?_
  rintro e w1 ⟨rfl, rfl⟩
  go_wp2_with fail
  go_ret2
  exact ⟨rfl, Below.refl _ _⟩
theorem dead_size {w : World} {p : Value} (id : Int) (h : Dead w p) : Calls Try.prog 12 #[p, .int .i64 id] w (fun e w' => e = .returned (.tuple #[.int .i64 0, .bool false]) ∧ Below w.heap.size w w') := by
  go_enter Try.func12, Try.ntmps12
  go_wp2_with fail
  refine (made_dead p w h).mono ?_
  rintro e w1 ⟨rfl, rfl⟩
  go_wp2_with fail
  go_ret2
  exact ⟨rfl, Below.refl _ _⟩
theorem dead_give {w : World} {p : Value} (id : Int) (h : Dead w p) : Calls Try.prog 9 #[p, .int .i64 id] w (fun e w' => e = .returned (.int .i64 1) ∧ Below w.heap.size w w') := by
  go_enter Try.func9, Try.ntmps9
  go_wp2_with fail
  refine (made_dead p w h).mono ?_
  rintro e w1 ⟨rfl, rfl⟩
  go_wp2_with fail
  go_ret
  exact ⟨rfl, Below.refl _ _⟩
theorem dead_resize {w : World} {p : Value} (id size : Int) (h : Dead w p) : Calls Try.prog 10 #[p, .int .i64 id, .int .i64 size] w (fun e w' => e = .returned (.int .i64 1) ∧ Below w.heap.size w w') := by
  go_enter Try.func10, Try.ntmps10
  go_wp2_with fail
  refine (made_dead p w h).mono ?_
  rintro e w1 ⟨rfl, rfl⟩
  go_wp2_with fail
  go_ret
  exact ⟨rfl, Below.refl _ _⟩
theorem dead_used {w : World} {p : Value} (h : Dead w p) : Calls Try.prog 14 #[p] w (fun e w' => e = .returned (.int .i64 0) ∧ Below w.heap.size w w') := by
  go_enter Try.func14, Try.ntmps14
  go_wp2_with fail
  refine (made_dead p w h).mono ?_
  rintro e w1 ⟨rfl, rfl⟩
  go_wp2_with fail
  go_ret
  exact ⟨rfl, Below.refl _ _⟩
theorem dead_count {w : World} {p : Value} (h : Dead w p) : Calls Try.prog 13 #[p] w (fun e w' => e = .returned (.int .i64 0) ∧ Below w.heap.size w w') := by
  go_enter Try.func13, Try.ntmps13
  go_wp2_with fail
  refine (made_dead p w h).mono ?_
  rintro e w1 ⟨rfl, rfl⟩
  go_wp2_with fail
  go_ret
  exact ⟨rfl, Below.refl _ _⟩
theorem dead_ids {w : World} {p : Value} (h : Dead w p) : Calls Try.prog 24 #[p] w (fun e w' => ∃ ao cap, e = .returned (.slice ao 0 cap) ∧ Below w.heap.size w w') := by
  go_enter Try.func24, Try.ntmps24
  go_wp2_with fail
  refine (made_dead p w h).mono ?_
  rintro e w1 ⟨rfl, rfl⟩
  go_wp2_with fail
  go_ret
  exact ⟨none, 0, rfl, Below.refl _ _⟩
theorem dead_copy {w : World} {p : Value} (h : Dead w p) : Calls Try.prog 20 #[p] w (fun e w' => e = .returned (.pointer none) ∧ Below w.heap.size w w') := by
  go_enter Try.func20, Try.ntmps20
  go_wp2_with fail
  refine (made_dead p w h).mono ?_
  rintro e w1 ⟨rfl, rfl⟩
  go_wp2_with fail
  go_ret
  exact ⟨rfl, Below.refl _ _⟩
theorem dead_says : DeadSays Dead where
  keep := fun h hb => h.below hb
  take := fun size h _ => dead_take size h
  size := fun id h _ => dead_size id h
  give := fun id h _ => dead_give id h
  resize := fun id size h _ _ => dead_resize id size h
  used := fun h => dead_used h
  count := fun h => dead_count h
  ids := fun h => dead_ids h
  copy := fun h => dead_copy h
  nil := fun _ => .inl rfl
  zero := fun w => .inr ⟨_, rfl, cell_of (new_block w _) 0 _ rfl⟩
end Go.Proofs.Ytpfhaafaoedgpaa.Pl
