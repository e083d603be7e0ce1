/-
  runes.Encode, by contracts.
-/
import Derived.Test.YtajeghkmgcpgiaaGreatDoorRunesA
namespace Go.Proofs.YtajeghkmgcpgiaaGreatDoor
open Go.RowKit

theorem runes_encode_no (n : Int) (w : World) (h : n < 0 ∨ 2147483647 < n) :
    Calls Tryz.prog 136 #[.int .i64 n] w fun e w' => e = .returned (.tuple #[.string (encS n), .int .i64 (encE n)]) ∧ Below w.heap.size w w' := by
  have e1 : encS n = ⟨#[]⟩ := by unfold encS; rw [if_pos h]
  have e2 : encE n = 10 := by unfold encE; rw [if_pos h]
  rw [e1, e2]
  clear e1 e2
  rcases h with h | h
  all_goals
    go_enter Tryz.func136, Tryz.ntmps136
    go_wp2
    go_ret2
    exact ⟨rfl, Below.refl _ _⟩

theorem runes_encode1 (n : Int) (w : World) (h0 : 0 ≤ n) (h1 : n < 128) :
    Calls Tryz.prog 136 #[.int .i64 n] w fun e w' => e = .returned (.tuple #[.string (bytesOf [n]), .int .i64 0]) ∧ Below w.heap.size w w' := by
  have hcv := fun (w : World) (x : Int) => run_convert_block (P := Tryz.prog) w 30 9 5 [x] (0, 0) Tryz.underlying30 Tryz.underlying5 Tryz.underlying9
  simp only [List.map_cons, List.map_nil, List.length_cons, List.length_nil, Nat.zero_add] at hcv
  go_enter Tryz.func136, Tryz.ntmps136
  go_wp2
  go_ret2
  exact ⟨rfl, (Below.refl _ _).alloc (Nat.le_refl _) _⟩

set_option maxHeartbeats 1000000 in
theorem runes_encode2 (n : Int) (w : World) (h0 : 128 ≤ n) (h1 : n < 2048) :
    Calls Tryz.prog 136 #[.int .i64 n] w fun e w' => e = .returned (.tuple #[.string (bytesOf [192 + n / 64, 128 + n % 64]), .int .i64 0]) ∧ Below w.heap.size w w' := by
  have hmk : ∀ w : World, (Instr.makeSlice 30 (.int .i64 2) (.int .i64 2)).run Tryz.prog w = .ok (.slice (some ⟨w.heap.size, 0, none⟩) 2 2) (w.alloc (.cells #[.int .u8 0, .int .u8 0] 5)) := fun _ => by kernel_rfl
  have hcv := fun (w : World) (x y : Int) => run_convert_block (P := Tryz.prog) w 30 9 5 [x, y] (0, 0) Tryz.underlying30 Tryz.underlying5 Tryz.underlying9
  simp only [List.map_cons, List.map_nil, List.length_cons, List.length_nil, Nat.zero_add, Nat.reduceAdd] at hcv
  have ha := i64_and63
  go_enter Tryz.func136, Tryz.ntmps136
  go_wp2_with (go_at_call 145; refine (size2 _ _ (by omega) (by omega)).mono ?_; rintro e w' ⟨rfl, rfl⟩)
  refine wp_loop_rounds 2 ?_
  iterate 2 (rw [rounds_succ]; go_wp2_with (go_at_call 146; refine (mark_any 2 192 _ (by omega)).mono ?_; rintro e w' ⟨rfl, rfl⟩))
  go_ret2
  exact ⟨rfl, (Below.refl _ _).alloc (Nat.le_refl _) _⟩

set_option maxHeartbeats 1000000 in
theorem runes_encode3 (n : Int) (w : World) (h0 : 2048 ≤ n) (h1 : n < 65536) :
    Calls Tryz.prog 136 #[.int .i64 n] w fun e w' => e = .returned (.tuple #[.string (bytesOf [224 + n / 64 / 64, 128 + n / 64 % 64, 128 + n % 64]), .int .i64 0]) ∧ Below w.heap.size w w' := by
  have hmk : ∀ w : World, (Instr.makeSlice 30 (.int .i64 3) (.int .i64 3)).run Tryz.prog w = .ok (.slice (some ⟨w.heap.size, 0, none⟩) 3 3) (w.alloc (.cells #[.int .u8 0, .int .u8 0, .int .u8 0] 5)) := fun _ => by kernel_rfl
  have hcv := fun (w : World) (x y z : Int) => run_convert_block (P := Tryz.prog) w 30 9 5 [x, y, z] (0, 0) Tryz.underlying30 Tryz.underlying5 Tryz.underlying9
  simp only [List.map_cons, List.map_nil, List.length_cons, List.length_nil, Nat.zero_add, Nat.reduceAdd] at hcv
  have ha := i64_and63
  go_enter Tryz.func136, Tryz.ntmps136
  go_wp2_with (go_at_call 145; refine (size3 _ _ (by omega) (by omega)).mono ?_; rintro e w' ⟨rfl, rfl⟩)
  refine wp_loop_rounds 3 ?_
  iterate 3 (rw [rounds_succ]; go_wp2_with (go_at_call 146; refine (mark_any 3 224 _ (by omega)).mono ?_; rintro e w' ⟨rfl, rfl⟩))
  go_ret2
  exact ⟨rfl, (Below.refl _ _).alloc (Nat.le_refl _) _⟩

set_option maxHeartbeats 1000000 in
theorem runes_encode4 (n : Int) (w : World) (h0 : 65536 ≤ n) (h1 : n < 2097152) :
    Calls Tryz.prog 136 #[.int .i64 n] w fun e w' => e = .returned (.tuple #[.string (bytesOf [240 + n / 64 / 64 / 64, 128 + n / 64 / 64 % 64, 128 + n / 64 % 64, 128 + n % 64]), .int .i64 0]) ∧ Below w.heap.size w w' := by
  have hmk : ∀ w : World, (Instr.makeSlice 30 (.int .i64 4) (.int .i64 4)).run Tryz.prog w = .ok (.slice (some ⟨w.heap.size, 0, none⟩) 4 4) (w.alloc (.cells #[.int .u8 0, .int .u8 0, .int .u8 0, .int .u8 0] 5)) := fun _ => by kernel_rfl
  have hcv := fun (w : World) (x y z u : Int) => run_convert_block (P := Tryz.prog) w 30 9 5 [x, y, z, u] (0, 0) Tryz.underlying30 Tryz.underlying5 Tryz.underlying9
  simp only [List.map_cons, List.map_nil, List.length_cons, List.length_nil, Nat.zero_add, Nat.reduceAdd] at hcv
  have ha := i64_and63
  go_enter Tryz.func136, Tryz.ntmps136
  go_wp2_with (go_at_call 145; refine (size4 _ _ (by omega) (by omega)).mono ?_; rintro e w' ⟨rfl, rfl⟩)
  refine wp_loop_rounds 4 ?_
  iterate 4 (rw [rounds_succ]; go_wp2_with (go_at_call 146; refine (mark_any 4 240 _ (by omega)).mono ?_; rintro e w' ⟨rfl, rfl⟩))
  go_ret2
  exact ⟨rfl, (Below.refl _ _).alloc (Nat.le_refl _) _⟩

set_option maxHeartbeats 1000000 in
theorem runes_encode5 (n : Int) (w : World) (h0 : 2097152 ≤ n) (h1 : n < 67108864) :
    Calls Tryz.prog 136 #[.int .i64 n] w fun e w' => e = .returned (.tuple #[.string (bytesOf [248 + n / 64 / 64 / 64 / 64, 128 + n / 64 / 64 / 64 % 64, 128 + n / 64 / 64 % 64, 128 + n / 64 % 64, 128 + n % 64]), .int .i64 0]) ∧ Below w.heap.size w w' := by
  have hmk : ∀ w : World, (Instr.makeSlice 30 (.int .i64 5) (.int .i64 5)).run Tryz.prog w = .ok (.slice (some ⟨w.heap.size, 0, none⟩) 5 5) (w.alloc (.cells #[.int .u8 0, .int .u8 0, .int .u8 0, .int .u8 0, .int .u8 0] 5)) := fun _ => by kernel_rfl
  have hcv := fun (w : World) (x y z u v : Int) => run_convert_block (P := Tryz.prog) w 30 9 5 [x, y, z, u, v] (0, 0) Tryz.underlying30 Tryz.underlying5 Tryz.underlying9
  simp only [List.map_cons, List.map_nil, List.length_cons, List.length_nil, Nat.zero_add, Nat.reduceAdd] at hcv
  have hb := u8_or248 (n / 64 / 64 / 64 / 64) (by omega) (by omega)
  have ha := i64_and63
  go_enter Tryz.func136, Tryz.ntmps136
  go_wp2_with (go_at_call 145; refine (size5 _ _ (by omega) (by omega)).mono ?_; rintro e w' ⟨rfl, rfl⟩)
  refine wp_loop_rounds 5 ?_
  iterate 5 (rw [rounds_succ]; go_wp2_with (go_at_call 146; refine (mark_any 5 248 _ (by omega)).mono ?_; rintro e w' ⟨rfl, rfl⟩))
  go_ret2
  exact ⟨rfl, (Below.refl _ _).alloc (Nat.le_refl _) _⟩

set_option maxHeartbeats 1000000 in
theorem runes_encode6 (n : Int) (w : World) (h0 : 67108864 ≤ n) (h1 : n < 2147483648) :
    Calls Tryz.prog 136 #[.int .i64 n] w fun e w' => e = .returned (.tuple #[.string (bytesOf [252 + n / 64 / 64 / 64 / 64 / 64, 128 + n / 64 / 64 / 64 / 64 % 64, 128 + n / 64 / 64 / 64 % 64, 128 + n / 64 / 64 % 64, 128 + n / 64 % 64, 128 + n % 64]), .int .i64 0]) ∧ Below w.heap.size w w' := by
  have hmk : ∀ w : World, (Instr.makeSlice 30 (.int .i64 6) (.int .i64 6)).run Tryz.prog w = .ok (.slice (some ⟨w.heap.size, 0, none⟩) 6 6) (w.alloc (.cells #[.int .u8 0, .int .u8 0, .int .u8 0, .int .u8 0, .int .u8 0, .int .u8 0] 5)) := fun _ => by kernel_rfl
  have hcv := fun (w : World) (x y z u v t : Int) => run_convert_block (P := Tryz.prog) w 30 9 5 [x, y, z, u, v, t] (0, 0) Tryz.underlying30 Tryz.underlying5 Tryz.underlying9
  simp only [List.map_cons, List.map_nil, List.length_cons, List.length_nil, Nat.zero_add, Nat.reduceAdd] at hcv
  have hb := u8_or252 (n / 64 / 64 / 64 / 64 / 64) (by omega) (by omega)
  have ha := i64_and63
  go_enter Tryz.func136, Tryz.ntmps136
  go_wp2_with (go_at_call 145; refine (size6 _ _ (by omega) (by omega)).mono ?_; rintro e w' ⟨rfl, rfl⟩)
  refine wp_loop_rounds 6 ?_
  iterate 6 (rw [rounds_succ]; go_wp2_with (go_at_call 146; refine (mark_any 6 252 _ (by omega)).mono ?_; rintro e w' ⟨rfl, rfl⟩))
  go_ret2
  exact ⟨rfl, (Below.refl _ _).alloc (Nat.le_refl _) _⟩

theorem runes_encode (n : Int) (w : World) :
    Calls Tryz.prog 136 #[.int .i64 n] w fun e w' => e = .returned (.tuple #[.string (encS n), .int .i64 (encE n)]) ∧ Below w.heap.size w w' := by
  by_cases h : n < 0 ∨ 2147483647 < n
  · exact runes_encode_no n w h
  have e1 : encS n = bytesOf (encI n) := by unfold encS; rw [if_neg h]
  have e2 : encE n = 0 := by unfold encE; rw [if_neg h]
  rw [e1, e2]
  unfold encI
  split
  · exact runes_encode1 n w (by omega) (by omega)
  split
  · exact runes_encode2 n w (by omega) (by omega)
  split
  · have := runes_encode3 n w (by omega) (by omega)
    rwa [show n / 64 / 64 = n / 4096 from by omega] at this
  split
  · have := runes_encode4 n w (by omega) (by omega)
    rwa [show n / 64 / 64 / 64 = n / 262144 from by omega, show n / 64 / 64 = n / 4096 from by omega] at this
  split
  · have := runes_encode5 n w (by omega) (by omega)
    rwa [show n / 64 / 64 / 64 / 64 = n / 16777216 from by omega, show n / 64 / 64 / 64 = n / 262144 from by omega, show n / 64 / 64 = n / 4096 from by omega] at this
  · have := runes_encode6 n w (by omega) (by omega)
    rwa [show n / 64 / 64 / 64 / 64 / 64 = n / 1073741824 from by omega, show n / 64 / 64 / 64 / 64 = n / 16777216 from by omega, show n / 64 / 64 / 64 = n / 262144 from by omega, show n / 64 / 64 = n / 4096 from by omega] at this

end Go.Proofs.YtajeghkmgcpgiaaGreatDoor
