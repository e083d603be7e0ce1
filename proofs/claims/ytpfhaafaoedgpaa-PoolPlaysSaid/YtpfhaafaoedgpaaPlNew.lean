/-
  Layer 12: the developers' pool: a new one.
-/
import Derived.Test.YtpfhaafaoedgpaaPlLive
namespace Go.Proofs.Ytpfhaafaoedgpaa.Pl
open Go Go.RowKit

theorem own_mem {v : Value} {k : Nat} : k ∈ own v ↔ v.ownBlock = some k := by
  unfold own
  cases v.ownBlock <;> simp [eq_comm]
theorem PAt.pa {w : World} {b : Nat} {m : Int} {l : Ob} {vs vf : Value} {fr : List Int} (h : PAt w b m l vs vf fr) : PA w b m l (b :: (own vs ++ own vf)) := by
  refine ⟨vs, vf, fr, h, List.mem_cons_self .., fun k hk => List.mem_cons_of_mem _ (List.mem_append_left _ (own_mem.2 hk)), fun k hk => List.mem_cons_of_mem _ (List.mem_append_right _ (own_mem.2 hk)), fun k hk => ?_⟩
  rcases List.mem_cons.1 hk with e | hk
  · rw [e]; exact lt_of_get h.cells
  · rcases List.mem_append.1 hk with hk | hk
    · exact (h.sizes.lt k (own_mem.1 hk)).2
    · exact (h.free.lt k (own_mem.1 hk)).2
theorem new_no (m : Int) (w : World) (_ : In64 m) (hm : m < 0 ∨ 1073741824 < m) : Calls Try.prog 7 #[.int .i64 m] w (fun e w' => e = .returned (.tuple #[.pointer none, .int .i64 2]) ∧ Below w.heap.size w w') := by
  by_cases h1 : m < 0
  · go_enter Try.func7, Try.ntmps7
    go_wp2_with fail
    go_ret2
    exact ⟨rfl, Below.refl _ _⟩
  · have h2 : 1073741824 < m := by omega
    clear hm
    go_enter Try.func7, Try.ntmps7
    go_wp2_with fail
    go_ret2
    exact ⟨rfl, Below.refl _ _⟩
theorem pat_new (m : Int) (h0 : 0 ≤ m) (h1 : m ≤ 1073741824) (w : World) (b : Nat) (hb : w.heap[b]? = some (.cells #[.pointer (some ⟨b, 0, none⟩), .int .i64 m, .int .i64 0, .slice none 0 0, .slice none 0 0] 52 (0, 0))) : PAt w b m [] (.slice none 0 0) (.slice none 0 0) [] where
  cells := hb
  sizes := World.ownsRow_nil _ _ _ _
  free := World.ownsRow_nil _ _ _ _
  apart := .inl rfl
  heap := heap_nil
  perm := List.Perm.refl _
  ok := ⟨fun _ h => absurd h (List.not_mem_nil), h0, ⟨h0, h1⟩, Nat.zero_le _⟩
  len := Nat.zero_le _
theorem new_yes (m : Int) (w : World) (h0 : 0 ≤ m) (h1 : m ≤ 1073741824) : Calls Try.prog 7 #[.int .i64 m] w (NewSays PA m w) := by
  have HB := Lib.hid (new_block w (.cells #[.pointer (some ⟨w.heap.size, 0, none⟩), .int .i64 m, .int .i64 0, .slice none 0 0, .slice none 0 0] 52))
  have H0 := Lib.hid h0
  have H1 := Lib.hid h1
  go_enter Try.func7, Try.ntmps7
  go_wp2_with fail
  go_ret2
  refine ⟨w.heap.size, _, rfl, (pat_new m H0.out H1.out _ _ HB.out).pa, fun k h => ?_, (Below.refl _ _).alloc (Nat.le_refl _) _⟩
  rw [List.mem_singleton.1 (show k ∈ [w.heap.size] from h)]
  exact Nat.le_refl _
end Go.Proofs.Ytpfhaafaoedgpaa.Pl
