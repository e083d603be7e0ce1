/-
  Layer 12: the document's pool: a new one; an object more.
-/
import Derived.Test.YtpfhaafaoedgpaaPlRefB
import Derived.Deep.CutBlock
import Derived.Deep.DeepCutAuto
import Derived.StillTailTactics
namespace Go.Proofs.Ytpfhaafaoedgpaa.Pl
open Go Go.RowKit

theorem ret_ae {a b : Value} {c d : Int} (h : a = b) (h' : c = d) : Ending.returned (.tuple #[a, .int .i64 c]) = .returned (.tuple #[b, .int .i64 d]) := by rw [h, h']
theorem ret_aie {a b : Value} {c d e f : Int} (h : a = b) (h' : c = d) (h2 : e = f) : Ending.returned (.tuple #[a, .int .i64 c, .int .i64 e]) = .returned (.tuple #[b, .int .i64 d, .int .i64 f]) := by rw [h, h', h2]
theorem oneInts (l : List Int) : ∀ u ∈ ints l, u.oneCell' = true := by
  intro u hu
  obtain ⟨x, _, rfl⟩ := List.mem_map.1 hu
  rfl

def badBound (b : Int) : Bool := decide (b < 0) || decide (1073741824 < b)
def NewPost (b : Int) (w : World) (e : Ending) (w' : World) : Prop :=
  e = .returned (.tuple #[.agg #[.int .i64 (if badBound b then 0 else b), .slice none 0 0, .slice none 0 0], .int .i64 (if badBound b then 2 else 0)]) ∧ Below w.heap.size w w'
theorem ret_new {a b c d : Int} (h : a = b) (h' : c = d) : Ending.returned (.tuple #[.agg #[.int .i64 a, .slice none 0 0, .slice none 0 0], .int .i64 c]) = .returned (.tuple #[.agg #[.int .i64 b, .slice none 0 0, .slice none 0 0], .int .i64 d]) := by rw [h, h']
set_option maxHeartbeats 1000000 in
theorem new_fn (b : Int) (w : World) : Calls Try.prog 16 #[.int .i64 b] w (NewPost b w) := by
  by_cases h1 : b < 0
  · have hb := Lib.hid (show badBound b = true by unfold badBound; rw [decide_eq_true h1]; rfl)
    go_enter Try.func16, Try.ntmps16
    go_wp2_with fail
    refine bodyPost_ret (v := .tuple #[.agg #[.int .i64 0, .slice none 0 0, .slice none 0 0], .int .i64 2]) (by simp [results, Try.results16, go_sem]) rfl ?_
    unfold NewPost
    exact ⟨ret_new (by rw [hb.out]; rfl) (by rw [hb.out]; rfl), (Below.refl _ _).alloc (Nat.le_refl _) _⟩
  · by_cases h2 : 1073741824 < b
    · have hb := Lib.hid (show badBound b = true by unfold badBound; rw [decide_eq_true h2, Bool.or_true])
      go_enter Try.func16, Try.ntmps16
      go_wp2_with fail
      refine bodyPost_ret (v := .tuple #[.agg #[.int .i64 0, .slice none 0 0, .slice none 0 0], .int .i64 2]) (by simp [results, Try.results16, go_sem]) rfl ?_
      unfold NewPost
      exact ⟨ret_new (by rw [hb.out]; rfl) (by rw [hb.out]; rfl), (Below.refl _ _).alloc (Nat.le_refl _) _⟩
    · have hb := Lib.hid (show badBound b = false by unfold badBound; rw [decide_eq_false h1, decide_eq_false h2]; rfl)
      go_enter Try.func16, Try.ntmps16
      go_wp2_with fail
      refine bodyPost_ret (v := .tuple #[.agg #[.int .i64 b, .slice none 0 0, .slice none 0 0], .int .i64 0]) (by simp [results, Try.results16, go_sem]) rfl ?_
      unfold NewPost
      exact ⟨ret_new (by rw [hb.out]; rfl) (by rw [hb.out]; rfl), (Below.refl _ _).alloc (Nat.le_refl _) _⟩
end Go.Proofs.Ytpfhaafaoedgpaa.Pl
