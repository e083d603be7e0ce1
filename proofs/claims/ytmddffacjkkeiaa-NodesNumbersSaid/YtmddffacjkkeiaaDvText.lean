/-
  Layer 5: the chapter's text, as the laws make it.
-/
import Derived.Test.YtmddffacjkkeiaaDvMvOwn
import Derived.Test.YtmddffacjkkeiaaDvChk
import Derived.Test.YtmddffacjkkeiaaDvSameFn
namespace Go.Proofs.Ytmddffacjkkeiaa.Nd
open Go Go.RowKit Go.ChangeShapes Go.WideShapes Go.Shelf
open Go.Proofs.Ytmddffacjkkeiaa.Rf

theorem hit {w : World} {o : Obj} {k : Nat} (hk : k = w.heap.size) : (w.alloc o).heap[k]? = some o := by
  subst hk; exact new_block w o
theorem miss {w : World} {o o' : Obj} {k : Nat} (hk : w.heap[k]? = some o') : (w.alloc o).heap[k]? = some o' := (Below.heap_alloc _ _ _ (lt_of_heap hk)).trans hk
/-- A slice that was written out. -/
theorem own_lit {w : World} {b g n : Nat} {e : TypeId} {size : Nat} {cur : Array Value} (hg : b ≤ g) (h : w.heap[g]? = some (.cells cur e (0, 0))) (hn : cur.size = n * size) (hl : n ≤ maxLen) : w.ownsRow b e size (.slice (some ⟨g, 0, none⟩) n n) n cur.toList :=
  ⟨by rw [Array.length_toList, hn], .inr ⟨g, n, cur, rfl, hg, h, Nat.le_refl _, hl, hn, by rw [List.take_of_length_le (by rw [Array.length_toList]; omega)]⟩⟩

set_option maxRecDepth 100000 in
set_option maxHeartbeats 4000000 in
theorem text_fn (w : World) : Calls Try.prog 25 #[] w fun e w' => ∃ u rs, e = .returned (.agg #[u, .int .i64 4]) ∧ OwnNd w' w.heap.size u rs ∧ rs.map (·.1) = textL ∧ Below w.heap.size w w' := by
  go_enter Try.func25, Try.ntmps25
  go_wp2_with fail
  obtain ⟨W, hW⟩ : ∃ W, (((((w.alloc (.cells #[.slice (some ⟨w.heap.size + 1 + 1 + 1 + 1, 0, none⟩) 5 5, .int .i64 4] 24)).alloc (.cells #[.int .i64 0, .int .i64 1] 3)).alloc (.cells #[.int .i64 2] 3)).alloc (.cells #[.int .i64 3] 3)).alloc
      (.cells #[.int .u8 27, .int .i64 0, .string ⟨#[120]⟩, .slice none 0 0, .slice none 0 0, .int .i64 1, .int .u8 23, .int .i64 1, .string ⟨#[]⟩, .slice none 0 0, .slice none 0 0, .int .i64 1,
        .int .u8 3, .int .i64 1, .string ⟨#[]⟩, .slice none 0 0, .slice (some ⟨w.heap.size + 1, 0, none⟩) 2 2, .int .i64 1, .int .u8 1, .int .i64 0, .string ⟨#[]⟩, .slice none 0 0, .slice (some ⟨w.heap.size + 1 + 1, 0, none⟩) 1 1, .int .i64 1,
        .int .u8 26, .int .i64 1, .string ⟨#[]⟩, .slice none 0 0, .slice (some ⟨w.heap.size + 1 + 1 + 1, 0, none⟩) 1 1, .int .i64 1] 30)) = W := ⟨_, rfl⟩
  have hb : Below w.heap.size w W := by
    rw [← hW]
    exact (((((Below.refl _ _).alloc (Nat.le_refl _) _).alloc (by simp) _).alloc (by simp; omega) _).alloc (by simp; omega) _).alloc (by simp; omega) _
  have h0 : W.heap[w.heap.size]? = some (.cells #[.slice (some ⟨w.heap.size + 1 + 1 + 1 + 1, 0, none⟩) 5 5, .int .i64 4] 24 (0, 0)) := by rw [← hW]; exact miss (miss (miss (miss (hit (by simp)))))
  have h1 : W.heap[w.heap.size + 1]? = some (.cells #[.int .i64 0, .int .i64 1] 3 (0, 0)) := by rw [← hW]; exact miss (miss (miss (hit (by simp))))
  have h2 : W.heap[w.heap.size + 1 + 1]? = some (.cells #[.int .i64 2] 3 (0, 0)) := by rw [← hW]; exact miss (miss (hit (by simp)))
  have h3 : W.heap[w.heap.size + 1 + 1 + 1]? = some (.cells #[.int .i64 3] 3 (0, 0)) := by rw [← hW]; exact miss (hit (by simp))
  have h4 := (by rw [← hW]; exact hit (by simp) : W.heap[w.heap.size + 1 + 1 + 1 + 1]? = some (.cells #[.int .u8 27, .int .i64 0, .string ⟨#[120]⟩, .slice none 0 0, .slice none 0 0, .int .i64 1, .int .u8 23, .int .i64 1, .string ⟨#[]⟩, .slice none 0 0, .slice none 0 0, .int .i64 1,
        .int .u8 3, .int .i64 1, .string ⟨#[]⟩, .slice none 0 0, .slice (some ⟨w.heap.size + 1, 0, none⟩) 2 2, .int .i64 1, .int .u8 1, .int .i64 0, .string ⟨#[]⟩, .slice none 0 0, .slice (some ⟨w.heap.size + 1 + 1, 0, none⟩) 1 1, .int .i64 1,
        .int .u8 26, .int .i64 1, .string ⟨#[]⟩, .slice none 0 0, .slice (some ⟨w.heap.size + 1 + 1 + 1, 0, none⟩) 1 1, .int .i64 1] 30 (0, 0)))
  rw [hW]
  have x0 := cell_of h0 0 _ rfl
  have x1 := cell_of h0 1 _ rfl
  have nil : ∀ e, W.ownsRow 0 e 1 (.slice none 0 0) 0 [] := fun e => World.ownsRow_nil _ _ _ _
  refine bodyPost_ret (v := .agg #[.slice (some ⟨w.heap.size + 1 + 1 + 1 + 1, 0, none⟩) 5 5, .int .i64 4]) (by simp [results, Try.results25, go_sem, x0, x1]) rfl ?_
  refine ⟨_, [(textL[0], .slice none 0 0, .slice none 0 0), (textL[1], .slice none 0 0, .slice none 0 0), (textL[2], .slice none 0 0, .slice (some ⟨w.heap.size + 1, 0, none⟩) 2 2), (textL[3], .slice none 0 0, .slice (some ⟨w.heap.size + 1 + 1, 0, none⟩) 1 1), (textL[4], .slice none 0 0, .slice (some ⟨w.heap.size + 1 + 1 + 1, 0, none⟩) 1 1)], rfl,
    ⟨own_lit (by omega) h4 rfl (by unfold maxLen; omega), fun r hr => ?_⟩, rfl, hb⟩
  simp only [List.mem_cons, List.not_mem_nil, or_false] at hr
  rcases hr with rfl | rfl | rfl | rfl | rfl
  · exact ⟨nil _, nil _⟩
  · exact ⟨nil _, nil _⟩
  · exact ⟨nil _, own_lit (Nat.zero_le _) h1 rfl (by unfold maxLen; omega)⟩
  · exact ⟨nil _, own_lit (Nat.zero_le _) h2 rfl (by unfold maxLen; omega)⟩
  · exact ⟨nil _, own_lit (Nat.zero_le _) h3 rfl (by unfold maxLen; omega)⟩

end Go.Proofs.Ytmddffacjkkeiaa.Nd
