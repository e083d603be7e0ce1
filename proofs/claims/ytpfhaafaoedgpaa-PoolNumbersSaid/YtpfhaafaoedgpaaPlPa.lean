/-
  Layer 12: the developers' pool as it lies in memory: a struct, the sizes, the free numbers as a heap.
-/
import Derived.Test.YtpfhaafaoedgpaaPlFree
import Derived.Test.YtpfhaafaoedgpaaPlAbs
namespace Go.Proofs.Ytpfhaafaoedgpaa.Pl
open Go Go.RowKit

/-- A row of numbers of the call's own. -/
abbrev Row (w : World) (v : Value) (h : List Int) : Prop := w.ownsRow 0 3 1 v h.length (ints h)
theorem row_turns {w w' : World} {G : List Nat} {v : Value} {h : List Int} (hr : Row w v h) (ht : Turns G w w') (hn : ∀ k, v.ownBlock = some k → k ∉ G) : Row w' v h := by
  refine ⟨hr.1, ?_⟩
  rcases hr.2 with hn2 | ⟨g, cap, cur, rfl, hb, hg, rest⟩
  · exact .inl hn2
  · exact .inr ⟨g, cap, cur, rfl, hb, by rw [ht.block g (lt_of_get hg) (hn g rfl)]; exact hg, rest⟩
theorem row_below {w w' : World} {v : Value} {h : List Int} (hr : Row w v h) (hb : Below w.heap.size w w') : Row w' v h := row_turns hr (Turns.of_below (F := []) hb) (fun _ _ h => absurd h (List.not_mem_nil))
theorem row_item {w : World} {v : Value} {h : List Int} (hr : Row w v h) (i : Nat) (hi : i < h.length) : ∃ g cap, v = .slice (some ⟨g, 0, none⟩) h.length cap ∧ h.length ≤ cap ∧ cap ≤ maxLen ∧ g < w.heap.size ∧ w.cell? ⟨g, i, none⟩ = some (.int .i64 (gt h i)) ∧ w.frozen? ⟨g, i, none⟩ = false := by
  rcases hr.2 with ⟨rfl, h0⟩ | ⟨g, cap, cur, rfl, hb, hg, hc, hm, _⟩
  · omega
  · refine ⟨g, cap, rfl, hc, hm, lt_of_get hg, ?_, hr.frozenAt i⟩
    rw [hr.cellAt i (by omega), gt_get h i hi, List.getElem?_eq_getElem (by rw [ints_len]; exact hi), ints_get h i hi]
theorem row_len {w : World} {v : Value} {h : List Int} (hr : Row w v h) : ∃ ao cap, v = .slice ao h.length cap ∧ h.length ≤ cap ∧ cap ≤ maxLen := by
  rcases hr.2 with ⟨rfl, h0⟩ | ⟨g, cap, cur, rfl, hb, hg, hc, hm, _⟩
  · exact ⟨_, _, by rw [h0], by omega, by unfold maxLen; omega⟩
  · exact ⟨_, _, rfl, hc, hm⟩
theorem ints_set (h : List Int) (i : Nat) (x : Int) : (ints h).set i (.int .i64 x) = ints (h.set i x) := by unfold ints; rw [List.map_set]
theorem row_set {w : World} {g n cap : Nat} {h : List Int} (hr : Row w (.slice (some ⟨g, 0, none⟩) n cap) h) (i : Nat) (x : Int) : Row (w.setCell ⟨g, i, none⟩ (.int .i64 x)) (.slice (some ⟨g, 0, none⟩) n cap) (h.set i x) := by
  have hn : n = h.length := by
    rcases hr.2 with ⟨e, _⟩ | ⟨_, _, _, e, _⟩
    · cases e
    · injection e
  subst hn
  have := (hr.stored i (.int .i64 x)).1
  rw [ints_set] at this
  unfold Row
  rw [List.length_set]
  exact this
theorem turns_set {w w' : World} {G : List Nat} {g i : Nat} {v : Value} (h : Turns G w w') (hg : g ∈ G) : Turns G w (w'.setCell ⟨g, i, none⟩ v) :=
  ⟨h.os, h.tape, h.output, by have := h.size; simpa using this, fun k hk hn => by
    rw [← h.block k hk hn]
    exact heap_setCell_other _ _ k _ (fun e => hn ((show k = g from e) ▸ hg))⟩
theorem turns_alloc {w w' : World} {G : List Nat} {o : Obj} (h : Turns G w w') : Turns G w (w'.alloc o) :=
  h.trans (Turns.of_below (F := []) ((Below.refl _ _).alloc (Nat.le_refl _) _)) (fun _ h => absurd h (List.not_mem_nil))

/-- A pool at block b, with its sizes' row, its free numbers' row. -/
structure PAt (w : World) (b : Nat) (m : Int) (l : Ob) (vs vf : Value) (fr : List Int) : Prop where
  cells : w.heap[b]? = some (.cells #[.pointer (some ⟨b, 0, none⟩), .int .i64 m, .int .i64 (usedL l), vs, vf] 52 (0, 0))
  sizes : Row w vs (szsL l)
  free : Row w vf fr
  apart : vs.ownBlock = none ∨ vs.ownBlock ≠ vf.ownBlock
  heap : Heap fr
  perm : fr.Perm (freeL 1 l)
  ok : ObOk m l
  len : l.length ≤ 65536
def PA : PoolP := fun w b m l F => ∃ vs vf fr, PAt w b m l vs vf fr ∧ b ∈ F ∧ (∀ k, vs.ownBlock = some k → k ∈ F) ∧ (∀ k, vf.ownBlock = some k → k ∈ F) ∧ ∀ k ∈ F, k < w.heap.size
theorem row_block {w : World} {v : Value} {h : List Int} (hr : Row w v h) {k : Nat} (hk : v.ownBlock = some k) : ∃ cs, w.heap[k]? = some (.cells cs 3 (0, 0)) := by
  rcases hr.2 with ⟨rfl, _⟩ | ⟨g, cap, cur, rfl, hb, hg, _⟩
  · cases hk
  · injection hk with hk
    dsimp only at hk
    subst hk
    exact ⟨_, hg⟩
theorem row_ne {w : World} {v : Value} {h : List Int} {b : Nat} {cs : Array Value} (hr : Row w v h) (hb : w.heap[b]? = some (.cells cs 52 (0, 0))) : v.ownBlock ≠ some b := by
  intro e
  obtain ⟨cs2, h2⟩ := row_block hr e
  rw [hb] at h2
  injection h2 with h2
  injection h2 with _ h3 _
  exact absurd h3 (by decide)
section
variable {w w' : World} {b : Nat} {m : Int} {l : Ob} {vs vf : Value} {fr : List Int} {F G : List Nat}
theorem PAt.turns (h : PAt w b m l vs vf fr) (ht : Turns G w w') (h1 : b ∉ G) (h2 : ∀ k, vs.ownBlock = some k → k ∉ G) (h3 : ∀ k, vf.ownBlock = some k → k ∉ G) : PAt w' b m l vs vf fr :=
  ⟨by rw [ht.block b (lt_of_get h.cells) h1]; exact h.cells, row_turns h.sizes ht h2, row_turns h.free ht h3, h.apart, h.heap, h.perm, h.ok, h.len⟩
theorem PA.keep (h : PA w b m l F) (ht : Turns G w w') (hn : ∀ k ∈ F, k ∉ G) : PA w' b m l F := by
  obtain ⟨vs, vf, fr, hp, h1, h2, h3, h4⟩ := h
  exact ⟨vs, vf, fr, hp.turns ht (hn b h1) (fun k hk => hn k (h2 k hk)) (fun k hk => hn k (h3 k hk)), h1, h2, h3, fun k hk => Nat.lt_of_lt_of_le (h4 k hk) ht.size⟩
theorem PA.mem (h : PA w b m l F) : b ∈ F ∧ ∀ k ∈ F, k < w.heap.size := by
  obtain ⟨vs, vf, fr, hp, h1, h2, h3, h4⟩ := h
  exact ⟨h1, h4⟩
theorem PA.ok (h : PA w b m l F) : ObOk m l := by
  obtain ⟨vs, vf, fr, hp, _⟩ := h
  exact hp.ok
theorem PAt.cnt (h : PAt w b m l vs vf fr) : fr.length + cntL l = l.length := by rw [h.perm.length_eq]; exact free_len 1 l
end
end Go.Proofs.Ytpfhaafaoedgpaa.Pl
