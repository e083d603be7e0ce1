/-
  The comparisons of two lists, by contracts.
-/
import Derived.Test.YtajeghkmgcpgiaaGreatDoorRunesKit
import Derived.Test.YtajeghkmgcpgiaaGreatDoorRows
import Derived.Deep.QuietTactic
import Derived.BigQuiet
namespace Go.Proofs.YtajeghkmgcpgiaaGreatDoor
open Go.RowKit

/-- A slice of integers of kind k that reads as a list. -/
def Reads (w : World) (k : IntKind) (v : Value) (l : List Int) : Prop :=
  ∃ ao cap, v = .slice ao l.length cap ∧ (l ≠ [] → ∃ g, g < w.heap.size ∧ ao = some ⟨g, 0, none⟩ ∧ ∀ (i : Nat) (h : i < l.length), w.cell? ⟨g, i, none⟩ = some (.int k l[i]))

theorem Reads.below {w w' : World} {k : IntKind} {v : Value} {l : List Int} (h : Reads w k v l) (hb : Below w.heap.size w w') : Reads w' k v l := by
  obtain ⟨ao, cap, rfl, h⟩ := h
  refine ⟨ao, cap, rfl, fun hl => ?_⟩
  obtain ⟨g, hg, rfl, hc⟩ := h hl
  exact ⟨g, by have := hb.size; omega, rfl, fun i hi => by rw [hb.cell (p := ⟨g, i, none⟩) hg]; exact hc i hi⟩

theorem Reads.own {w : World} {b : Nat} {e : TypeId} {k : IntKind} {v : Value} {l : List Int} {n : Nat} (h : w.ownsRow b e 1 v n (l.map (Value.int k))) : Reads w k v l := by
  have hn : l.length = n := by have := h.1; simpa using this
  subst hn
  rcases h.2 with ⟨rfl, h0⟩ | ⟨g, cap, cur, rfl, _, hg, _⟩
  · exact ⟨none, 0, by rw [h0], fun hl => absurd (List.eq_nil_of_length_eq_zero h0) hl⟩
  · refine ⟨_, cap, rfl, fun _ => ⟨g, (Array.getElem?_eq_some_iff.1 hg).1, rfl, fun i hi => ?_⟩⟩
    rw [h.cellAt i (by omega)]
    simp [hi]

end Go.Proofs.YtajeghkmgcpgiaaGreatDoor
