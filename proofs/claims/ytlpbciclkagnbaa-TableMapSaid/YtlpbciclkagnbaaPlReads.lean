/-
  Layer 12: that any argument of the laws' types is a list in memory.
-/
import Derived.Test.YtlpbciclkagnbaaPlMem
import Derived.Lib.SmallJoins
import Derived.SizedLaws
import Derived.ChangeArms
namespace Go.Proofs.Ytlpbciclkagnbaa.Pl
open Go.ChangeShapes Go.WideShapes Go.RowKit Go.Deep Go.Joins

/-- A list whose items take C cells each. -/
def RowsP {α : Type} (C : Nat) (V : Array Value → α → Prop) (P : Nat → Prop) (w : World) (v : Value) (l : List α) : Prop :=
  ∃ ao cap, v = .slice ao l.length cap ∧ (l.length ≤ cap ∧ Len l.length) ∧ (l ≠ [] → ∃ g off, P g ∧ g < w.heap.size ∧ ao = some ⟨g, off, none⟩ ∧ ∀ (i : Nat) (h : i < l.length), ∃ cs : Array Value, V cs l[i] ∧ ∀ (j : Nat) (hj : j < C), ∃ h : j < cs.size, w.cell? ⟨g, off + i * C + j, none⟩ = some cs[j])
theorem RowsP.item {α : Type} {C : Nat} {V : Array Value → α → Prop} {P : Nat → Prop} {w : World} {v : Value} {l : List α} (h : RowsP C V P w v l) {i : Nat} (hi : i < l.length) : ∃ g off cap cs, P g ∧ g < w.heap.size ∧ v = .slice (some ⟨g, off, none⟩) l.length cap ∧ V cs l[i] ∧ ∀ (j : Nat), j < C → ∃ h : j < cs.size, w.cell? ⟨g, off + i * C + j, none⟩ = some cs[j] := by
  obtain ⟨ao, cap, rfl, hl, hc⟩ := h
  obtain ⟨g, off, hg, hg2, rfl, hx⟩ := hc (by rintro rfl; exact absurd hi (Nat.not_lt_zero _))
  obtain ⟨cs, h1, h2⟩ := hx i hi
  exact ⟨g, off, cap, cs, hg, hg2, rfl, h1, h2⟩
theorem RowsP.slice {α : Type} {C : Nat} {V : Array Value → α → Prop} {P : Nat → Prop} {w : World} {v : Value} {l : List α} (h : RowsP C V P w v l) : ∃ ao cap, v = .slice ao l.length cap ∧ l.length ≤ cap ∧ Len l.length := by
  obtain ⟨ao, cap, hv, hl, _⟩ := h
  exact ⟨ao, cap, hv, hl⟩

section
variable {H : Type} {enc : TypeId × Value → H} {w : World} {base : Nat} {spare : Nat → Bool} {held : Bool}

/-- What an item of a list must give. -/
def Each {α : Type} (enc : TypeId × Value → H) (w : World) (base : Nat) (spare : Nat → Bool) (held : Bool) (e : TypeId) (C : Nat) (V : Array Value → α → Prop) : Prop :=
  ∀ fuel b o cs x, w.cells? base ⟨b, o, none⟩ (Try.prog.cellsOf e) = some cs → DataW.trod enc Try.prog w base spare held fuel e cs = some x → ∃ (a : α) (cv : Array Value), V cv a ∧ ∀ (j : Nat), j < C → ∃ h : j < cv.size, w.cell? ⟨b, o + j, none⟩ = some cv[j]
theorem rows_lie {α : Type} [Inhabited α] {ts e : TypeId} {C : Nat} {V : Array Value → α → Prop} (hu : Try.prog.underlying ts = some (.slice e)) (hC : Try.prog.cellsOf e = C) (h0C : 0 < C) (he : Each enc w base spare held e C V) {fuel : Nat} {v : Value} {x : DataW H × List MemPlace}
    (h : DataW.trod enc Try.prog w base spare held fuel ts [v] = some x) : ∃ l : List α, RowsP C V (fun _ => True) w v l := by
  rcases open_slice hu h with ⟨hcs, _⟩ | ⟨a, len, cap, m, n, D, Pl, hcs, _, hl, hm, hmm, hx, hi⟩
  · simp at hcs
    exact ⟨[], none, 0, hcs, ⟨Nat.le_refl _, Nat.zero_le _⟩, fun h => absurd rfl h⟩
  · simp at hcs
    subst hcs
    have hge : len ≤ m := by rw [hmm]; split <;> omega
    rcases Nat.eq_zero_or_pos len with h0 | hpos
    · subst h0
      exact ⟨[], some a, cap, rfl, ⟨Nat.zero_le _, Nat.zero_le _⟩, fun h => absurd rfl h⟩
    obtain ⟨b, off, spot⟩ := a
    have hspot : spot = none := by
      obtain ⟨cs', hc', _⟩ := hi 0 (by omega)
      obtain ⟨_, hcl, hat⟩ := World.cells?_some hc'
      have := hat 0 (by omega)
      rw [List.getElem?_eq_getElem (by omega)] at this
      simpa [Addr.add] using World.cell?_spot this
    subst hspot
    have each : ∀ i, ∃ (q : α × Array Value), i < len → V q.2 q.1 ∧ ∀ (j : Nat), j < C → ∃ h : j < q.2.size, w.cell? ⟨b, off + i * C + j, none⟩ = some q.2[j] := by
      intro i
      by_cases h : i < len
      · obtain ⟨cs', hc', ht'⟩ := hi i (by omega)
        rw [add_plain, show i * Try.prog.cellsOf e = i * C from by rw [hC]] at hc'
        obtain ⟨a, cv, h1, h2⟩ := he _ _ _ _ _ hc' ht'
        exact ⟨(a, cv), fun _ => ⟨h1, h2⟩⟩
      · exact ⟨default, fun h' => absurd h' h⟩
    obtain ⟨f, hf⟩ := Classical.skolem.1 each
    have hL : ((List.range len).map fun i => (f i).1).length = len := by rw [List.length_map, List.length_range]
    refine ⟨(List.range len).map fun i => (f i).1, some ⟨b, off, none⟩, cap, by rw [hL], ⟨by rw [hL]; exact hl, by rw [hL]; unfold maxLen at hm; unfold Len; omega⟩, fun _ => ⟨b, off, trivial, ?_, rfl, fun i h => ?_⟩⟩
    · obtain ⟨hs, c0⟩ := (hf 0 hpos).2 0 h0C
      exact World.block_lt_of_cell? w _ c0
    · rw [hL] at h
      exact ⟨(f i).2, by simpa using (hf i h).1, fun j hj => (hf i h).2 j hj⟩
theorem lst_lie {α : Type} {en : α → Value} {Q : α → Prop} {P : Nat → Prop} {v : Value} {l : List α} (h : RowsP 1 (fun cs a => cs = #[en a] ∧ Q a) P w v l) : LstP P w v (l.map en) ∧ ∀ a ∈ l, Q a := by
  obtain ⟨ao, cap, rfl, hl, hc⟩ := h
  constructor
  · refine ⟨ao, cap, by rw [List.length_map], by rw [List.length_map]; exact hl, fun hne => ?_⟩
    obtain ⟨g, off, hg, hg2, rfl, hx⟩ := hc (fun h => hne (by rw [h]; rfl))
    refine ⟨g, off, hg, hg2, rfl, fun j hj => ?_⟩
    have hj2 : j < l.length := by simpa using hj
    obtain ⟨cs, ⟨rfl, _⟩, h2⟩ := hx j hj2
    obtain ⟨_, h3⟩ := h2 0 (by decide)
    rw [List.getElem_map]
    simpa using h3
  · intro a ha
    obtain ⟨i, hi, rfl⟩ := List.getElem_of_mem ha
    obtain ⟨g, off, _, _, _, hx⟩ := hc (by intro h; subst h; exact absurd hi (Nat.not_lt_zero _))
    obtain ⟨cs, ⟨_, hq⟩, _⟩ := hx i hi
    exact hq
theorem one_cell {b o : Nat} {e : TypeId} {cs : List Value} {u : Value} (hC : Try.prog.cellsOf e = 1) (hc : w.cells? base ⟨b, o, none⟩ (Try.prog.cellsOf e) = some cs) (he : cs = [u]) : ∀ (j : Nat), j < 1 → ∃ h : j < #[u].size, w.cell? ⟨b, o + j, none⟩ = some #[u][j] := by
  obtain ⟨_, _, hat⟩ := World.cells?_some hc
  intro j hj
  obtain rfl : j = 0 := by omega
  refine ⟨by simp, ?_⟩
  have := hat 0 (by rw [hC]; decide)
  rw [add_plain, he] at this
  exact this
theorem int_each : Each enc w base spare held 3 1 (fun cs (z : Int) => cs = #[.int .i64 z] ∧ In64 z) := fun fuel b o cs x hc ht => by
  obtain ⟨z, e0, _, wf⟩ := DataW.trod_int Try.underlying3 ht
  exact ⟨z, _, ⟨rfl, bounds_i64 wf⟩, one_cell (by kernel_rfl) hc e0⟩
/-- A struct's row of one-cell fields: each field's cell with its reading. -/
theorem fields_lie {P : Program} {e : TypeId} {fs : Array Field} {fuel : Nat} {b o : Nat} {cs : List Value} {x : DataW H × List MemPlace} (he : P.underlying e = some (.struct fs)) (hone : oneCellFields P fs = true) (hC : P.cellsOf e = fs.size)
    (hc : w.cells? base ⟨b, o, none⟩ (P.cellsOf e) = some cs) (h : DataW.trod enc P w base spare held fuel e cs = some x) :
    ∃ n, ∀ (j : Nat) (f : Field), fs[j]? = some f → ∃ v y, w.cell? ⟨b, o + j, none⟩ = some v ∧ DataW.trod enc P w base spare held n f.type [v] = some y := by
  obtain ⟨xs, n, _, rfl, hlen, hxl, hf⟩ := DataW.trod_struct he h
  obtain ⟨_, _, hat⟩ := World.cells?_some hc
  refine ⟨n, fun j f hj => ?_⟩
  obtain ⟨ho, hk⟩ := hone_of hone j f hj
  have hjl : j < fs.size := (Array.getElem?_eq_some_iff.1 hj).1
  have hjc : j < cs.length := by omega
  have h1 := hf j f hj
  rw [ho, hk, List.drop_eq_getElem_cons hjc] at h1
  have hcell := hat j (by omega)
  rw [add_plain, List.getElem?_eq_getElem hjc] at hcell
  exact ⟨_, xs[j]'(by omega), hcell, h1.trans (List.getElem?_eq_getElem (by omega))⟩
theorem ints_lie {fuel : Nat} {v : Value} {x : DataW H × List MemPlace} (h : DataW.trod enc Try.prog w base spare held fuel 44 [v] = some x) : ∃ l : List Int, LstP (fun _ => True) w v (ints l) ∧ ∀ c ∈ l, In64 c := by
  obtain ⟨l, hl⟩ := rows_lie Try.underlying44 (by kernel_rfl) (by decide) int_each h
  exact ⟨l, lst_lie hl⟩
end
end Go.Proofs.Ytlpbciclkagnbaa.Pl
