/-
  Layer 5: awake: the chapter's examples.
-/
import Derived.Test.YtmddffacjkkeiaaDvText
import Derived.Deep.CutBlock
import Derived.Deep.DeepCutAuto
namespace Go.Proofs.Ytmddffacjkkeiaa.Nd
open Go Go.RowKit Go.ChangeShapes Go.WideShapes Go.Shelf
open Go.Proofs.Ytmddffacjkkeiaa.Rf

instance (n : Nd) : Decidable (Fine n) := by unfold Fine In64; infer_instance
theorem fine_list {l : List Nd} (h : decide (∀ n ∈ l, Fine n) = true) : ∀ n ∈ l, Fine n := of_decide_eq_true h
theorem text_fine : ∀ n ∈ textL, Fine n := fine_list (by kernel_rfl)
theorem text_fine_a : ∀ n ∈ (textL.set 2 ⟨3, 1, ⟨#[]⟩, [], [1, 1], 1⟩), Fine n := fine_list (by kernel_rfl)
theorem text_fine_b : ∀ n ∈ (textL.set 2 ⟨3, 2, ⟨#[]⟩, [], [0, 1], 1⟩), Fine n := fine_list (by kernel_rfl)

/-- Right's answer where it is known. -/
theorem right_is {v : Value} {l : List Nd} {root : Int} {w : World} (b : Bool) (hS : SynAt w v l root) (hl : l.length ≤ 1000000) (hf : ∀ n ∈ l, Fine n) (h : rightB (rowD nmD) l root = b) :
    Calls Try.prog 8 #[v] w fun e w' => e = .returned (.bool b) ∧ Below w.heap.size w w' :=
  (own_right v l root w hS hl hf).mono fun e w' ⟨b', he, hb, hw⟩ => by
    refine ⟨?_, hw⟩
    rw [he]
    have : b' = b := by rw [← h, Bool.eq_iff_iff, hb, rightB_iff]
    rw [this]
theorem own_same (va vb : Value) (l m : List Nd) (x y : Int) (w : World) (hS : SynAt w va l x) (hT : SynAt w vb m y) (hl9 : l.length ≤ 1000000) (hm9 : m.length ≤ 1000000) (hfine : ∀ n ∈ l, Fine n) (hfine2 : ∀ n ∈ m, Fine n) :
    Calls Try.prog 12 #[va, vb] w (SaysS w l m x y) := callsIn_wide.1 (same_fn va vb l m x y w hS hT hl9 hm9 hfine hfine2)
/-- A syntax in the call's own memory. -/
def OwnSyn (w : World) (u : Value) (l : List Nd) : Prop := ∃ rs, OwnNd w 0 u rs ∧ rs.map (·.1) = l
theorem OwnNd.low {w : World} {b : Nat} {v : Value} {rs : List R3} (h : OwnNd w b v rs) : OwnNd w 0 v rs := ⟨ownsRow_base h.1 (Nat.zero_le _), h.2⟩
theorem OwnSyn.below {w w' : World} {u : Value} {l : List Nd} (h : OwnSyn w u l) (hb : Below w.heap.size w w') : OwnSyn w' u l := by
  obtain ⟨rs, h1, h2⟩ := h
  exact ⟨rs, h1.below hb, h2⟩
theorem OwnSyn.syn {w : World} {u : Value} {l : List Nd} (h : OwnSyn w u l) (hf : ∀ n ∈ l, Fine n) (root : Int) (hr : In64 root) (hl : l.length ≤ 1000000) : SynAt w (.agg #[u, .int .i64 root]) l root := by
  obtain ⟨rs, h1, rfl⟩ := h
  exact own_syn h1 (fun r hr => hf _ (List.mem_map_of_mem hr)) hr (by rwa [List.length_map] at hl)
theorem OwnSyn.elsewhere {w : World} {g g' n c j : Nat} {l : List Nd} {cs : Array Value} {T : TypeId} {fr : Nat × Nat} {v : Value} (h : OwnSyn w (.slice (some ⟨g, 0, none⟩) n c) l) (hg : w.heap[g']? = some (.cells cs T fr)) (hne : g' ≠ g) (h1 : 9 ≠ T) (h2 : 3 ≠ T) : OwnSyn (w.setCell ⟨g', j, none⟩ v) (.slice (some ⟨g, 0, none⟩) n c) l := by
  obtain ⟨rs, ho, hm⟩ := h
  exact ⟨rs, ⟨ownsRow_setCell_other ho.1 (fun e => hne (Option.some.inj e).symm) v, fun r hr => (ho.2 r hr).set hg h1 h2⟩, hm⟩
theorem OwnSyn.block {w : World} {g n c : Nat} {l : List Nd} (h : OwnSyn w (.slice (some ⟨g, 0, none⟩) n c) l) : ∃ cur, w.heap[g]? = some (.cells cur 30 (0, 0)) := by
  obtain ⟨rs, ho, _⟩ := h
  rcases ho.1.2 with ⟨h1, _⟩ | ⟨g', cap, cur, hv, _, hh, _⟩
  · cases h1
  · cases hv; exact ⟨cur, hh⟩
theorem OwnSyn.cellOk {w : World} {g n c : Nat} {l : List Nd} (h : OwnSyn w (.slice (some ⟨g, 0, none⟩) n c) l) (i : Nat) (hi : i < l.length * 6) : (∃ v, w.cell? ⟨g, i, none⟩ = some v) ∧ w.frozen? ⟨g, i, none⟩ = false := by
  obtain ⟨rs, ho, rfl⟩ := h
  rcases ho.1.2 with ⟨h1, _⟩ | ⟨g', cap, cur, hv, _, hh, hc, hm, hs, ht⟩
  · cases h1
  · cases hv
    rw [List.length_map] at hi
    exact ⟨⟨_, cell_of hh i cur[i] (Array.getElem?_eq_getElem (by omega))⟩, free_of hh i⟩
/-- A cell of node j is turned: N, the kids or the line. -/
theorem OwnSyn.turn {w : World} {g n c j i : Nat} {l : List Nd} {v : Value} {a b : Nd} (h : OwnSyn w (.slice (some ⟨g, 0, none⟩) n c) l) (hn : l.length = n) (hj : l[j]? = some a) (hi : i < 6) (hs : ∀ vn vk, ∃ vk', (cells6 (a, vn, vk)).set i v = cells6 (b, vn, vk') ∧ (Sub w (a, vn, vk) → Sub w (b, vn, vk'))) :
    OwnSyn (w.setCell ⟨g, j * 6 + i, none⟩ v) (.slice (some ⟨g, 0, none⟩) n c) (l.set j b) := by
  obtain ⟨rs, ho, rfl⟩ := h
  rw [List.length_map] at hn
  rw [List.getElem?_map] at hj
  cases hr : rs[j]? with
  | none => rw [hr] at hj; cases hj
  | some r =>
    rw [hr] at hj
    obtain ⟨r1, vn, vk⟩ := r
    cases hj
    obtain ⟨vk', h1, h2⟩ := hs vn vk
    exact ⟨_, own_set ho hn hr hi h1 (h2 (ho.2 _ (List.mem_of_getElem? hr))), by rw [List.map_set]⟩

theorem text_is (w : World) : Calls Try.prog 25 #[] w fun e w' => ∃ g c, e = .returned (.agg #[.slice (some ⟨g, 0, none⟩) 5 c, .int .i64 4]) ∧ OwnSyn w' (.slice (some ⟨g, 0, none⟩) 5 c) textL ∧ w.heap.size ≤ g ∧ g < w'.heap.size ∧ Below w.heap.size w w' :=
  (text_fn w).mono fun e w' ⟨u, rs, he, ho, hm, hb⟩ => by
    have hl : rs.length = 5 := by rw [← List.length_map (f := (·.1)), hm]; rfl
    have h1 := ho.1
    rw [hl] at h1
    obtain ⟨g, c, rfl⟩ := own_ne h1 (by omega)
    obtain ⟨_, hg, _, cur, hh, _⟩ := own_at h1
    exact ⟨g, c, he, ⟨rs, ho.low, hm⟩, hg, lt_of_heap hh, hb⟩

end Go.Proofs.Ytmddffacjkkeiaa.Nd
