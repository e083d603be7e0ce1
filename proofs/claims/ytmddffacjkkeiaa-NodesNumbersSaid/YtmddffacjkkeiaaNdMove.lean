/-
  Layer 5: a node brought to the front: the same list in another order.
-/
import Derived.Test.YtmddffacjkkeiaaNdMath
namespace Go.Proofs.Ytmddffacjkkeiaa.Nd

def placeZ (k : Nat) (a : Int) : Int := if a = k then 0 else if 0 ≤ a ∧ a < k then a + 1 else a
def mapK (f : Int → Int) (n : Nd) : Nd := { n with kids := n.kids.map f }
def pull (k : Nat) (l : List Nd) : List Nd := at' l k :: (l.take k ++ l.drop (k + 1))
def front (k : Nat) (l : List Nd) : List Nd := (pull k l).map (mapK (placeZ k))

theorem pull_length {k : Nat} {l : List Nd} (h : k < l.length) : (pull k l).length = l.length := by
  unfold pull
  rw [List.length_cons, List.length_append, List.length_take, List.length_drop]; omega
theorem front_length {k : Nat} {l : List Nd} (h : k < l.length) : (front k l).length = l.length := by
  unfold front; rw [List.length_map, pull_length h]
theorem pull_at {k : Nat} {l : List Nd} (h : k < l.length) (i : Nat) (hi : i < l.length) : (pull k l)[if i = k then 0 else if i < k then i + 1 else i]? = l[i]? := by
  unfold pull
  by_cases h1 : i = k
  · subst h1
    rw [if_pos rfl, List.getElem?_cons_zero]
    unfold at'
    rw [List.getD_eq_getElem?_getD, show ((i : Int)).toNat = i from rfl, List.getElem?_eq_getElem h]; rfl
  · rw [if_neg h1]
    by_cases h2 : i < k
    · rw [if_pos h2, List.getElem?_cons_succ, List.getElem?_append_left (by rw [List.length_take]; omega), List.getElem?_take_of_lt h2]
    · rw [if_neg h2]
      obtain ⟨j, rfl⟩ : ∃ j, i = j + 1 := ⟨i - 1, by omega⟩
      rw [List.getElem?_cons_succ, List.getElem?_append_right (by rw [List.length_take]; omega), List.length_take, List.getElem?_drop]
      congr 1; omega
theorem place_at (k i : Nat) : placeZ k (i : Int) = ((if i = k then 0 else if i < k then i + 1 else i : Nat) : Int) := by
  unfold placeZ
  by_cases h1 : i = k
  · rw [if_pos (by omega), if_pos h1]; rfl
  · rw [if_neg (by omega), if_neg h1]
    by_cases h2 : i < k
    · rw [if_pos (by omega), if_pos h2]; rfl
    · rw [if_neg (by omega), if_neg h2]
theorem place_lt {k : Nat} {n : Nat} (h : k < n) (a : Int) : (0 ≤ placeZ k a ∧ placeZ k a < n) ↔ (0 ≤ a ∧ a < n) := by
  unfold placeZ; split
  · omega
  · split <;> omega
theorem place_inj (k : Nat) (a b : Int) (h : placeZ k a = placeZ k b) : a = b := by
  unfold placeZ at h
  split at h <;> split at h <;> (try split at h) <;> (try split at h) <;> omega
theorem place_onto {k : Nat} {n : Nat} (h : k < n) (j : Int) (hj : 0 ≤ j ∧ j < n) : ∃ i : Int, (0 ≤ i ∧ i < n) ∧ j = placeZ k i := by
  by_cases h0 : j = 0
  · exact ⟨k, by omega, by unfold placeZ; rw [if_pos rfl]; exact h0⟩
  · by_cases h1 : j ≤ k
    · exact ⟨j - 1, by omega, by unfold placeZ; rw [if_neg (by omega), if_pos (by omega)]; omega⟩
    · exact ⟨j, by omega, by unfold placeZ; rw [if_neg (by omega), if_neg (by omega)]⟩

theorem front_moved {k : Nat} {l : List Nd} (h : k < l.length) : Moved (placeZ k) l (front k l) := by
  have hl := front_length h
  refine ⟨hl, place_inj k, ?_, ?_, ?_, ?_⟩
  · intro i hi
    unfold inR at *
    rw [hl]
    exact (place_lt h i).2 hi
  · intro i hi
    unfold inR at *
    rw [hl] at hi
    exact (place_lt h i).1 hi
  · intro j hj
    unfold inR at *
    rw [hl] at hj
    exact place_onto h j hj
  · intro i hi
    obtain ⟨h0, h1⟩ := hi
    obtain ⟨i, rfl⟩ := Int.eq_ofNat_of_zero_le h0
    have h2 : i < l.length := by omega
    have e : at' (front k l) (placeZ k (i : Int)) = mapK (placeZ k) (at' l i) := by
      have hp := pull_at h i h2
      rw [place_at]
      unfold at' front
      rw [Int.toNat_natCast, Int.toNat_natCast, List.getD_eq_getElem?_getD, List.getElem?_map, hp, List.getD_eq_getElem?_getD, List.getElem?_eq_getElem h2]
      rfl
    rw [e]
    exact ⟨rfl, rfl, rfl, rfl, rfl, rfl⟩

theorem at_map_id (l : List Nd) : Moved id l l := ⟨rfl, fun _ _ h => h, fun _ h => h, fun _ h => h, fun j h => ⟨j, h, rfl⟩, fun i _ => ⟨rfl, rfl, rfl, rfl, by rw [List.map_id]; rfl, rfl⟩⟩
theorem Moved.trans {π ρ : Int → Int} {l m o : List Nd} (h : Moved π l m) (g : Moved ρ m o) : Moved (fun i => ρ (π i)) l o := by
  refine ⟨g.len.trans h.len, fun i j e => h.inj _ _ (g.inj _ _ e), fun i hi => g.fwd _ (h.fwd i hi), fun i hi => h.bwd i (g.bwd _ hi), ?_, ?_⟩
  · intro j hj
    obtain ⟨i, hi, rfl⟩ := g.onto j hj
    obtain ⟨i', hi', rfl⟩ := h.onto i hi
    exact ⟨i', hi', rfl⟩
  · intro i hi
    obtain ⟨a1, a2, a3, a4, a5, a6⟩ := h.is i hi
    obtain ⟨b1, b2, b3, b4, b5, b6⟩ := g.is (π i) (h.fwd i hi)
    exact ⟨b1.trans a1, b2.trans a2, b3.trans a3, b4.trans a4, by rw [b5, a5, List.map_map]; rfl, b6.trans a6⟩

/-- Some nodes brought to the front, one after another; the root's place goes along. -/
inductive Shuf (l : List Nd) (r : Int) : List Nd → Int → Prop
  | start : Shuf l r l r
  | step {m : List Nd} {s : Int} {k : Nat} : Shuf l r m s → k < m.length → Shuf l r (front k m) (placeZ k s)
theorem Shuf.moved {l m : List Nd} {r s : Int} (h : Shuf l r m s) : ∃ π, Moved π l m ∧ s = π r := by
  induction h with
  | start => exact ⟨id, at_map_id l, rfl⟩
  | step _ hk ih =>
    obtain ⟨π, hm, rfl⟩ := ih
    exact ⟨_, hm.trans (front_moved hk), rfl⟩
theorem Shuf.length {l m : List Nd} {r s : Int} (h : Shuf l r m s) : m.length = l.length := by
  obtain ⟨_, hm, _⟩ := h.moved
  exact hm.len

def lineN (f : Nat → Int) : Nat → List Nd → List Nd
  | _, [] => []
  | i, n :: l => { n with line := f i } :: lineN f (i + 1) l
theorem lineN_length (f : Nat → Int) : ∀ (l : List Nd) (i : Nat), (lineN f i l).length = l.length
  | [], _ => rfl
  | _ :: l, i => by rw [lineN, List.length_cons, List.length_cons, lineN_length f l]
theorem lineN_at (f : Nat → Int) : ∀ (l : List Nd) (i j : Nat), (lineN f i l)[j]? = l[j]?.map fun n => { n with line := f (i + j) }
  | [], _, _ => by simp [lineN]
  | n :: l, i, 0 => by simp [lineN]
  | n :: l, i, j + 1 => by rw [lineN, List.getElem?_cons_succ, List.getElem?_cons_succ, lineN_at f l, show i + 1 + j = i + (j + 1) from by omega]
theorem lineN_in {f : Nat → Int} {l : List Nd} {i : Int} (h : inR l i) : at' (lineN f 0 l) i = { at' l i with line := f i.toNat } := by
  unfold at'
  have h2 : i.toNat < l.length := by unfold inR at h; omega
  rw [List.getD_eq_getElem?_getD, lineN_at, List.getD_eq_getElem?_getD, List.getElem?_eq_getElem h2, Nat.zero_add]
  rfl
theorem lineN_no (f : Nat → Int) (l : List Nd) : NoLine l (lineN f 0 l) :=
  ⟨lineN_length f l 0, fun i hi => by rw [lineN_in hi]; exact ⟨rfl, rfl, rfl, rfl, rfl⟩⟩

end Go.Proofs.Ytmddffacjkkeiaa.Nd
