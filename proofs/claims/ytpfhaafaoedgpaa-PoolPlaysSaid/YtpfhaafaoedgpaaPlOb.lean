/-
  Layer 12: the objects of a pool as plain data: by number, whether there is one, and its size.
-/
import Derived.Test.YtpfhaafaoedgpaaPlMath
namespace Go.Proofs.Ytpfhaafaoedgpaa.Pl
open Go

abbrev Ob := List (Option Int)
def usedL (l : Ob) : Int := (l.map (·.getD 0)).sum
def cntL (l : Ob) : Nat := (l.filter Option.isSome).length
def leastL (l : Ob) : Nat := l.findIdx Option.isNone
def putL (l : Ob) (k : Nat) (s : Int) : Ob := if k < l.length then l.set k (some s) else l ++ [some s]
/-- The size of the object of a number. -/
def obAt (l : Ob) (id : Int) : Option Int := if 1 ≤ id then (l[(id - 1).toNat]?).join else none
def takeL (m : Int) (l : Ob) (size : Int) : Ob × Int × Int :=
  if size < 0 then (l, 0, 2) else if m < usedL l + size ∨ 65536 ≤ cntL l then (l, 0, 5) else (putL l (leastL l) size, (leastL l : Int) + 1, 0)
def giveL (l : Ob) (id : Int) : Ob × Int := match obAt l id with
  | none => (l, 2)
  | some _ => (l.set (id - 1).toNat none, 0)
def resizeL (m : Int) (l : Ob) (id size : Int) : Ob × Int := match obAt l id with
  | none => (l, 2)
  | some o => if size < 0 then (l, 2) else if m < usedL l - o + size then (l, 5) else (l.set (id - 1).toNat (some size), 0)
def sizeL (l : Ob) (id : Int) : Int × Bool := match obAt l id with
  | none => (0, false)
  | some o => (o, true)
/-- The numbers, rising, from n on. -/
def idsL : Int → Ob → List Int
  | _, [] => []
  | n, none :: l => idsL (n + 1) l
  | n, some _ :: l => n :: idsL (n + 1) l
def sizesL (l : Ob) : List Int := l.filterMap id

/-- The objects' sizes are not below 0, and together at most the bound. -/
structure ObOk (m : Int) (l : Ob) : Prop where
  pos : ∀ s, some s ∈ l → 0 ≤ s
  sum : usedL l ≤ m
  top : 0 ≤ m ∧ m ≤ 1073741824
  few : cntL l ≤ 65536

theorem used_cons (a : Option Int) (l : Ob) : usedL (a :: l) = a.getD 0 + usedL l := by unfold usedL; rw [List.map_cons, List.sum_cons]
theorem used_pos : ∀ (l : Ob), (∀ s, some s ∈ l → 0 ≤ s) → 0 ≤ usedL l
  | [], _ => by simp [usedL]
  | a :: l, h => by
    have h1 := used_pos l (fun s hs => h s (List.mem_cons_of_mem _ hs))
    have h2 : 0 ≤ a.getD 0 := by
      cases a with
      | none => exact Int.le_refl _
      | some s => exact h s (List.mem_cons_self ..)
    rw [used_cons]; omega
theorem used_set : ∀ (l : Ob) (k : Nat) (a b : Option Int), l[k]? = some a → usedL (l.set k b) = usedL l - a.getD 0 + b.getD 0
  | x :: l, 0, a, b, h => by
    have h : x = a := by simpa using h
    rw [List.set_cons_zero, used_cons, used_cons, h]; omega
  | x :: l, k + 1, a, b, h => by
    have := used_set l k a b (by simpa using h)
    rw [List.set_cons_succ, used_cons, used_cons, this]; omega
theorem used_app (l : Ob) (s : Int) : usedL (l ++ [some s]) = usedL l + s := by
  unfold usedL
  rw [List.map_append, List.sum_append]
  simp
theorem used_item (l : Ob) (h : ∀ s, some s ∈ l → 0 ≤ s) (k : Nat) (s : Int) (hk : l[k]? = some (some s)) : s ≤ usedL l := by
  have h1 := used_set l k (some s) none hk
  have h2 := used_pos (l.set k none) (fun t ht => by
    rcases List.mem_or_eq_of_mem_set ht with h3 | h3
    · exact h t h3
    · cases h3)
  simp at h1
  omega
theorem least_le (l : Ob) : leastL l ≤ l.length := List.findIdx_le_length
theorem least_none (l : Ob) (h : leastL l < l.length) : l[leastL l]? = some none := by
  have h1 : l[leastL l].isNone = true := List.findIdx_getElem (w := h)
  rw [List.getElem?_eq_getElem h]
  cases h2 : l[leastL l] with
  | none => rfl
  | some s => rw [h2] at h1; cases h1
theorem least_some (l : Ob) (k : Nat) (h : k < leastL l) : ∃ s, l[k]? = some (some s) := by
  have hk : k < l.length := Nat.lt_of_lt_of_le h (least_le l)
  have h1 : l[k].isNone = false := by
    have := List.not_of_lt_findIdx h
    simpa using this
  rw [List.getElem?_eq_getElem hk]
  cases h2 : l[k] with
  | none => rw [h2] at h1; cases h1
  | some s => exact ⟨s, rfl⟩
theorem used_put (l : Ob) (s : Int) : usedL (putL l (leastL l) s) = usedL l + s := by
  unfold putL
  by_cases h : leastL l < l.length
  · rw [if_pos h, used_set l _ none (some s) (least_none l h)]
    simp
  · rw [if_neg h, used_app]
theorem put_pos {l : Ob} {k : Nat} {s : Int} (h : ∀ t, some t ∈ l → 0 ≤ t) (hs : 0 ≤ s) : ∀ t, some t ∈ putL l k s → 0 ≤ t := by
  intro t ht
  unfold putL at ht
  split at ht
  · rcases List.mem_or_eq_of_mem_set ht with h3 | h3
    · exact h t h3
    · injection h3 with h3; omega
  · rcases List.mem_append.1 ht with h3 | h3
    · exact h t h3
    · have h3 := List.mem_singleton.1 h3
      injection h3 with h3; omega
theorem put_len (l : Ob) (k : Nat) (s : Int) : (putL l k s).length ≤ l.length + 1 := by
  unfold putL
  split
  · rw [List.length_set]; omega
  · simp
theorem set_pos {l : Ob} {k : Nat} {b : Option Int} (h : ∀ t, some t ∈ l → 0 ≤ t) (hb : ∀ t, b = some t → 0 ≤ t) : ∀ t, some t ∈ l.set k b → 0 ≤ t := by
  intro t ht
  rcases List.mem_or_eq_of_mem_set ht with h3 | h3
  · exact h t h3
  · exact hb t h3.symm
theorem cnt_le (l : Ob) : cntL l ≤ l.length := List.length_filter_le ..

/-- What the law keeps beside the pool: a size for each number, -1 where there is none. -/
def szAt (l : Ob) (k : Nat) : Int := if k = 0 then -1 else ((l[k - 1]?).join).getD (-1)
theorem sz_some {l : Ob} {k : Nat} {s : Int} (hk : 1 ≤ k) (h : obAt l k = some s) : szAt l k = s ∧ l[k - 1]? = some (some s) := by
  unfold obAt at h
  rw [if_pos (by omega), show ((k : Int) - 1).toNat = k - 1 by omega] at h
  cases h2 : l[k - 1]? with
  | none => rw [h2] at h; cases h
  | some a =>
    rw [h2] at h
    have h : a = some s := h
    unfold szAt
    rw [if_neg (by omega), h2, h]
    exact ⟨rfl, rfl⟩
theorem sz_none {l : Ob} {k : Nat} (hk : 1 ≤ k) (h : obAt l k = none) : szAt l k = -1 := by
  unfold obAt at h
  rw [if_pos (by omega), show ((k : Int) - 1).toNat = k - 1 by omega] at h
  unfold szAt
  rw [if_neg (by omega), h]
  rfl
theorem sz_set (l : Ob) (k j : Nat) (b : Option Int) (hk : 1 ≤ k) (hl : k - 1 < l.length) : szAt (l.set (k - 1) b) j = if j = k then b.getD (-1) else szAt l j := by
  unfold szAt
  by_cases h0 : j = 0
  · rw [if_pos h0, if_pos h0, if_neg (by omega)]
  · rw [if_neg h0, if_neg h0, List.getElem?_set]
    by_cases h1 : j = k
    · subst h1
      rw [if_pos rfl, if_pos rfl, if_pos hl]
      rfl
    · rw [if_neg (by omega), if_neg h1]
theorem sz_put (l : Ob) (j : Nat) (s : Int) : szAt (putL l (leastL l) s) j = if j = leastL l + 1 then s else szAt l j := by
  unfold putL
  by_cases h : leastL l < l.length
  · rw [if_pos h]
    have := sz_set l (leastL l + 1) j (some s) (by omega) (by omega)
    rw [show leastL l + 1 - 1 = leastL l by omega] at this
    rw [this]
    rfl
  · rw [if_neg h]
    have hl : leastL l = l.length := by have := least_le l; omega
    unfold szAt
    by_cases h0 : j = 0
    · rw [if_pos h0, if_pos h0, if_neg (by omega)]
    · rw [if_neg h0, if_neg h0]
      by_cases h1 : j = leastL l + 1
      · subst h1
        rw [if_pos rfl, show leastL l + 1 - 1 = l.length by omega, List.getElem?_append_right (Nat.le_refl _)]
        simp
      · rw [if_neg h1]
        by_cases h2 : j - 1 < l.length
        · rw [List.getElem?_append_left h2]
        · rw [List.getElem?_append_right (by omega), List.getElem?_eq_none (by simp; omega), List.getElem?_eq_none (by omega)]
theorem sz_pos {l : Ob} {k : Nat} (h : 1 ≤ k) (hk : k ≤ leastL l) (hp : ∀ s, some s ∈ l → 0 ≤ s) : 0 ≤ szAt l k := by
  obtain ⟨s, hs⟩ := least_some l (k - 1) (by omega)
  unfold szAt
  rw [if_neg (by omega), hs]
  exact hp s (List.mem_of_getElem? hs)
theorem sz_least (l : Ob) : szAt l (leastL l + 1) = -1 := by
  unfold szAt
  rw [if_neg (by omega), show leastL l + 1 - 1 = leastL l by omega]
  rcases Nat.lt_or_ge (leastL l) l.length with h | h
  · rw [least_none l h]; rfl
  · rw [List.getElem?_eq_none h]; rfl
/-- The list that the law keeps. -/
def szL (l : Ob) : List Int := (List.range 202).map (szAt l)
theorem szL_len (l : Ob) : (szL l).length = 202 := by unfold szL; rw [List.length_map, List.length_range]
theorem szL_get (l : Ob) (k : Nat) (h : k < (szL l).length) : (szL l)[k] = szAt l k := by
  have e : (szL l)[k]? = some (szAt l k) := by
    unfold szL
    rw [List.getElem?_map, List.getElem?_range (by rwa [szL_len] at h)]
    rfl
  rw [List.getElem?_eq_getElem h] at e
  injection e
theorem szL_set {l l' : Ob} {k : Nat} {v : Int} (h : ∀ j, szAt l' j = if j = k then v else szAt l j) : (szL l).set k v = szL l' := by
  apply List.ext_getElem
  · rw [List.length_set, szL_len, szL_len]
  · intro j h1 h2
    rw [List.getElem_set, szL_get, szL_get, h j]
    by_cases e : k = j
    · rw [if_pos e, if_pos e.symm]
    · rw [if_neg e, if_neg (fun x => e x.symm)]
theorem szL_nil : szL [] = List.replicate 202 (-1) := by
  apply List.ext_getElem
  · rw [szL_len, List.length_replicate]
  · intro j h1 h2
    rw [szL_get, List.getElem_replicate]
    unfold szAt
    split <;> rfl
end Go.Proofs.Ytpfhaafaoedgpaa.Pl
