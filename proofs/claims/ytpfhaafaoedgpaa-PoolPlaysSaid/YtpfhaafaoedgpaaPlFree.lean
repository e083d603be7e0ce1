/-
  Layer 12: the free numbers of a pool as plain data; what an own heap of them tells. Nothing of the program.
-/
import Derived.Test.YtpfhaafaoedgpaaPlOb
import Derived.Test.YtpfhaafaoedgpaaPlHeap
namespace Go.Proofs.Ytpfhaafaoedgpaa.Pl
open Go

def szsL (l : Ob) : List Int := l.map (·.getD (-1))
/-- The numbers without an object, from n on. -/
def freeL : Int → Ob → List Int
  | _, [] => []
  | n, none :: l => n :: freeL (n + 1) l
  | n, some _ :: l => freeL (n + 1) l
theorem szs_len (l : Ob) : (szsL l).length = l.length := List.length_map _
theorem szs_get (l : Ob) (k : Nat) (a : Option Int) (h : l[k]? = some a) : (szsL l)[k]? = some (a.getD (-1)) := by
  unfold szsL
  rw [List.getElem?_map, h]; rfl
theorem szs_set (l : Ob) (k : Nat) (b : Option Int) : szsL (l.set k b) = (szsL l).set k (b.getD (-1)) := by
  unfold szsL
  rw [List.map_set]
theorem szs_app (l : Ob) (s : Int) : szsL (l ++ [some s]) = szsL l ++ [s] := by
  unfold szsL
  rw [List.map_append]; rfl
theorem free_len : ∀ (n : Int) (l : Ob), (freeL n l).length + cntL l = l.length
  | _, [] => rfl
  | n, none :: l => by
    have := free_len (n + 1) l
    simp only [freeL, cntL, List.filter_cons, Option.isSome_none, List.length_cons] at this ⊢
    simp only [Bool.false_eq_true, if_false]
    omega
  | n, some s :: l => by
    have := free_len (n + 1) l
    simp only [freeL, cntL, List.filter_cons, Option.isSome_some, List.length_cons] at this ⊢
    simp only [if_true, List.length_cons]
    omega
theorem free_mem : ∀ (n : Int) (l : Ob) (x : Int), x ∈ freeL n l ↔ ∃ k : Nat, l[k]? = some none ∧ x = n + k
  | n, [], x => by simp [freeL]
  | n, none :: l, x => by
    rw [freeL, List.mem_cons, free_mem (n + 1) l x]
    constructor
    · rintro (rfl | ⟨k, h, rfl⟩)
      · exact ⟨0, rfl, by simp⟩
      · exact ⟨k + 1, by simpa using h, by rw [Int.natCast_succ]; omega⟩
    · rintro ⟨k, h, rfl⟩
      match k, h with
      | 0, _ => left; simp
      | k + 1, h => right; exact ⟨k, by simpa using h, by rw [Int.natCast_succ]; omega⟩
  | n, some s :: l, x => by
    rw [freeL, free_mem (n + 1) l x]
    constructor
    · rintro ⟨k, h, rfl⟩
      exact ⟨k + 1, by simpa using h, by rw [Int.natCast_succ]; omega⟩
    · rintro ⟨k, h, rfl⟩
      match k, h with
      | 0, h => simp at h
      | k + 1, h => exact ⟨k, by simpa using h, by rw [Int.natCast_succ]; omega⟩
theorem free_take : ∀ (n : Int) (l : Ob) (k : Nat) (s : Int), l[k]? = some none → (freeL n l).Perm ((n + k) :: freeL n (l.set k (some s)))
  | n, a :: l, 0, s, h => by
    have h : a = none := by simpa using h
    subst h
    rw [List.set_cons_zero]
    simp only [freeL]
    rw [show n + ((0 : Nat) : Int) = n by simp]
  | n, none :: l, k + 1, s, h => by
    have := free_take (n + 1) l k s (by simpa using h)
    rw [List.set_cons_succ]
    simp only [freeL]
    rw [show n + ((k + 1 : Nat) : Int) = n + 1 + k by rw [Int.natCast_succ]; omega]
    exact (this.cons n).trans (List.Perm.swap ..)
  | n, some t :: l, k + 1, s, h => by
    have := free_take (n + 1) l k s (by simpa using h)
    rw [List.set_cons_succ]
    simp only [freeL]
    rw [show n + ((k + 1 : Nat) : Int) = n + 1 + k by rw [Int.natCast_succ]; omega]
    exact this
theorem free_give (n : Int) (l : Ob) (k : Nat) (s : Int) (h : l[k]? = some (some s)) : (freeL n (l.set k none)).Perm ((n + k) :: freeL n l) := by
  have hk : k < l.length := (List.getElem?_eq_some_iff.1 h).1
  have h1 := free_take n (l.set k none) k s (by rw [List.getElem?_set, if_pos rfl, if_pos hk])
  rwa [List.set_set, show l.set k (some s) = l from by
    apply List.ext_getElem?
    intro j
    rw [List.getElem?_set]
    by_cases e : k = j
    · subst e; rw [if_pos rfl, if_pos hk, h]
    · rw [if_neg e]] at h1
theorem free_same : ∀ (n : Int) (l : Ob) (k : Nat) (s t : Int), l[k]? = some (some s) → freeL n (l.set k (some t)) = freeL n l
  | n, a :: l, 0, s, t, h => by
    have h : a = some s := by simpa using h
    subst h; rfl
  | n, none :: l, k + 1, s, t, h => by
    rw [List.set_cons_succ]
    simp only [freeL]
    rw [free_same (n + 1) l k s t (by simpa using h)]
  | n, some u :: l, k + 1, s, t, h => by
    rw [List.set_cons_succ]
    simp only [freeL]
    rw [free_same (n + 1) l k s t (by simpa using h)]
theorem free_app : ∀ (n : Int) (l : Ob) (s : Int), freeL n (l ++ [some s]) = freeL n l
  | n, [], s => rfl
  | n, none :: l, s => by
    rw [List.cons_append]
    simp only [freeL]
    rw [free_app (n + 1) l s]
  | n, some u :: l, s => by
    rw [List.cons_append]
    simp only [freeL]
    rw [free_app (n + 1) l s]
/-- None free: the next number is the one behind all. -/
theorem free_none {l : Ob} (h : freeL 1 l = []) : leastL l = l.length := by
  have h1 := least_le l
  rcases Nat.lt_or_ge (leastL l) l.length with h2 | h2
  · have h3 : (1 : Int) + (leastL l : Int) ∈ freeL 1 l := (free_mem 1 l _).2 ⟨_, least_none l h2, rfl⟩
    rw [h] at h3
    exact absurd h3 (List.not_mem_nil)
  · omega
/-- Some free: the first of the heap is the least number. -/
theorem free_first {l : Ob} {fr : List Int} (hp : fr.Perm (freeL 1 l)) (hh : Heap fr) (hne : 0 < fr.length) : gt fr 0 = (leastL l : Int) + 1 ∧ leastL l < l.length := by
  have h0 : gt fr 0 ∈ fr := by rw [gt_get fr 0 hne]; exact List.getElem_mem hne
  obtain ⟨k, hk, e⟩ := (free_mem 1 l _).1 (hp.mem_iff.1 h0)
  have h1 : leastL l ≤ k := by
    rcases Nat.lt_or_ge k (leastL l) with h | h
    · obtain ⟨s, hs⟩ := least_some l k h
      rw [hs] at hk
      cases hk
    · exact h
  have h2 : leastL l < l.length := Nat.lt_of_le_of_lt h1 (List.getElem?_eq_some_iff.1 hk).1
  have h3 := heap_least_mem hh (hp.mem_iff.2 ((free_mem 1 l _).2 ⟨_, least_none l h2, rfl⟩))
  exact ⟨by omega, h2⟩
theorem free_range {l : Ob} {fr : List Int} (hp : fr.Perm (freeL 1 l)) : ∀ x ∈ fr, 1 ≤ x ∧ x ≤ l.length := by
  intro x hx
  obtain ⟨k, hk, rfl⟩ := (free_mem 1 l _).1 (hp.mem_iff.1 hx)
  have := (List.getElem?_eq_some_iff.1 hk).1
  omega
theorem cnt_set_some (l : Ob) (k : Nat) (s : Int) (h : l[k]? = some none) : cntL (l.set k (some s)) = cntL l + 1 := by
  have h1 := free_len 1 l
  have h2 := free_len 1 (l.set k (some s))
  have h3 := (free_take 1 l k s h).length_eq
  rw [List.length_cons] at h3
  rw [List.length_set] at h2
  omega
theorem cnt_set_none (l : Ob) (k : Nat) (s : Int) (h : l[k]? = some (some s)) : cntL (l.set k none) + 1 = cntL l := by
  have h1 := free_len 1 l
  have h2 := free_len 1 (l.set k none)
  have h3 := (free_give 1 l k s h).length_eq
  rw [List.length_cons] at h3
  rw [List.length_set] at h2
  omega
theorem cnt_set_same (l : Ob) (k : Nat) (s t : Int) (h : l[k]? = some (some s)) : cntL (l.set k (some t)) = cntL l := by
  have h1 := free_len 1 l
  have h2 := free_len 1 (l.set k (some t))
  have h3 := congrArg List.length (free_same 1 l k s t h)
  rw [List.length_set] at h2
  omega
theorem cnt_app (l : Ob) (s : Int) : cntL (l ++ [some s]) = cntL l + 1 := by
  have h1 := free_len 1 l
  have h2 := free_len 1 (l ++ [some s])
  have h3 := congrArg List.length (free_app 1 l s)
  rw [List.length_append, List.length_singleton] at h2
  omega
theorem cnt_put (l : Ob) (s : Int) : cntL (putL l (leastL l) s) = cntL l + 1 := by
  unfold putL
  by_cases h : leastL l < l.length
  · rw [if_pos h]; exact cnt_set_some l _ s (least_none l h)
  · rw [if_neg h]; exact cnt_app l s
theorem ok_put {m : Int} {l : Ob} {s : Int} (h : ObOk m l) (h0 : 0 ≤ s) (h1 : ¬ m < usedL l + s) (h2 : ¬ 65536 ≤ cntL l) : ObOk m (putL l (leastL l) s) :=
  ⟨put_pos h.pos h0, by rw [used_put]; omega, h.top, by rw [cnt_put]; omega⟩
theorem ok_give {m : Int} {l : Ob} {k : Nat} {s : Int} (h : ObOk m l) (hk : l[k]? = some (some s)) : ObOk m (l.set k none) := by
  have h1 := used_set l k (some s) none hk
  have h2 := h.pos s (List.mem_of_getElem? hk)
  have h3 := cnt_set_none l k s hk
  have h4 := h.sum
  have h5 := h.few
  simp at h1
  exact ⟨set_pos h.pos (fun t ht => by cases ht), by omega, h.top, by omega⟩
theorem ok_resize {m : Int} {l : Ob} {k : Nat} {s t : Int} (h : ObOk m l) (hk : l[k]? = some (some s)) (h0 : 0 ≤ t) (h1 : ¬ m < usedL l - s + t) : ObOk m (l.set k (some t)) := by
  have h2 := used_set l k (some s) (some t) hk
  have h3 := cnt_set_same l k s t hk
  have h5 := h.few
  simp at h2
  exact ⟨set_pos h.pos (fun u hu => by injection hu with hu; omega), by omega, h.top, by omega⟩
theorem ob_some {l : Ob} {id s : Int} (h : obAt l id = some s) : 1 ≤ id ∧ l[(id - 1).toNat]? = some (some s) ∧ id ≤ l.length := by
  unfold obAt at h
  split at h
  · rename_i h1
    cases h2 : l[(id - 1).toNat]? with
    | none => rw [h2] at h; cases h
    | some a =>
      rw [h2] at h
      have h : a = some s := h
      have := (List.getElem?_eq_some_iff.1 h2).1
      exact ⟨h1, by rw [h], by omega⟩
  · cases h
theorem ob_none {l : Ob} {id : Int} (h : obAt l id = none) (h1 : 1 ≤ id) (h2 : id ≤ l.length) : l[(id - 1).toNat]? = some none := by
  unfold obAt at h
  rw [if_pos h1] at h
  have h3 : (id - 1).toNat < l.length := by omega
  rw [List.getElem?_eq_getElem h3] at h ⊢
  rw [show l[(id - 1).toNat] = none from h]
end Go.Proofs.Ytpfhaafaoedgpaa.Pl
