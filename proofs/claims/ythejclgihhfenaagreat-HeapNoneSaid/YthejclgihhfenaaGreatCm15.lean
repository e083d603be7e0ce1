import Derived.Test.YthejclgihhfenaaGreatCm7
import Derived.Test.YthejclgihhfenaaGreatCm2
import Derived.Deep.QuietTactic
import Derived.BigQuiet
import Derived.Deep.LoopGhost
import Derived.WalkSmall
import Derived.Deep.CutBlock
import Derived.Deep.DeepCutAuto
import Derived.StillTailTactics
import Derived.Deep.RegionHeld3
/-
  A row of numbers that is a heap: the least stands first; sifted up, sifted down. Nothing of one layer.
-/
namespace Go.Proofs.YthejclgihhfenaaGreat.Pl
open Go

def gt (h : List Int) (i : Nat) : Int := h.getD i 0
theorem gt_get (h : List Int) (i : Nat) (hi : i < h.length) : gt h i = h[i] := by unfold gt; rw [List.getD_eq_getElem?_getD, List.getElem?_eq_getElem hi]; rfl
theorem gt_set (h : List Int) (i j : Nat) (x : Int) (hi : i < h.length) : gt (h.set i x) j = if j = i then x else gt h j := by
  unfold gt
  rw [List.getD_eq_getElem?_getD, List.getD_eq_getElem?_getD, List.getElem?_set]
  by_cases e : i = j
  · subst e; rw [if_pos rfl, if_pos hi, if_pos rfl]; rfl
  · rw [if_neg e, if_neg (fun x => e x.symm)]
theorem gt_app (h : List Int) (x : Int) (j : Nat) : gt (h ++ [x]) j = if j = h.length then x else gt h j := by
  unfold gt
  rw [List.getD_eq_getElem?_getD, List.getD_eq_getElem?_getD]
  by_cases e : j = h.length
  · subst e; rw [if_pos rfl, List.getElem?_append_right (Nat.le_refl _)]; simp
  · rw [if_neg e]
    by_cases h1 : j < h.length
    · rw [List.getElem?_append_left h1]
    · rw [List.getElem?_append_right (by omega), List.getElem?_eq_none (by simp; omega), List.getElem?_eq_none (by omega)]
theorem gt_take (h : List Int) (n j : Nat) (hj : j < n) : gt (h.take n) j = gt h j := by
  unfold gt
  rw [List.getD_eq_getElem?_getD, List.getD_eq_getElem?_getD, List.getElem?_take_of_lt hj]

def Heap (h : List Int) : Prop := ∀ i, 0 < i → i < h.length → gt h ((i - 1) / 2) ≤ gt h i
/-- A heap but for place k, which may be too small for the one above it. -/
def UpAt (h : List Int) (k : Nat) : Prop := k < h.length ∧ (∀ i, 0 < i → i < h.length → i ≠ k → gt h ((i - 1) / 2) ≤ gt h i) ∧ ∀ i, 0 < i → i < h.length → (i - 1) / 2 = k → 0 < k → gt h ((k - 1) / 2) ≤ gt h i
/-- A heap but for place k, which may be too great for those below it. -/
def DownAt (h : List Int) (k : Nat) : Prop := (∀ i, 0 < i → i < h.length → (i - 1) / 2 ≠ k → gt h ((i - 1) / 2) ≤ gt h i) ∧ ∀ i, 0 < i → i < h.length → (i - 1) / 2 = k → 0 < k → gt h ((k - 1) / 2) ≤ gt h i
def swapL (h : List Int) (i j : Nat) : List Int := (h.set i (gt h j)).set j (gt h i)
theorem swap_len (h : List Int) (i j : Nat) : (swapL h i j).length = h.length := by unfold swapL; rw [List.length_set, List.length_set]
theorem gt_swap (h : List Int) (i j k : Nat) (hi : i < h.length) (hj : j < h.length) : gt (swapL h i j) k = if k = j then gt h i else if k = i then gt h j else gt h k := by
  unfold swapL
  rw [gt_set _ _ _ _ (by rw [List.length_set]; exact hj), gt_set _ _ _ _ hi]
theorem swap_perm (h : List Int) (i j : Nat) (hi : i < h.length) (hj : j < h.length) : (swapL h i j).Perm h := by
  unfold swapL
  rw [gt_get h i hi, gt_get h j hj]
  exact List.set_set_perm hi hj

theorem heap_least {h : List Int} (hh : Heap h) : ∀ (i : Nat), i < h.length → gt h 0 ≤ gt h i := by
  intro i
  induction i using Nat.strongRecOn with
  | ind i ih =>
    intro hi
    rcases Nat.eq_zero_or_pos i with h0 | h0
    · subst h0; exact Int.le_refl _
    · exact Int.le_trans (ih ((i - 1) / 2) (by omega) (by omega)) (hh i h0 hi)
theorem heap_least_mem {h : List Int} (hh : Heap h) {x : Int} (hx : x ∈ h) : gt h 0 ≤ x := by
  obtain ⟨i, hi, rfl⟩ := List.getElem_of_mem hx
  rw [← gt_get h i hi]
  exact heap_least hh i hi
theorem heap_nil : Heap [] := fun _ _ h => absurd h (Nat.not_lt_zero _)
theorem up_end {h : List Int} {k : Nat} (hu : UpAt h k) (he : k = 0 ∨ gt h ((k - 1) / 2) ≤ gt h k) : Heap h := by
  intro i h0 hi
  by_cases e : i = k
  · subst e
    rcases he with he | he
    · omega
    · exact he
  · exact hu.2.1 i h0 hi e
theorem up_step {h : List Int} {k : Nat} (hu : UpAt h k) (h0 : 0 < k) (hl : gt h k < gt h ((k - 1) / 2)) : UpAt (swapL h k ((k - 1) / 2)) ((k - 1) / 2) := by
  obtain ⟨hk, h1, h2⟩ := hu
  have hp : (k - 1) / 2 < h.length := by omega
  have hpk : (k - 1) / 2 < k := by omega
  refine ⟨by rw [swap_len]; exact hp, fun i i0 hi hne => ?_, fun i i0 hi he hp0 => ?_⟩
  · rw [swap_len] at hi
    rw [gt_swap h k _ _ hk hp, gt_swap h k _ _ hk hp, if_neg hne]
    by_cases e1 : (i - 1) / 2 = (k - 1) / 2
    · rw [if_pos e1]
      by_cases e2 : i = k
      · rw [if_pos e2]; omega
      · rw [if_neg e2]
        have := h1 i i0 hi e2
        rw [e1] at this; omega
    · rw [if_neg e1]
      by_cases e3 : (i - 1) / 2 = k
      · rw [if_pos e3, if_neg (by omega)]
        exact h2 i i0 hi e3 h0
      · rw [if_neg e3, if_neg (by intro e; subst e; exact e1 rfl)]
        exact h1 i i0 hi (by intro e; subst e; exact e1 rfl)
  · rw [swap_len] at hi
    rw [gt_swap h k _ _ hk hp, gt_swap h k _ _ hk hp, if_neg (by omega), if_neg (by omega), if_neg (by omega)]
    have hpp := h1 ((k - 1) / 2) hp0 hp (by omega)
    by_cases e : i = k
    · rw [if_pos e]; exact hpp
    · rw [if_neg e]
      have := h1 i i0 hi e
      rw [he] at this
      omega
theorem up_new {h : List Int} (hh : Heap h) (x : Int) : UpAt (h ++ [x]) h.length := by
  have hlen : (h ++ [x]).length = h.length + 1 := by simp
  refine ⟨by omega, fun i i0 hi hne => ?_, fun i i0 hi he _ => ?_⟩
  · rw [hlen] at hi
    rw [gt_app, gt_app, if_neg (by omega), if_neg hne]
    exact hh i i0 (by omega)
  · rw [hlen] at hi; omega
theorem down_end {h : List Int} {k : Nat} (hd : DownAt h k) (he : ∀ i, 0 < i → i < h.length → (i - 1) / 2 = k → gt h k ≤ gt h i) : Heap h := by
  intro i h0 hi
  by_cases e : (i - 1) / 2 = k
  · rw [e]; exact he i h0 hi e
  · exact hd.1 i h0 hi e
theorem down_step {h : List Int} {k c : Nat} (hd : DownAt h k) (hk : k < h.length) (hc0 : 0 < c) (hc : c < h.length) (hck : (c - 1) / 2 = k) (hl : gt h c < gt h k) (hm : ∀ i, 0 < i → i < h.length → (i - 1) / 2 = k → gt h c ≤ gt h i) : DownAt (swapL h k c) c := by
  obtain ⟨h1, h2⟩ := hd
  have hkc : k < c := by omega
  refine ⟨fun i i0 hi hne => ?_, fun i i0 hi he _ => ?_⟩
  · rw [swap_len] at hi
    rw [gt_swap h k c _ hk hc, gt_swap h k c _ hk hc, if_neg hne]
    by_cases e1 : (i - 1) / 2 = k
    · rw [if_pos e1]
      by_cases e2 : i = c
      · rw [if_pos e2]; omega
      · rw [if_neg e2, if_neg (by omega)]
        exact hm i i0 hi e1
    · rw [if_neg e1, if_neg (by intro e; subst e; exact e1 hck)]
      by_cases e2 : i = k
      · subst e2
        rw [if_pos rfl]
        exact h2 c hc0 hc hck i0
      · rw [if_neg e2]
        exact h1 i i0 hi e1
  · rw [swap_len] at hi
    rw [hck, gt_swap h k c _ hk hc, gt_swap h k c _ hk hc, if_neg (by omega), if_pos rfl, if_neg (by omega), if_neg (by omega)]
    have := h1 i i0 hi (by omega)
    rw [he] at this
    exact this
/-- The last one put first, and one less: what is sifted down from the top. -/
theorem down_new {h : List Int} (hh : Heap h) (x : Int) : DownAt ((h.set 0 x).take (h.length - 1)) 0 := by
  have hlen : ((h.set 0 x).take (h.length - 1)).length = h.length - 1 := by rw [List.length_take, List.length_set]; omega
  refine ⟨fun i i0 hi hne => ?_, fun i i0 hi he h0 => absurd h0 (Nat.lt_irrefl _)⟩
  rw [hlen] at hi
  rw [gt_take _ _ _ (by omega), gt_take _ _ _ hi, gt_set _ _ _ _ (by omega), gt_set _ _ _ _ (by omega), if_neg hne, if_neg (by omega)]
  exact hh i i0 (by omega)
/-- What is in the row then: all but the first. -/
theorem pop_perm {h : List Int} (hl : 0 < h.length) : (((h.set 0 (gt h (h.length - 1))).take (h.length - 1)) ++ [gt h 0]).Perm h := by
  have e : ((h.set 0 (gt h (h.length - 1))).take (h.length - 1)) ++ [gt h 0] = swapL h 0 (h.length - 1) := by
    apply List.ext_getElem?
    intro j
    have hsz : ((h.set 0 (gt h (h.length - 1))).take (h.length - 1)).length = h.length - 1 := by rw [List.length_take, List.length_set]; omega
    unfold swapL
    by_cases hj : j < h.length - 1
    · rw [List.getElem?_append_left (by rw [hsz]; exact hj), List.getElem?_take_of_lt hj, List.getElem?_set (i := h.length - 1), if_neg (by omega)]
    · rw [List.getElem?_append_right (by rw [hsz]; omega), hsz]
      by_cases hj2 : j = h.length - 1
      · subst hj2
        rw [Nat.sub_self, List.getElem?_set, if_pos rfl, if_pos (by rw [List.length_set]; omega)]; rfl
      · rw [List.getElem?_eq_none (by simp; omega), List.getElem?_eq_none (by rw [List.length_set, List.length_set]; omega)]
  rw [e]
  exact swap_perm h 0 _ hl (by omega)
end Go.Proofs.YthejclgihhfenaaGreat.Pl

/-
  Layer 12: the free numbers of a pool as plain data; what an own heap of them tells. Nothing of the program.
-/
namespace Go.Proofs.YthejclgihhfenaaGreat.Pl
open Go

def szsL (l : Ob) : List Int := l.map (·.getD (-1))
/-- The numbers without an object, from n on. -/
def freeL : Int → Ob → List Int
  | _, [] => []
  | n, none :: l => n :: freeL (n + 1) l
  | n, some _ :: l => freeL (n + 1) l
theorem szs_len (l : Ob) : (szsL l).length = l.length := List.length_map _
theorem szs_get (l : Ob) (k : Nat) (a : Option Int) (h : l[k]? = some a) : (szsL l)[k]? = some (a.getD (-1)) := by
  unfold szsL
  rw [List.getElem?_map, h]; rfl
theorem szs_set (l : Ob) (k : Nat) (b : Option Int) : szsL (l.set k b) = (szsL l).set k (b.getD (-1)) := by
  unfold szsL
  rw [List.map_set]
theorem szs_app (l : Ob) (s : Int) : szsL (l ++ [some s]) = szsL l ++ [s] := by
  unfold szsL
  rw [List.map_append]; rfl
theorem free_len : ∀ (n : Int) (l : Ob), (freeL n l).length + cntL l = l.length
  | _, [] => rfl
  | n, none :: l => by
    have := free_len (n + 1) l
    simp only [freeL, cntL, List.filter_cons, Option.isSome_none, List.length_cons] at this ⊢
    simp only [Bool.false_eq_true, if_false]
    omega
  | n, some s :: l => by
    have := free_len (n + 1) l
    simp only [freeL, cntL, List.filter_cons, Option.isSome_some, List.length_cons] at this ⊢
    simp only [if_true, List.length_cons]
    omega
theorem free_mem : ∀ (n : Int) (l : Ob) (x : Int), x ∈ freeL n l ↔ ∃ k : Nat, l[k]? = some none ∧ x = n + k
  | n, [], x => by simp [freeL]
  | n, none :: l, x => by
    rw [freeL, List.mem_cons, free_mem (n + 1) l x]
    constructor
    · rintro (rfl | ⟨k, h, rfl⟩)
      · exact ⟨0, rfl, by simp⟩
      · exact ⟨k + 1, by simpa using h, by rw [Int.natCast_succ]; omega⟩
    · rintro ⟨k, h, rfl⟩
      match k, h with
      | 0, _ => left; simp
      | k + 1, h => right; exact ⟨k, by simpa using h, by rw [Int.natCast_succ]; omega⟩
  | n, some s :: l, x => by
    rw [freeL, free_mem (n + 1) l x]
    constructor
    · rintro ⟨k, h, rfl⟩
      exact ⟨k + 1, by simpa using h, by rw [Int.natCast_succ]; omega⟩
    · rintro ⟨k, h, rfl⟩
      match k, h with
      | 0, h => simp at h
      | k + 1, h => exact ⟨k, by simpa using h, by rw [Int.natCast_succ]; omega⟩
theorem free_take : ∀ (n : Int) (l : Ob) (k : Nat) (s : Int), l[k]? = some none → (freeL n l).Perm ((n + k) :: freeL n (l.set k (some s)))
  | n, a :: l, 0, s, h => by
    have h : a = none := by simpa using h
    subst h
    rw [List.set_cons_zero]
    simp only [freeL]
    rw [show n + ((0 : Nat) : Int) = n by simp]
  | n, none :: l, k + 1, s, h => by
    have := free_take (n + 1) l k s (by simpa using h)
    rw [List.set_cons_succ]
    simp only [freeL]
    rw [show n + ((k + 1 : Nat) : Int) = n + 1 + k by rw [Int.natCast_succ]; omega]
    exact (this.cons n).trans (List.Perm.swap ..)
  | n, some t :: l, k + 1, s, h => by
    have := free_take (n + 1) l k s (by simpa using h)
    rw [List.set_cons_succ]
    simp only [freeL]
    rw [show n + ((k + 1 : Nat) : Int) = n + 1 + k by rw [Int.natCast_succ]; omega]
    exact this
theorem free_give (n : Int) (l : Ob) (k : Nat) (s : Int) (h : l[k]? = some (some s)) : (freeL n (l.set k none)).Perm ((n + k) :: freeL n l) := by
  have hk : k < l.length := (List.getElem?_eq_some_iff.1 h).1
  have h1 := free_take n (l.set k none) k s (by rw [List.getElem?_set, if_pos rfl, if_pos hk])
  rwa [List.set_set, show l.set k (some s) = l from by
    apply List.ext_getElem?
    intro j
    rw [List.getElem?_set]
    by_cases e : k = j
    · subst e; rw [if_pos rfl, if_pos hk, h]
    · rw [if_neg e]] at h1
theorem free_same : ∀ (n : Int) (l : Ob) (k : Nat) (s t : Int), l[k]? = some (some s) → freeL n (l.set k (some t)) = freeL n l
  | n, a :: l, 0, s, t, h => by
    have h : a = some s := by simpa using h
    subst h; rfl
  | n, none :: l, k + 1, s, t, h => by
    rw [List.set_cons_succ]
    simp only [freeL]
    rw [free_same (n + 1) l k s t (by simpa using h)]
  | n, some u :: l, k + 1, s, t, h => by
    rw [List.set_cons_succ]
    simp only [freeL]
    rw [free_same (n + 1) l k s t (by simpa using h)]
theorem free_app : ∀ (n : Int) (l : Ob) (s : Int), freeL n (l ++ [some s]) = freeL n l
  | n, [], s => rfl
  | n, none :: l, s => by
    rw [List.cons_append]
    simp only [freeL]
    rw [free_app (n + 1) l s]
  | n, some u :: l, s => by
    rw [List.cons_append]
    simp only [freeL]
    rw [free_app (n + 1) l s]
/-- None free: the next number is the one behind all. -/
theorem free_none {l : Ob} (h : freeL 1 l = []) : leastL l = l.length := by
  have h1 := least_le l
  rcases Nat.lt_or_ge (leastL l) l.length with h2 | h2
  · have h3 : (1 : Int) + (leastL l : Int) ∈ freeL 1 l := (free_mem 1 l _).2 ⟨_, least_none l h2, rfl⟩
    rw [h] at h3
    exact absurd h3 (List.not_mem_nil)
  · omega
/-- Some free: the first of the heap is the least number. -/
theorem free_first {l : Ob} {fr : List Int} (hp : fr.Perm (freeL 1 l)) (hh : Heap fr) (hne : 0 < fr.length) : gt fr 0 = (leastL l : Int) + 1 ∧ leastL l < l.length := by
  have h0 : gt fr 0 ∈ fr := by rw [gt_get fr 0 hne]; exact List.getElem_mem hne
  obtain ⟨k, hk, e⟩ := (free_mem 1 l _).1 (hp.mem_iff.1 h0)
  have h1 : leastL l ≤ k := by
    rcases Nat.lt_or_ge k (leastL l) with h | h
    · obtain ⟨s, hs⟩ := least_some l k h
      rw [hs] at hk
      cases hk
    · exact h
  have h2 : leastL l < l.length := Nat.lt_of_le_of_lt h1 (List.getElem?_eq_some_iff.1 hk).1
  have h3 := heap_least_mem hh (hp.mem_iff.2 ((free_mem 1 l _).2 ⟨_, least_none l h2, rfl⟩))
  exact ⟨by omega, h2⟩
theorem free_range {l : Ob} {fr : List Int} (hp : fr.Perm (freeL 1 l)) : ∀ x ∈ fr, 1 ≤ x ∧ x ≤ l.length := by
  intro x hx
  obtain ⟨k, hk, rfl⟩ := (free_mem 1 l _).1 (hp.mem_iff.1 hx)
  have := (List.getElem?_eq_some_iff.1 hk).1
  omega
theorem cnt_set_some (l : Ob) (k : Nat) (s : Int) (h : l[k]? = some none) : cntL (l.set k (some s)) = cntL l + 1 := by
  have h1 := free_len 1 l
  have h2 := free_len 1 (l.set k (some s))
  have h3 := (free_take 1 l k s h).length_eq
  rw [List.length_cons] at h3
  rw [List.length_set] at h2
  omega
theorem cnt_set_none (l : Ob) (k : Nat) (s : Int) (h : l[k]? = some (some s)) : cntL (l.set k none) + 1 = cntL l := by
  have h1 := free_len 1 l
  have h2 := free_len 1 (l.set k none)
  have h3 := (free_give 1 l k s h).length_eq
  rw [List.length_cons] at h3
  rw [List.length_set] at h2
  omega
theorem cnt_set_same (l : Ob) (k : Nat) (s t : Int) (h : l[k]? = some (some s)) : cntL (l.set k (some t)) = cntL l := by
  have h1 := free_len 1 l
  have h2 := free_len 1 (l.set k (some t))
  have h3 := congrArg List.length (free_same 1 l k s t h)
  rw [List.length_set] at h2
  omega
theorem cnt_app (l : Ob) (s : Int) : cntL (l ++ [some s]) = cntL l + 1 := by
  have h1 := free_len 1 l
  have h2 := free_len 1 (l ++ [some s])
  have h3 := congrArg List.length (free_app 1 l s)
  rw [List.length_append, List.length_singleton] at h2
  omega
theorem cnt_put (l : Ob) (s : Int) : cntL (putL l (leastL l) s) = cntL l + 1 := by
  unfold putL
  by_cases h : leastL l < l.length
  · rw [if_pos h]; exact cnt_set_some l _ s (least_none l h)
  · rw [if_neg h]; exact cnt_app l s
theorem ok_put {m : Int} {l : Ob} {s : Int} (h : ObOk m l) (h0 : 0 ≤ s) (h1 : ¬ m < usedL l + s) (h2 : ¬ 65536 ≤ cntL l) : ObOk m (putL l (leastL l) s) :=
  ⟨put_pos h.pos h0, by rw [used_put]; omega, h.top, by rw [cnt_put]; omega⟩
theorem ok_give {m : Int} {l : Ob} {k : Nat} {s : Int} (h : ObOk m l) (hk : l[k]? = some (some s)) : ObOk m (l.set k none) := by
  have h1 := used_set l k (some s) none hk
  have h2 := h.pos s (List.mem_of_getElem? hk)
  have h3 := cnt_set_none l k s hk
  have h4 := h.sum
  have h5 := h.few
  simp at h1
  exact ⟨set_pos h.pos (fun t ht => by cases ht), by omega, h.top, by omega⟩
theorem ok_resize {m : Int} {l : Ob} {k : Nat} {s t : Int} (h : ObOk m l) (hk : l[k]? = some (some s)) (h0 : 0 ≤ t) (h1 : ¬ m < usedL l - s + t) : ObOk m (l.set k (some t)) := by
  have h2 := used_set l k (some s) (some t) hk
  have h3 := cnt_set_same l k s t hk
  have h5 := h.few
  simp at h2
  exact ⟨set_pos h.pos (fun u hu => by injection hu with hu; omega), by omega, h.top, by omega⟩
theorem ob_some {l : Ob} {id s : Int} (h : obAt l id = some s) : 1 ≤ id ∧ l[(id - 1).toNat]? = some (some s) ∧ id ≤ l.length := by
  unfold obAt at h
  split at h
  · rename_i h1
    cases h2 : l[(id - 1).toNat]? with
    | none => rw [h2] at h; cases h
    | some a =>
      rw [h2] at h
      have h : a = some s := h
      have := (List.getElem?_eq_some_iff.1 h2).1
      exact ⟨h1, by rw [h], by omega⟩
  · cases h
theorem ob_none {l : Ob} {id : Int} (h : obAt l id = none) (h1 : 1 ≤ id) (h2 : id ≤ l.length) : l[(id - 1).toNat]? = some none := by
  unfold obAt at h
  rw [if_pos h1] at h
  have h3 : (id - 1).toNat < l.length := by omega
  rw [List.getElem?_eq_getElem h3] at h ⊢
  rw [show l[(id - 1).toNat] = none from h]
end Go.Proofs.YthejclgihhfenaaGreat.Pl

/-
  Layer 12: what the calls of a pool say, whatever lies behind them; helpers of the laws.
-/
namespace Go.Proofs.YthejclgihhfenaaGreat.Pl
open Go Go.RowKit

def Fresh (F F' : List Nat) (w : World) : Prop := ∀ x ∈ F', x ∈ F ∨ w.heap.size ≤ x
/-- PA w b m l F: at block b lies a pool of bound m, with the objects l, in the blocks F. -/
abbrev PoolP := World → Nat → Int → Ob → List Nat → Prop
def NewSays (PA : PoolP) (m : Int) (w : World) (e : Ending) (w' : World) : Prop :=
  ∃ b F, e = .returned (.tuple #[.pointer (some ⟨b, 0, none⟩), .int .i64 0]) ∧ PA w' b m [] F ∧ (∀ k ∈ F, w.heap.size ≤ k) ∧ Below w.heap.size w w'
def TakeSays (PA : PoolP) (b : Nat) (m : Int) (l : Ob) (F : List Nat) (size : Int) (w : World) (e : Ending) (w' : World) : Prop :=
  e = .returned (.tuple #[.int .i64 (takeL m l size).2.1, .int .i64 (takeL m l size).2.2]) ∧ ∃ F', PA w' b m (takeL m l size).1 F' ∧ Turns F w w' ∧ Fresh F F' w
def GiveSays (PA : PoolP) (b : Nat) (m : Int) (l : Ob) (F : List Nat) (id : Int) (w : World) (e : Ending) (w' : World) : Prop :=
  e = .returned (.int .i64 (giveL l id).2) ∧ ∃ F', PA w' b m (giveL l id).1 F' ∧ Turns F w w' ∧ Fresh F F' w
def ResizeSays (PA : PoolP) (b : Nat) (m : Int) (l : Ob) (F : List Nat) (id size : Int) (w : World) (e : Ending) (w' : World) : Prop :=
  e = .returned (.int .i64 (resizeL m l id size).2) ∧ ∃ F', PA w' b m (resizeL m l id size).1 F' ∧ Turns F w w' ∧ Fresh F F' w
def IdsSays (l : Ob) (w : World) (e : Ending) (w' : World) : Prop := ∃ v, e = .returned v ∧ LstP (fun _ => True) w' v (ints (idsL 1 l)) ∧ Below w.heap.size w w'
def CopySays (PA : PoolP) (m : Int) (l : Ob) (w : World) (e : Ending) (w' : World) : Prop :=
  ∃ b F, e = .returned (.pointer (some ⟨b, 0, none⟩)) ∧ PA w' b m l F ∧ (∀ k ∈ F, w.heap.size ≤ k) ∧ Below w.heap.size w w'
def pickZ (x n : Int) : Int := if n < 1 then 0 else x % n
end Go.Proofs.YthejclgihhfenaaGreat.Pl

/-
  Layer 12: the developers' pool as it lies in memory: a struct, the sizes, the free numbers as a heap.
-/
namespace Go.Proofs.YthejclgihhfenaaGreat.Pl
open Go Go.RowKit

/-- A row of numbers of the call's own. -/
abbrev Row (w : World) (v : Value) (h : List Int) : Prop := w.ownsRow 0 3 1 v h.length (ints h)
theorem row_turns {w w' : World} {G : List Nat} {v : Value} {h : List Int} (hr : Row w v h) (ht : Turns G w w') (hn : ∀ k, v.ownBlock = some k → k ∉ G) : Row w' v h := by
  refine ⟨hr.1, ?_⟩
  rcases hr.2 with hn2 | ⟨g, cap, cur, rfl, hb, hg, rest⟩
  · exact .inl hn2
  · exact .inr ⟨g, cap, cur, rfl, hb, by rw [ht.block g (lt_of_get hg) (hn g rfl)]; exact hg, rest⟩
theorem row_below {w w' : World} {v : Value} {h : List Int} (hr : Row w v h) (hb : Below w.heap.size w w') : Row w' v h := row_turns hr (Turns.of_below (F := []) hb) (fun _ _ h => absurd h (List.not_mem_nil))
theorem row_item {w : World} {v : Value} {h : List Int} (hr : Row w v h) (i : Nat) (hi : i < h.length) : ∃ g cap, v = .slice (some ⟨g, 0, none⟩) h.length cap ∧ h.length ≤ cap ∧ cap ≤ maxLen ∧ g < w.heap.size ∧ w.cell? ⟨g, i, none⟩ = some (.int .i64 (gt h i)) ∧ w.frozen? ⟨g, i, none⟩ = false := by
  rcases hr.2 with ⟨rfl, h0⟩ | ⟨g, cap, cur, rfl, hb, hg, hc, hm, _⟩
  · omega
  · refine ⟨g, cap, rfl, hc, hm, lt_of_get hg, ?_, hr.frozenAt i⟩
    rw [hr.cellAt i (by omega), gt_get h i hi, List.getElem?_eq_getElem (by rw [ints_len]; exact hi), ints_get h i hi]
theorem row_len {w : World} {v : Value} {h : List Int} (hr : Row w v h) : ∃ ao cap, v = .slice ao h.length cap ∧ h.length ≤ cap ∧ cap ≤ maxLen := by
  rcases hr.2 with ⟨rfl, h0⟩ | ⟨g, cap, cur, rfl, hb, hg, hc, hm, _⟩
  · exact ⟨_, _, by rw [h0], by omega, by unfold maxLen; omega⟩
  · exact ⟨_, _, rfl, hc, hm⟩
theorem ints_set (h : List Int) (i : Nat) (x : Int) : (ints h).set i (.int .i64 x) = ints (h.set i x) := by unfold ints; rw [List.map_set]
theorem row_set {w : World} {g n cap : Nat} {h : List Int} (hr : Row w (.slice (some ⟨g, 0, none⟩) n cap) h) (i : Nat) (x : Int) : Row (w.setCell ⟨g, i, none⟩ (.int .i64 x)) (.slice (some ⟨g, 0, none⟩) n cap) (h.set i x) := by
  have hn : n = h.length := by
    rcases hr.2 with ⟨e, _⟩ | ⟨_, _, _, e, _⟩
    · cases e
    · injection e
  subst hn
  have := (hr.stored i (.int .i64 x)).1
  rw [ints_set] at this
  unfold Row
  rw [List.length_set]
  exact this
theorem turns_set {w w' : World} {G : List Nat} {g i : Nat} {v : Value} (h : Turns G w w') (hg : g ∈ G) : Turns G w (w'.setCell ⟨g, i, none⟩ v) :=
  ⟨h.os, h.tape, h.output, by have := h.size; simpa using this, fun k hk hn => by
    rw [← h.block k hk hn]
    exact heap_setCell_other _ _ k _ (fun e => hn ((show k = g from e) ▸ hg))⟩
theorem turns_alloc {w w' : World} {G : List Nat} {o : Obj} (h : Turns G w w') : Turns G w (w'.alloc o) :=
  h.trans (Turns.of_below (F := []) ((Below.refl _ _).alloc (Nat.le_refl _) _)) (fun _ h => absurd h (List.not_mem_nil))

/-- A pool at block b, with its sizes' row, its free numbers' row. -/
structure PAt (w : World) (b : Nat) (m : Int) (l : Ob) (vs vf : Value) (fr : List Int) : Prop where
  cells : w.heap[b]? = some (.cells #[.pointer (some ⟨b, 0, none⟩), .int .i64 m, .int .i64 (usedL l), vs, vf] 134 (0, 0))
  sizes : Row w vs (szsL l)
  free : Row w vf fr
  apart : vs.ownBlock = none ∨ vs.ownBlock ≠ vf.ownBlock
  heap : Heap fr
  perm : fr.Perm (freeL 1 l)
  ok : ObOk m l
  len : l.length ≤ 65536
def PA : PoolP := fun w b m l F => ∃ vs vf fr, PAt w b m l vs vf fr ∧ b ∈ F ∧ (∀ k, vs.ownBlock = some k → k ∈ F) ∧ (∀ k, vf.ownBlock = some k → k ∈ F) ∧ ∀ k ∈ F, k < w.heap.size
theorem row_block {w : World} {v : Value} {h : List Int} (hr : Row w v h) {k : Nat} (hk : v.ownBlock = some k) : ∃ cs, w.heap[k]? = some (.cells cs 3 (0, 0)) := by
  rcases hr.2 with ⟨rfl, _⟩ | ⟨g, cap, cur, rfl, hb, hg, _⟩
  · cases hk
  · injection hk with hk
    dsimp only at hk
    subst hk
    exact ⟨_, hg⟩
theorem row_ne {w : World} {v : Value} {h : List Int} {b : Nat} {cs : Array Value} (hr : Row w v h) (hb : w.heap[b]? = some (.cells cs 134 (0, 0))) : v.ownBlock ≠ some b := by
  intro e
  obtain ⟨cs2, h2⟩ := row_block hr e
  rw [hb] at h2
  injection h2 with h2
  injection h2 with _ h3 _
  exact absurd h3 (by decide)
section
variable {w w' : World} {b : Nat} {m : Int} {l : Ob} {vs vf : Value} {fr : List Int} {F G : List Nat}
theorem PAt.turns (h : PAt w b m l vs vf fr) (ht : Turns G w w') (h1 : b ∉ G) (h2 : ∀ k, vs.ownBlock = some k → k ∉ G) (h3 : ∀ k, vf.ownBlock = some k → k ∉ G) : PAt w' b m l vs vf fr :=
  ⟨by rw [ht.block b (lt_of_get h.cells) h1]; exact h.cells, row_turns h.sizes ht h2, row_turns h.free ht h3, h.apart, h.heap, h.perm, h.ok, h.len⟩
theorem PA.keep (h : PA w b m l F) (ht : Turns G w w') (hn : ∀ k ∈ F, k ∉ G) : PA w' b m l F := by
  obtain ⟨vs, vf, fr, hp, h1, h2, h3, h4⟩ := h
  exact ⟨vs, vf, fr, hp.turns ht (hn b h1) (fun k hk => hn k (h2 k hk)) (fun k hk => hn k (h3 k hk)), h1, h2, h3, fun k hk => Nat.lt_of_lt_of_le (h4 k hk) ht.size⟩
theorem PA.mem (h : PA w b m l F) : b ∈ F ∧ ∀ k ∈ F, k < w.heap.size := by
  obtain ⟨vs, vf, fr, hp, h1, h2, h3, h4⟩ := h
  exact ⟨h1, h4⟩
theorem PA.ok (h : PA w b m l F) : ObOk m l := by
  obtain ⟨vs, vf, fr, hp, _⟩ := h
  exact hp.ok
theorem PAt.cnt (h : PAt w b m l vs vf fr) : fr.length + cntL l = l.length := by rw [h.perm.length_eq]; exact free_len 1 l
end
end Go.Proofs.YthejclgihhfenaaGreat.Pl
