/-
  A row of numbers that is a heap: the least stands first; sifted up, sifted down. Nothing of one layer.
-/
import Derived.Test.YtpfhaafaoedgpaaPlMem
namespace Go.Proofs.Ytpfhaafaoedgpaa.Pl
open Go

def gt (h : List Int) (i : Nat) : Int := h.getD i 0
theorem gt_get (h : List Int) (i : Nat) (hi : i < h.length) : gt h i = h[i] := by unfold gt; rw [List.getD_eq_getElem?_getD, List.getElem?_eq_getElem hi]; rfl
theorem gt_set (h : List Int) (i j : Nat) (x : Int) (hi : i < h.length) : gt (h.set i x) j = if j = i then x else gt h j := by
  unfold gt
  rw [List.getD_eq_getElem?_getD, List.getD_eq_getElem?_getD, List.getElem?_set]
  by_cases e : i = j
  · subst e; rw [if_pos rfl, if_pos hi, if_pos rfl]; rfl
  · rw [if_neg e, if_neg (fun x => e x.symm)]
theorem gt_app (h : List Int) (x : Int) (j : Nat) : gt (h ++ [x]) j = if j = h.length then x else gt h j := by
  unfold gt
  rw [List.getD_eq_getElem?_getD, List.getD_eq_getElem?_getD]
  by_cases e : j = h.length
  · subst e; rw [if_pos rfl, List.getElem?_append_right (Nat.le_refl _)]; simp
  · rw [if_neg e]
    by_cases h1 : j < h.length
    · rw [List.getElem?_append_left h1]
    · rw [List.getElem?_append_right (by omega), List.getElem?_eq_none (by simp; omega), List.getElem?_eq_none (by omega)]
theorem gt_take (h : List Int) (n j : Nat) (hj : j < n) : gt (h.take n) j = gt h j := by
  unfold gt
  rw [List.getD_eq_getElem?_getD, List.getD_eq_getElem?_getD, List.getElem?_take_of_lt hj]

def Heap (h : List Int) : Prop := ∀ i, 0 < i → i < h.length → gt h ((i - 1) / 2) ≤ gt h i
/-- A heap but for place k, which may be too small for the one above it. -/
def UpAt (h : List Int) (k : Nat) : Prop := k < h.length ∧ (∀ i, 0 < i → i < h.length → i ≠ k → gt h ((i - 1) / 2) ≤ gt h i) ∧ ∀ i, 0 < i → i < h.length → (i - 1) / 2 = k → 0 < k → gt h ((k - 1) / 2) ≤ gt h i
/-- A heap but for place k, which may be too great for those below it. -/
def DownAt (h : List Int) (k : Nat) : Prop := (∀ i, 0 < i → i < h.length → (i - 1) / 2 ≠ k → gt h ((i - 1) / 2) ≤ gt h i) ∧ ∀ i, 0 < i → i < h.length → (i - 1) / 2 = k → 0 < k → gt h ((k - 1) / 2) ≤ gt h i
def swapL (h : List Int) (i j : Nat) : List Int := (h.set i (gt h j)).set j (gt h i)
theorem swap_len (h : List Int) (i j : Nat) : (swapL h i j).length = h.length := by unfold swapL; rw [List.length_set, List.length_set]
theorem gt_swap (h : List Int) (i j k : Nat) (hi : i < h.length) (hj : j < h.length) : gt (swapL h i j) k = if k = j then gt h i else if k = i then gt h j else gt h k := by
  unfold swapL
  rw [gt_set _ _ _ _ (by rw [List.length_set]; exact hj), gt_set _ _ _ _ hi]
theorem swap_perm (h : List Int) (i j : Nat) (hi : i < h.length) (hj : j < h.length) : (swapL h i j).Perm h := by
  unfold swapL
  rw [gt_get h i hi, gt_get h j hj]
  exact List.set_set_perm hi hj

theorem heap_least {h : List Int} (hh : Heap h) : ∀ (i : Nat), i < h.length → gt h 0 ≤ gt h i := by
  intro i
  induction i using Nat.strongRecOn with
  | ind i ih =>
    intro hi
    rcases Nat.eq_zero_or_pos i with h0 | h0
    · subst h0; exact Int.le_refl _
    · exact Int.le_trans (ih ((i - 1) / 2) (by omega) (by omega)) (hh i h0 hi)
theorem heap_least_mem {h : List Int} (hh : Heap h) {x : Int} (hx : x ∈ h) : gt h 0 ≤ x := by
  obtain ⟨i, hi, rfl⟩ := List.getElem_of_mem hx
  rw [← gt_get h i hi]
  exact heap_least hh i hi
theorem heap_nil : Heap [] := fun _ _ h => absurd h (Nat.not_lt_zero _)
theorem up_end {h : List Int} {k : Nat} (hu : UpAt h k) (he : k = 0 ∨ gt h ((k - 1) / 2) ≤ gt h k) : Heap h := by
  intro i h0 hi
  by_cases e : i = k
  · subst e
    rcases he with he | he
    · omega
    · exact he
  · exact hu.2.1 i h0 hi e
theorem up_step {h : List Int} {k : Nat} (hu : UpAt h k) (h0 : 0 < k) (hl : gt h k < gt h ((k - 1) / 2)) : UpAt (swapL h k ((k - 1) / 2)) ((k - 1) / 2) := by
  obtain ⟨hk, h1, h2⟩ := hu
  have hp : (k - 1) / 2 < h.length := by omega
  have hpk : (k - 1) / 2 < k := by omega
  refine ⟨by rw [swap_len]; exact hp, fun i i0 hi hne => ?_, fun i i0 hi he hp0 => ?_⟩
  · rw [swap_len] at hi
    rw [gt_swap h k _ _ hk hp, gt_swap h k _ _ hk hp, if_neg hne]
    by_cases e1 : (i - 1) / 2 = (k - 1) / 2
    · rw [if_pos e1]
      by_cases e2 : i = k
      · rw [if_pos e2]; omega
      · rw [if_neg e2]
        have := h1 i i0 hi e2
        rw [e1] at this; omega
    · rw [if_neg e1]
      by_cases e3 : (i - 1) / 2 = k
      · rw [if_pos e3, if_neg (by omega)]
        exact h2 i i0 hi e3 h0
      · rw [if_neg e3, if_neg (by intro e; subst e; exact e1 rfl)]
        exact h1 i i0 hi (by intro e; subst e; exact e1 rfl)
  · rw [swap_len] at hi
    rw [gt_swap h k _ _ hk hp, gt_swap h k _ _ hk hp, if_neg (by omega), if_neg (by omega), if_neg (by omega)]
    have hpp := h1 ((k - 1) / 2) hp0 hp (by omega)
    by_cases e : i = k
    · rw [if_pos e]; exact hpp
    · rw [if_neg e]
      have := h1 i i0 hi e
      rw [he] at this
      omega
theorem up_new {h : List Int} (hh : Heap h) (x : Int) : UpAt (h ++ [x]) h.length := by
  have hlen : (h ++ [x]).length = h.length + 1 := by simp
  refine ⟨by omega, fun i i0 hi hne => ?_, fun i i0 hi he _ => ?_⟩
  · rw [hlen] at hi
    rw [gt_app, gt_app, if_neg (by omega), if_neg hne]
    exact hh i i0 (by omega)
  · rw [hlen] at hi; omega
theorem down_end {h : List Int} {k : Nat} (hd : DownAt h k) (he : ∀ i, 0 < i → i < h.length → (i - 1) / 2 = k → gt h k ≤ gt h i) : Heap h := by
  intro i h0 hi
  by_cases e : (i - 1) / 2 = k
  · rw [e]; exact he i h0 hi e
  · exact hd.1 i h0 hi e
theorem down_step {h : List Int} {k c : Nat} (hd : DownAt h k) (hk : k < h.length) (hc0 : 0 < c) (hc : c < h.length) (hck : (c - 1) / 2 = k) (hl : gt h c < gt h k) (hm : ∀ i, 0 < i → i < h.length → (i - 1) / 2 = k → gt h c ≤ gt h i) : DownAt (swapL h k c) c := by
  obtain ⟨h1, h2⟩ := hd
  have hkc : k < c := by omega
  refine ⟨fun i i0 hi hne => ?_, fun i i0 hi he _ => ?_⟩
  · rw [swap_len] at hi
    rw [gt_swap h k c _ hk hc, gt_swap h k c _ hk hc, if_neg hne]
    by_cases e1 : (i - 1) / 2 = k
    · rw [if_pos e1]
      by_cases e2 : i = c
      · rw [if_pos e2]; omega
      · rw [if_neg e2, if_neg (by omega)]
        exact hm i i0 hi e1
    · rw [if_neg e1, if_neg (by intro e; subst e; exact e1 hck)]
      by_cases e2 : i = k
      · subst e2
        rw [if_pos rfl]
        exact h2 c hc0 hc hck i0
      · rw [if_neg e2]
        exact h1 i i0 hi e1
  · rw [swap_len] at hi
    rw [hck, gt_swap h k c _ hk hc, gt_swap h k c _ hk hc, if_neg (by omega), if_pos rfl, if_neg (by omega), if_neg (by omega)]
    have := h1 i i0 hi (by omega)
    rw [he] at this
    exact this
/-- The last one put first, and one less: what is sifted down from the top. -/
theorem down_new {h : List Int} (hh : Heap h) (x : Int) : DownAt ((h.set 0 x).take (h.length - 1)) 0 := by
  have hlen : ((h.set 0 x).take (h.length - 1)).length = h.length - 1 := by rw [List.length_take, List.length_set]; omega
  refine ⟨fun i i0 hi hne => ?_, fun i i0 hi he h0 => absurd h0 (Nat.lt_irrefl _)⟩
  rw [hlen] at hi
  rw [gt_take _ _ _ (by omega), gt_take _ _ _ hi, gt_set _ _ _ _ (by omega), gt_set _ _ _ _ (by omega), if_neg hne, if_neg (by omega)]
  exact hh i i0 (by omega)
/-- What is in the row then: all but the first. -/
theorem pop_perm {h : List Int} (hl : 0 < h.length) : (((h.set 0 (gt h (h.length - 1))).take (h.length - 1)) ++ [gt h 0]).Perm h := by
  have e : ((h.set 0 (gt h (h.length - 1))).take (h.length - 1)) ++ [gt h 0] = swapL h 0 (h.length - 1) := by
    apply List.ext_getElem?
    intro j
    have hsz : ((h.set 0 (gt h (h.length - 1))).take (h.length - 1)).length = h.length - 1 := by rw [List.length_take, List.length_set]; omega
    unfold swapL
    by_cases hj : j < h.length - 1
    · rw [List.getElem?_append_left (by rw [hsz]; exact hj), List.getElem?_take_of_lt hj, List.getElem?_set (i := h.length - 1), if_neg (by omega)]
    · rw [List.getElem?_append_right (by rw [hsz]; omega), hsz]
      by_cases hj2 : j = h.length - 1
      · subst hj2
        rw [Nat.sub_self, List.getElem?_set, if_pos rfl, if_pos (by rw [List.length_set]; omega)]; rfl
      · rw [List.getElem?_eq_none (by simp; omega), List.getElem?_eq_none (by rw [List.length_set, List.length_set]; omega)]
  rw [e]
  exact swap_perm h 0 _ hl (by omega)
end Go.Proofs.Ytpfhaafaoedgpaa.Pl
