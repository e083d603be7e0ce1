/-
  Layer 12: a pool with as many objects as may be.
-/
import Derived.Test.YtpfhaafaoedgpaaPlOb
namespace Go.Proofs.Ytpfhaafaoedgpaa.Pl
open Go

def bigL (n : Nat) : Ob := List.replicate n (some 0)
theorem big_len (n : Nat) : (bigL n).length = n := List.length_replicate
theorem big_get (n k : Nat) : (bigL n)[k]? = if k < n then some (some 0) else none := by unfold bigL; rw [List.getElem?_replicate]
theorem used_zero : ∀ (l : Ob), (∀ a ∈ l, a = some 0) → usedL l = 0
  | [], _ => rfl
  | a :: l, h => by
    rw [used_cons, used_zero l (fun x hx => h x (List.mem_cons_of_mem _ hx)), h a (List.mem_cons_self ..)]; rfl
theorem big_used (n : Nat) : usedL (bigL n) = 0 := used_zero _ (fun _ h => List.eq_of_mem_replicate h)
theorem cnt_all (l : Ob) (h : ∀ a ∈ l, a.isSome = true) : cntL l = l.length := by
  unfold cntL
  rw [List.filter_eq_self.2 h]
theorem big_cnt (n : Nat) : cntL (bigL n) = n := by
  rw [cnt_all _ (fun a h => by rw [List.eq_of_mem_replicate h]; rfl), big_len]
theorem cnt_less (l : Ob) (k : Nat) (h : l[k]? = some none) : cntL l < l.length := by
  unfold cntL
  rcases Nat.lt_or_ge (List.filter Option.isSome l).length l.length with h2 | h2
  · exact h2
  · exfalso
    have h3 := List.length_filter_eq_length_iff.1 (Nat.le_antisymm (List.length_filter_le ..) h2)
    have := h3 none (List.mem_of_getElem? h)
    cases this
theorem least_is (l : Ob) (k : Nat) (hk : k ≤ l.length) (hn : l[k]? = some none ∨ k = l.length) (hs : ∀ j, j < k → ∃ s, l[j]? = some (some s)) : leastL l = k := by
  rcases Nat.lt_trichotomy (leastL l) k with h | h | h
  · obtain ⟨s, h2⟩ := hs _ h
    have h3 := least_none l (by omega)
    rw [h2] at h3; injection h3 with h3; cases h3
  · exact h
  · obtain ⟨s, h2⟩ := least_some l k h
    rcases hn with h3 | h3
    · rw [h3] at h2; injection h2 with h2; cases h2
    · have := least_le l; omega
theorem big_least (n : Nat) : leastL (bigL n) = n := least_is _ _ (by rw [big_len]; exact Nat.le_refl _) (.inr (big_len n).symm) (fun j hj => ⟨0, by rw [big_get, if_pos hj]⟩)
theorem big_take (n : Nat) (B : Int) (hB : 0 ≤ B) (hn : n < 65536) : takeL B (bigL n) 0 = (bigL (n + 1), ((n + 1 : Nat) : Int), 0) := by
  unfold takeL
  rw [if_neg (by decide), big_used, big_cnt, if_neg (by omega), big_least]
  unfold putL
  rw [if_neg (by rw [big_len]; omega)]
  unfold bigL
  rw [← List.replicate_succ']
  rfl
theorem big_full (n : Nat) (B : Int) (hn : 65536 ≤ n) : takeL B (bigL n) 0 = (bigL n, 0, 5) := by
  unfold takeL
  rw [if_neg (by decide), if_pos (.inr (by rw [big_cnt]; exact hn))]
theorem big_at (n : Nat) (id : Int) (h1 : 1 ≤ id) : obAt (bigL n) id = if id ≤ n then some 0 else none := by
  unfold obAt
  rw [if_pos h1, big_get]
  by_cases h : id ≤ n
  · rw [if_pos h, if_pos (by omega)]; rfl
  · rw [if_neg h, if_neg (by omega)]; rfl

/-- Three of the places, as they may be. -/
def mkL (n : Nat) (a b c : Option Int) : Ob := (((bigL n).set 69 a).set 699 b).set 6999 c
theorem mk_len (n : Nat) (a b c : Option Int) : (mkL n a b c).length = n := by unfold mkL; rw [List.length_set, List.length_set, List.length_set, big_len]
theorem mk_get (n : Nat) (hn : 7000 ≤ n) (a b c : Option Int) (k : Nat) : (mkL n a b c)[k]? = if k = 6999 then some c else if k = 699 then some b else if k = 69 then some a else if k < n then some (some 0) else none := by
  unfold mkL
  rw [List.getElem?_set, List.getElem?_set, List.getElem?_set, big_get]
  simp only [List.length_set, big_len]
  by_cases h1 : k = 6999
  · subst h1; rw [if_pos rfl, if_pos (by omega), if_pos rfl]
  · rw [if_neg (fun e => h1 e.symm), if_neg h1]
    by_cases h2 : k = 699
    · subst h2; rw [if_pos rfl, if_pos (by omega), if_pos rfl]
    · rw [if_neg (fun e => h2 e.symm), if_neg h2]
      by_cases h3 : k = 69
      · subst h3; rw [if_pos rfl, if_pos (by omega), if_pos rfl]
      · rw [if_neg (fun e => h3 e.symm), if_neg h3]
theorem mk_big (n : Nat) (hn : 7000 ≤ n) : mkL n (some 0) (some 0) (some 0) = bigL n := by
  apply List.ext_getElem?
  intro k
  rw [mk_get n hn, big_get]
  by_cases h1 : k = 6999
  · rw [if_pos h1, if_pos (by omega)]
  · rw [if_neg h1]
    by_cases h2 : k = 699
    · rw [if_pos h2, if_pos (by omega)]
    · rw [if_neg h2]
      by_cases h3 : k = 69
      · rw [if_pos h3, if_pos (by omega)]
      · rw [if_neg h3]
theorem mk_setA (n : Nat) (a b c a' : Option Int) : (mkL n a b c).set 69 a' = mkL n a' b c := by
  unfold mkL
  rw [List.set_comm c a' (show (6999 : Nat) ≠ 69 by decide), List.set_comm b a' (show (699 : Nat) ≠ 69 by decide), List.set_set]
theorem mk_setB (n : Nat) (a b c b' : Option Int) : (mkL n a b c).set 699 b' = mkL n a b' c := by
  unfold mkL
  rw [List.set_comm c b' (show (6999 : Nat) ≠ 699 by decide), List.set_set]
theorem mk_setC (n : Nat) (a b c c' : Option Int) : (mkL n a b c).set 6999 c' = mkL n a b c' := by
  unfold mkL
  rw [List.set_set]
theorem mk_used (n : Nat) (hn : 7000 ≤ n) (a b c : Option Int) : usedL (mkL n a b c) = a.getD 0 + b.getD 0 + c.getD 0 := by
  have h1 : ((bigL n).set 69 a)[699]? = some (some 0) := by rw [List.getElem?_set, if_neg (by decide), big_get, if_pos (by omega)]
  have h2 : (((bigL n).set 69 a).set 699 b)[6999]? = some (some 0) := by rw [List.getElem?_set, if_neg (by decide), List.getElem?_set, if_neg (by decide), big_get, if_pos (by omega)]
  unfold mkL
  rw [used_set _ _ _ _ h2, used_set _ _ _ _ h1, used_set _ 69 (some 0) a (by rw [big_get, if_pos (by omega)]), big_used]
  simp only [Option.getD_some]
  omega
theorem mk_give (n : Nat) (k : Nat) (a b c : Option Int) (s : Int) (h : (mkL n a b c)[k]? = some (some s)) : giveL (mkL n a b c) ((k : Int) + 1) = ((mkL n a b c).set k none, 0) := by
  unfold giveL obAt
  rw [if_pos (by omega), show ((k : Int) + 1 - 1).toNat = k by omega, h]
  rfl
theorem mk_take (n : Nat) (hn : 7000 ≤ n ∧ n ≤ 65536) (k : Nat) (a b c : Option Int) (S B : Int) (hS : 0 ≤ S) (hB : a.getD 0 + b.getD 0 + c.getD 0 + S ≤ B) (hk : k < n) (h : (mkL n a b c)[k]? = some none) (hs : ∀ j, j < k → ∃ s, (mkL n a b c)[j]? = some (some s)) :
    takeL B (mkL n a b c) S = ((mkL n a b c).set k (some S), (k : Int) + 1, 0) := by
  have hl := least_is (mkL n a b c) k (by rw [mk_len]; omega) (.inl h) hs
  have hc := cnt_less _ _ h
  rw [mk_len] at hc
  unfold takeL
  rw [if_neg (by omega), mk_used n hn.1, if_neg (by omega), hl]
  unfold putL
  rw [if_pos (by rw [mk_len]; exact hk)]
end Go.Proofs.Ytpfhaafaoedgpaa.Pl
