/-
  Layer 13: places that die one behind the other.
-/
import Derived.Test.YtlpbciclkagnbaaTbBorder
namespace Go.Proofs.Ytlpbciclkagnbaa.Tb
open Go

def AllAlive (t : Tbl) : Prop := ∀ p ∈ t, alive p = true
theorem filter_alive {t : Tbl} (h : AllAlive t) : t.filter alive = t := List.filter_eq_self.2 h
theorem get_has {t : Tbl} {k : Vl} (h : AllAlive t) : ((getT t k).kind = 0) ↔ hasT t k = false := by
  constructor
  · intro h0
    cases hh : hasT t k with
    | false => rfl
    | true =>
      exfalso
      unfold getT at h0
      cases hf : t.find? (fun p => decide (p.1 = k)) with
      | none =>
        rw [List.find?_eq_none] at hf
        obtain ⟨p, hp, he⟩ := List.mem_map.1 ((has_iff _ _).1 hh)
        exact hf p hp (decide_eq_true he)
      | some p =>
        rw [hf] at h0
        have := h p (List.mem_of_find?_eq_some hf)
        unfold alive at this
        exact (of_decide_eq_true this) h0
  · intro hh; rw [get_none _ _ hh]; rfl
theorem set_new {t : Tbl} {k v : Vl} (h : AllAlive t) (hk : keyB k = true) (hv : valB v = true) (hv0 : v.kind ≠ 0) (hl : t.length < 65536) (hh : hasT t k = false) : setT t k v = (t ++ [(k, v)], 0) := by
  unfold setT
  rw [hk, hv, if_pos (show (true && true) = true from rfl), hh, if_neg (by decide), if_neg hv0, filter_alive h, if_neg (by omega)]
theorem set_old {t : Tbl} {k v : Vl} (hk : keyB k = true) (hv : valB v = true) (hh : hasT t k = true) : setT t k v = (putT t k v, 0) := by
  unfold setT
  rw [hk, hv, if_pos (show (true && true) = true from rfl), hh, if_pos rfl]
theorem alive_put {t : Tbl} {k v : Vl} (h : AllAlive t) (hv0 : v.kind ≠ 0) : AllAlive (putT t k v) := by
  intro p hp
  obtain ⟨q, hq, rfl⟩ := List.mem_map.1 hp
  split
  · exact decide_eq_true hv0
  · exact h q hq
theorem put_not : ∀ (t : Tbl) (k v : Vl), k ∉ t.map (·.1) → putT t k v = t
  | [], _, _, _ => rfl
  | p :: t, k, v, h => by
    show (if p.1 = k then (p.1, v) else p) :: putT t k v = _
    rw [if_neg (fun e => h (by rw [← e]; exact List.mem_cons_self ..)), put_not t k v (fun hm => h (List.mem_cons_of_mem _ hm))]
/-- The first i places are dead. -/
def deadT : Nat → Tbl → Tbl
  | 0, t => t
  | _ + 1, [] => []
  | i + 1, p :: t => (p.1, nilV) :: deadT i t
theorem dead_zero (t : Tbl) : deadT 0 t = t := by unfold deadT; rfl
theorem dead_keys : ∀ (i : Nat) (t : Tbl), (deadT i t).map (·.1) = t.map (·.1)
  | 0, t => by rw [dead_zero]
  | _ + 1, [] => rfl
  | i + 1, p :: t => by
    show p.1 :: (deadT i t).map (·.1) = p.1 :: t.map (·.1)
    rw [dead_keys i t]
theorem dead_len (i : Nat) (t : Tbl) : (deadT i t).length = t.length := by
  have := congrArg List.length (dead_keys i t)
  rwa [List.length_map, List.length_map] at this
theorem put_dead : ∀ (i : Nat) (t : Tbl) (h : i < t.length), (t.map (·.1)).Nodup → putT (deadT i t) t[i].1 nilV = deadT (i + 1) t
  | 0, p :: t, _, hn => by
    rw [dead_zero]
    show (if p.1 = p.1 then (p.1, nilV) else p) :: putT t p.1 nilV = (p.1, nilV) :: deadT 0 t
    rw [if_pos rfl, put_not t p.1 nilV (List.nodup_cons.1 hn).1, dead_zero]
  | i + 1, p :: t, h, hn => by
    have hi : i < t.length := by simpa using h
    have hne : ¬ p.1 = t[i].1 := fun e => (List.nodup_cons.1 hn).1 (by show p.1 ∈ _; rw [e]; exact List.mem_map.2 ⟨t[i], List.getElem_mem hi, rfl⟩)
    show (if p.1 = t[i].1 then (p.1, nilV) else (p.1, nilV)) :: putT (deadT i t) t[i].1 nilV = (p.1, nilV) :: deadT (i + 1) t
    rw [if_neg hne, put_dead i t hi (List.nodup_cons.1 hn).2]
theorem behind_dead : ∀ (i j : Nat) (t : Tbl) (h : i < t.length), i < j → (t.map (·.1)).Nodup → behindT (deadT j t) t[i].1 = deadT (j - (i + 1)) (t.drop (i + 1))
  | 0, j + 1, p :: t, _, _, _ => by
    show (if p.1 = p.1 then deadT j t else behindT (deadT j t) p.1) = _
    rw [if_pos rfl]
    rfl
  | i + 1, j + 1, p :: t, h, hj, hn => by
    have hi : i < t.length := by simpa using h
    have hne : ¬ p.1 = t[i].1 := fun e => (List.nodup_cons.1 hn).1 (by show p.1 ∈ _; rw [e]; exact List.mem_map.2 ⟨t[i], List.getElem_mem hi, rfl⟩)
    show (if p.1 = t[i].1 then deadT j t else behindT (deadT j t) t[i].1) = _
    rw [if_neg hne, behind_dead i j t hi (by omega) (List.nodup_cons.1 hn).2, show j + 1 - (i + 1 + 1) = j - (i + 1) by omega]
    rfl
theorem first_alive {t : Tbl} (h : AllAlive t) : firstT t = match t[0]? with | none => (nilV, nilV) | some p => p := by
  cases t with
  | nil => rfl
  | cons p t =>
    unfold firstT
    rw [List.find?_cons, h p (List.mem_cons_self ..)]; rfl
/-- The key that was come to last. -/
def lastT (i : Nat) (t : Tbl) : Vl := if h : 0 < i ∧ i - 1 < t.length then t[i - 1].1 else nilV
def hereT (i : Nat) (t : Tbl) : Vl × Vl := match t[i]? with | none => (nilV, nilV) | some p => p
theorem next_dead {t : Tbl} {i : Nat} (h : AllAlive t) (hn : (t.map (·.1)).Nodup) (hk : ∀ x ∈ t.map (·.1), x.kind ≠ 0) (hi : i ≤ t.length) : nextT (deadT i t) (lastT i t) = ((hereT i t).1, (hereT i t).2, 0) := by
  have hf : ∀ m, firstT (t.drop m) = hereT m t := fun m => by
    rw [first_alive (fun p hp => h p (List.mem_of_mem_drop hp)), List.getElem?_drop, Nat.add_zero]; rfl
  unfold nextT lastT
  by_cases h0 : 0 < i
  · have h1 : 0 < i ∧ i - 1 < t.length := ⟨h0, by omega⟩
    have hm : t[i - 1].1 ∈ t.map (·.1) := List.mem_map.2 ⟨t[i - 1], List.getElem_mem h1.2, rfl⟩
    rw [dif_pos h1, if_neg (hk _ hm), (has_iff _ _).2 (by rw [dead_keys]; exact hm), if_pos rfl, behind_dead (i - 1) i t h1.2 (by omega) hn, show i - (i - 1 + 1) = 0 by omega, dead_zero, show i - 1 + 1 = i by omega, hf]
  · obtain rfl : i = 0 := by omega
    rw [dif_neg (by omega), if_pos (show nilV.kind = 0 from rfl), dead_zero]
    have := hf 0
    rw [List.drop_zero] at this
    rw [this]
theorem count_dead : ∀ (t : Tbl), countT (deadT t.length t) = 0
  | [] => rfl
  | p :: t => by
    show countT ((p.1, nilV) :: deadT t.length t) = 0
    unfold countT
    rw [List.filter_cons, if_neg (show ¬ alive (p.1, nilV) = true from by unfold alive nilV; simp)]
    exact count_dead t
theorem get_dead : ∀ (t : Tbl) (k : Vl), (getT (deadT t.length t) k).kind = 0
  | [], k => rfl
  | p :: t, k => by
    show (getT ((p.1, nilV) :: deadT t.length t) k).kind = 0
    rw [get_cons]
    split
    · rfl
    · exact get_dead t k
end Go.Proofs.Ytlpbciclkagnbaa.Tb
