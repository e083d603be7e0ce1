/-
  Layer 13: going through the table that TableMap has filled, as plain data.
-/
import Derived.Test.YtlpbciclkagnbaaTbMapM
namespace Go.Proofs.Ytlpbciclkagnbaa.Tb
open Go

/-- The last key with a value among the first j; nil, if there is none. -/
def lastV (L : Km) : Nat → Vl
  | 0 => nilV
  | j + 1 => if h : j < L.length then (if liveK L[j] then numV (L[j].1 - 5) else lastV L j) else lastV L j
theorem behind_at : ∀ (L : Km) (j : Nat) (h : j < L.length), (L.map (·.1)).Nodup → behindT (tabOf L) (numV (L[j].1 - 5)) = tabOf (L.drop (j + 1))
  | p :: L, 0, _, _ => by
    show (if numV (p.1 - 5) = numV (p.1 - 5) then tabOf L else _) = _
    rw [if_pos rfl]; rfl
  | p :: L, j + 1, h, hn => by
    have h' : j < L.length := by simpa using h
    have hne : ¬ numV (p.1 - 5) = numV (L[j].1 - 5) := fun e => (List.nodup_cons.1 hn).1 (by
      exact List.mem_map.2 ⟨L[j], List.getElem_mem h', (num_inj.1 e).symm⟩)
    show (if numV (p.1 - 5) = numV (L[j].1 - 5) then tabOf L else behindT (tabOf L) (numV (L[j].1 - 5))) = _
    rw [if_neg hne]
    exact behind_at L j h' (List.nodup_cons.1 hn).2
theorem tab_get {L : Km} (hn : (L.map (·.1)).Nodup) (j : Nat) (h : j < L.length) : getT (tabOf L) (numV (L[j].1 - 5)) = valV L[j].2 := by
  induction L generalizing j with
  | nil => exact absurd h (Nat.not_lt_zero _)
  | cons p L ih =>
    show getT ((numV (p.1 - 5), valV p.2) :: tabOf L) _ = _
    rw [get_cons]
    match j, h with
    | 0, _ => exact if_pos rfl
    | j + 1, h =>
      have h' : j < L.length := by simpa using h
      have hne : ¬ numV (p.1 - 5) = numV (L[j].1 - 5) := fun e => (List.nodup_cons.1 hn).1 (by
        exact List.mem_map.2 ⟨L[j], List.getElem_mem h', (num_inj.1 e).symm⟩)
      show (if numV (p.1 - 5) = numV (L[j].1 - 5) then valV p.2 else _) = valV L[j].2
      rw [if_neg hne]
      exact ih (List.nodup_cons.1 hn).2 j h'
theorem first_cons (p : Int × Int) (L : Km) : firstT (tabOf (p :: L)) = if liveK p then (numV (p.1 - 5), valV p.2) else firstT (tabOf L) := by
  unfold firstT
  show (match List.find? alive ((numV (p.1 - 5), valV p.2) :: tabOf L) with | none => _ | some p => p) = _
  rw [List.find?_cons, tab_live]
  cases liveK p <;> rfl
theorem next_last {L : Km} (hn : (L.map (·.1)).Nodup) : ∀ j, j ≤ L.length → nextT (tabOf L) (lastV L j) = ((firstT (tabOf (L.drop j))).1, (firstT (tabOf (L.drop j))).2, 0)
  | 0, _ => by
    show nextT (tabOf L) nilV = _
    unfold nextT
    rw [if_pos (show nilV.kind = 0 from rfl)]; rfl
  | j + 1, h => by
    have hj : j < L.length := h
    show nextT (tabOf L) (if h : j < L.length then (if liveK L[j] then numV (L[j].1 - 5) else lastV L j) else lastV L j) = _
    rw [dif_pos hj]
    by_cases hl : liveK L[j] = true
    · rw [if_pos hl]
      unfold nextT
      rw [if_neg (show ¬ (numV (L[j].1 - 5)).kind = 0 from (show ¬ (3 : Nat) = 0 by decide)), tab_has, look_of_mem hn (List.getElem_mem hj), Option.isSome_some, if_pos rfl, behind_at L j hj hn]
    · rw [if_neg hl, next_last hn j (Nat.le_of_lt hj), List.drop_eq_getElem_cons hj, first_cons, if_neg hl]
theorem next_here {L : Km} (hn : (L.map (·.1)).Nodup) (j : Nat) (hj : j < L.length) (hl : L[j].2 ≠ 0) : nextT (tabOf L) (lastV L j) = (numV (L[j].1 - 5), numV L[j].2, 0) := by
  rw [next_last hn j (Nat.le_of_lt hj), List.drop_eq_getElem_cons hj, first_cons, if_pos (show liveK L[j] = true from decide_eq_true hl)]
  show (numV (L[j].1 - 5), valV L[j].2, (0 : Int)) = _
  unfold valV
  rw [if_neg hl]
theorem next_end {L : Km} (hn : (L.map (·.1)).Nodup) : nextT (tabOf L) (lastV L L.length) = (nilV, nilV, 0) := by
  rw [next_last hn _ (Nat.le_refl _), List.drop_length]; rfl
theorem last_live {L : Km} (j : Nat) (hj : j < L.length) (hl : L[j].2 ≠ 0) : lastV L (j + 1) = numV (L[j].1 - 5) := by
  show (if h : j < L.length then (if liveK L[j] then numV (L[j].1 - 5) else lastV L j) else lastV L j) = _
  rw [dif_pos hj, if_pos (show liveK L[j] = true from decide_eq_true hl)]
theorem last_dead {L : Km} (j : Nat) (hj : j < L.length) (hl : L[j].2 = 0) : lastV L (j + 1) = lastV L j := by
  show (if h : j < L.length then (if liveK L[j] then numV (L[j].1 - 5) else lastV L j) else lastV L j) = _
  rw [dif_pos hj, if_neg (show ¬ liveK L[j] = true from fun h => of_decide_eq_true h hl)]
theorem last_range {L : Km} (h : KmOk L) : ∀ j, ∃ k n, lastV L j = ⟨k, n⟩ ∧ k < 256 ∧ -5 ≤ n ∧ n ≤ 14
  | 0 => ⟨0, 0, rfl, by decide, by decide, by decide⟩
  | j + 1 => by
    show ∃ k n, (if h : j < L.length then (if liveK L[j] then numV (L[j].1 - 5) else lastV L j) else lastV L j) = ⟨k, n⟩ ∧ _
    by_cases hj : j < L.length
    · rw [dif_pos hj]
      by_cases hl : liveK L[j] = true
      · rw [if_pos hl]
        have := h.range _ (List.getElem_mem hj)
        exact ⟨3, L[j].1 - 5, rfl, by decide, by omega, by omega⟩
      · rw [if_neg hl]
        exact last_range h j
    · rw [dif_neg hj]
      exact last_range h j
end Go.Proofs.Ytlpbciclkagnbaa.Tb
