/-
  Layer 13: what TableMap keeps beside the table, as plain data: keys with numbers, in their order.
-/
import Derived.Test.YtlpbciclkagnbaaTbOb
namespace Go.Proofs.Ytlpbciclkagnbaa.Tb
open Go

abbrev Km := List (Int × Int)
def valV (n : Int) : Vl := if n = 0 then nilV else numV n
def tabOf (L : Km) : Tbl := L.map (fun p => (numV (p.1 - 5), valV p.2))
def lookF (L : Km) (k : Int) : Option Int := (L.find? (fun p => decide (p.1 = k))).map (·.2)
def liveK (p : Int × Int) : Bool := decide (p.2 ≠ 0)
def setK (L : Km) (k n : Int) : Km := L.map (fun p => if p.1 = k then (p.1, n) else p)
def stepK (L : Km) (k n : Int) : Km := match lookF L k with
  | some _ => setK L k n
  | none => if n = 0 then L else L.filter liveK ++ [(k, n)]
structure KmOk (L : Km) : Prop where
  nod : (L.map (·.1)).Nodup
  range : ∀ p ∈ L, 0 ≤ p.1 ∧ p.1 ≤ 19

theorem num_inj {a b : Int} : numV (a - 5) = numV (b - 5) ↔ a = b := by
  constructor
  · intro h
    have h : a - 5 = b - 5 := congrArg Vl.n h
    omega
  · rintro rfl; rfl
theorem val_kind (n : Int) : (valV n).kind = 0 ↔ n = 0 := by
  unfold valV
  by_cases h : n = 0
  · rw [if_pos h]; exact ⟨fun _ => h, fun _ => rfl⟩
  · rw [if_neg h]; exact ⟨fun e => absurd e (show (3 : Nat) ≠ 0 by decide), fun e => absurd e h⟩
theorem val_ok (n : Int) : valB (valV n) = true := by
  unfold valV
  split <;> rfl
theorem key_ok (k : Int) : keyB (numV k) = true := rfl
theorem look_mem {L : Km} {k n : Int} (h : lookF L k = some n) : (k, n) ∈ L := by
  unfold lookF at h
  cases hf : L.find? (fun p => decide (p.1 = k)) with
  | none => rw [hf] at h; cases h
  | some p =>
    rw [hf] at h
    have h1 := List.mem_of_find?_eq_some hf
    have h2 : decide (p.1 = k) = true := List.find?_some (p := fun (p : Int × Int) => decide (p.1 = k)) hf
    have h2 := of_decide_eq_true h2
    have h : p.2 = n := by simpa using h
    rw [← h2, ← h]
    exact h1
theorem look_cons (p : Int × Int) (L : Km) (k : Int) : lookF (p :: L) k = if p.1 = k then some p.2 else lookF L k := by
  unfold lookF
  rw [List.find?_cons]
  by_cases h : p.1 = k
  · rw [if_pos h, decide_eq_true h]; rfl
  · rw [if_neg h, decide_eq_false h]
theorem look_none {L : Km} {k : Int} (h : lookF L k = none) : ∀ p ∈ L, p.1 ≠ k := by
  induction L with
  | nil => intro p hp; cases hp
  | cons q L ih =>
    rw [look_cons] at h
    by_cases e : q.1 = k
    · rw [if_pos e] at h; cases h
    · rw [if_neg e] at h
      intro p hp
      rcases List.mem_cons.1 hp with rfl | hp
      · exact e
      · exact ih h p hp
theorem look_of_mem {L : Km} (hn : (L.map (·.1)).Nodup) {p : Int × Int} (hp : p ∈ L) : lookF L p.1 = some p.2 := by
  induction L with
  | nil => cases hp
  | cons q L ih =>
    rw [look_cons]
    rcases List.mem_cons.1 hp with rfl | hp
    · rw [if_pos rfl]
    · have h1 := (List.nodup_cons.1 hn).1
      by_cases e : q.1 = p.1
      · exact absurd (List.mem_map.2 ⟨p, hp, e.symm⟩) h1
      · rw [if_neg e]; exact ih (List.nodup_cons.1 hn).2 hp
theorem look_of_none {L : Km} {k : Int} (h : ∀ p ∈ L, p.1 ≠ k) : lookF L k = none := by
  cases e : lookF L k with
  | none => rfl
  | some n => exact absurd rfl (h _ (look_mem e))
theorem tab_has (L : Km) (k : Int) : hasT (tabOf L) (numV (k - 5)) = (lookF L k).isSome := by
  cases h : lookF L k with
  | some n =>
    rw [Option.isSome_some]
    exact (has_iff _ _).2 (List.mem_map.2 ⟨_, List.mem_map.2 ⟨_, look_mem h, rfl⟩, rfl⟩)
  | none =>
    rw [Option.isSome_none]
    cases e : hasT (tabOf L) (numV (k - 5)) with
    | false => rfl
    | true =>
      obtain ⟨q, hq, he⟩ := List.mem_map.1 ((has_iff _ _).1 e)
      obtain ⟨p, hp, rfl⟩ := List.mem_map.1 hq
      exact absurd (num_inj.1 he) (look_none h p hp)
theorem tab_put (L : Km) (k n : Int) : putT (tabOf L) (numV (k - 5)) (valV n) = tabOf (setK L k n) := by
  unfold putT tabOf setK
  rw [List.map_map, List.map_map]
  apply List.map_congr_left
  intro p _
  show (if numV (p.1 - 5) = numV (k - 5) then _ else _) = _
  by_cases h : p.1 = k
  · rw [if_pos (num_inj.2 h)]
    show _ = (numV ((if p.1 = k then (p.1, n) else p).1 - 5), valV (if p.1 = k then (p.1, n) else p).2)
    rw [if_pos h]
  · rw [if_neg (fun e => h (num_inj.1 e))]
    show _ = (numV ((if p.1 = k then (p.1, n) else p).1 - 5), valV (if p.1 = k then (p.1, n) else p).2)
    rw [if_neg h]
theorem tab_live (p : Int × Int) : alive (numV (p.1 - 5), valV p.2) = liveK p := by
  show decide ((valV p.2).kind ≠ 0) = decide (p.2 ≠ 0)
  exact decide_eq_decide.2 (not_congr (val_kind _))
theorem tab_filter (L : Km) : (tabOf L).filter alive = tabOf (L.filter liveK) := by
  unfold tabOf
  rw [List.filter_map]
  congr 1
  apply List.filter_congr
  intro p _
  exact tab_live p
theorem tab_set (L : Km) (k n : Int) (hl : L.length < 65536) : setT (tabOf L) (numV (k - 5)) (valV n) = (tabOf (stepK L k n), 0) := by
  unfold setT
  rw [key_ok, val_ok, Bool.and_self, if_pos rfl, tab_has]
  unfold stepK
  cases h : lookF L k with
  | some o =>
    rw [Option.isSome_some, if_pos rfl, tab_put]
  | none =>
    rw [Option.isSome_none, if_neg (by decide)]
    by_cases hn : n = 0
    · rw [if_pos ((val_kind _).2 hn)]
      dsimp only
      rw [if_pos hn]
    · rw [if_neg (fun e => hn ((val_kind _).1 e)), tab_filter, if_neg (by
        have h1 : (tabOf (L.filter liveK)).length = (L.filter liveK).length := List.length_map _
        have h2 : (L.filter liveK).length ≤ L.length := List.length_filter_le ..
        omega)]
      dsimp only
      rw [if_neg hn]
      unfold tabOf
      rw [List.map_append]
      rfl
theorem kset_keys (L : Km) (k n : Int) : (setK L k n).map (·.1) = L.map (·.1) := by
  unfold setK
  rw [List.map_map]
  apply List.map_congr_left
  intro p _
  show (if p.1 = k then (p.1, n) else p).1 = p.1
  split <;> rfl
theorem look_set (L : Km) (k n k' : Int) : lookF (setK L k n) k' = if k' = k ∧ (lookF L k).isSome = true then some n else lookF L k' := by
  induction L with
  | nil =>
    rw [if_neg (fun h => by cases h.2)]; rfl
  | cons p L ih =>
    show lookF ((if p.1 = k then (p.1, n) else p) :: setK L k n) k' = _
    rw [look_cons, look_cons, look_cons, ih]
    by_cases h1 : p.1 = k
    · rw [if_pos h1, if_pos h1]
      show (if p.1 = k' then some n else _) = _
      by_cases h2 : p.1 = k'
      · rw [if_pos h2, if_pos ⟨by rw [← h2, h1], rfl⟩]
      · rw [if_neg h2, if_neg h2, if_neg (fun h => h2 (by rw [h1, h.1])), if_neg (fun h => h2 (by rw [h1, h.1]))]
    · rw [if_neg h1, if_neg h1]
      by_cases h2 : p.1 = k'
      · rw [if_pos h2, if_pos h2, if_neg (fun h => h1 (by rw [h2, h.1]))]
      · rw [if_neg h2, if_neg h2]
theorem look_app (L : Km) (k n k' : Int) : lookF (L ++ [(k, n)]) k' = match lookF L k' with
  | some x => some x
  | none => if k = k' then some n else none := by
  induction L with
  | nil =>
    show lookF [(k, n)] k' = _
    rw [look_cons]; rfl
  | cons p L ih =>
    rw [List.cons_append, look_cons, look_cons, ih]
    by_cases h : p.1 = k'
    · rw [if_pos h, if_pos h]
    · rw [if_neg h, if_neg h]
theorem look_filter {L : Km} (hn : (L.map (·.1)).Nodup) (k : Int) : lookF (L.filter liveK) k = match lookF L k with
  | some n => if n = 0 then none else some n
  | none => none := by
  cases h : lookF L k with
  | none => exact look_of_none (fun p hp => look_none h p (List.mem_filter.1 hp).1)
  | some n =>
    dsimp only
    have hm := look_mem h
    have hn2 : ((L.filter liveK).map (·.1)).Nodup := List.Sublist.nodup (List.Sublist.map _ (List.filter_sublist)) hn
    by_cases h0 : n = 0
    · rw [if_pos h0]
      refine look_of_none (fun p hp e => ?_)
      have hp' := List.mem_filter.1 hp
      have h1 := look_of_mem hn hp'.1
      rw [e, h] at h1
      injection h1 with h1
      have h2 := hp'.2
      unfold liveK at h2
      exact of_decide_eq_true h2 (by rw [← h1]; exact h0)
    · rw [if_neg h0]
      exact look_of_mem hn2 (p := (k, n)) (List.mem_filter.2 ⟨hm, decide_eq_true h0⟩)
theorem step_ok {L : Km} (h : KmOk L) {k : Int} (n : Int) (h0 : 0 ≤ k) (h1 : k ≤ 19) : KmOk (stepK L k n) := by
  unfold stepK
  cases hk : lookF L k with
  | some o =>
    refine ⟨by rw [kset_keys]; exact h.nod, fun p hp => ?_⟩
    obtain ⟨q, hq, rfl⟩ := List.mem_map.1 hp
    show 0 ≤ (if q.1 = k then (q.1, n) else q).1 ∧ _
    have := h.range q hq
    split
    · exact this
    · exact this
  | none =>
    dsimp only
    split
    · exact h
    · refine ⟨?_, fun p hp => ?_⟩
      · rw [List.map_append]
        refine List.nodup_append.2 ⟨List.Sublist.nodup (List.Sublist.map _ (List.filter_sublist)) h.nod, by simp, fun x hx y hy e => ?_⟩
        obtain ⟨p, hp, rfl⟩ := List.mem_map.1 hx
        have hy : y = k := List.mem_singleton.1 hy
        exact look_none hk p (List.mem_filter.1 hp).1 (e.trans hy)
      · rcases List.mem_append.1 hp with hp | hp
        · exact h.range p (List.mem_filter.1 hp).1
        · rw [List.mem_singleton.1 hp]; exact ⟨h0, h1⟩
theorem ok_len {L : Km} (h : KmOk L) : L.length ≤ 20 := by
  have h1 : (L.map (fun p => p.1.toNat)).Nodup := List.pairwise_map.2 ((List.pairwise_map.1 h.nod).imp_of_mem (fun hp hq hne => by
    have := h.range _ hp
    have := h.range _ hq
    omega))
  have h2 : (L.map (fun p => p.1.toNat)) ⊆ List.range 20 := fun x hx => by
    obtain ⟨p, hp, rfl⟩ := List.mem_map.1 hx
    have := h.range p hp
    rw [List.mem_range]; omega
  have h3 := List.Nodup.length_le_of_subset h1 h2
  rw [List.length_map, List.length_range] at h3
  exact h3
/-- The map in the midst of the going through: who has no value among the first j is gone. -/
def cutF (L : Km) (j : Nat) (k : Int) : Option Int := match lookF L k with
  | some n => if n = 0 ∧ k ∈ (L.take j).map (·.1) then none else some n
  | none => none
theorem cut_zero (L : Km) (k : Int) : cutF L 0 k = lookF L k := by
  unfold cutF
  cases lookF L k with
  | none => rfl
  | some n =>
    dsimp only
    rw [if_neg (fun h => by cases h.2)]
theorem cut_all {L : Km} (hn : (L.map (·.1)).Nodup) (k : Int) : cutF L L.length k = lookF (L.filter liveK) k := by
  rw [look_filter hn]
  unfold cutF
  rw [List.take_length]
  cases h : lookF L k with
  | none => rfl
  | some n =>
    dsimp only
    have hm : k ∈ L.map (·.1) := List.mem_map.2 ⟨_, look_mem h, rfl⟩
    by_cases h0 : n = 0
    · rw [if_pos ⟨h0, hm⟩, if_pos h0]
    · rw [if_neg (fun h => h0 h.1), if_neg h0]
theorem ktake_keys (L : Km) (j : Nat) (h : j < L.length) : (L.take (j + 1)).map (·.1) = (L.take j).map (·.1) ++ [L[j].1] := by
  rw [List.take_succ_eq_append_getElem h, List.map_append]; rfl
theorem not_before {L : Km} (hn : (L.map (·.1)).Nodup) (j : Nat) (h : j < L.length) : L[j].1 ∉ (L.take j).map (·.1) := by
  have e : L.map (·.1) = (L.take j).map (·.1) ++ (L.drop j).map (·.1) := by rw [← List.map_append, List.take_append_drop]
  rw [e] at hn
  intro hm
  refine (List.nodup_append.1 hn).2.2 _ hm L[j].1 ?_ rfl
  rw [List.drop_eq_getElem_cons h]
  exact List.mem_cons_self ..
theorem cut_here {L : Km} (hn : (L.map (·.1)).Nodup) (j : Nat) (h : j < L.length) : cutF L j L[j].1 = some L[j].2 := by
  unfold cutF
  rw [look_of_mem hn (List.getElem_mem h)]
  dsimp only
  rw [if_neg (fun x => not_before hn j h x.2)]
theorem cut_keep {L : Km} (hn : (L.map (·.1)).Nodup) (j : Nat) (h : j < L.length) (h0 : L[j].2 ≠ 0) (k : Int) : cutF L (j + 1) k = cutF L j k := by
  unfold cutF
  rw [ktake_keys L j h]
  cases e : lookF L k with
  | none => rfl
  | some n =>
    dsimp only
    by_cases hk : k = L[j].1
    · have : n ≠ 0 := by
        rw [hk, look_of_mem hn (List.getElem_mem h)] at e
        injection e with e
        rw [← e]; exact h0
      rw [if_neg (fun x => this x.1), if_neg (fun x => this x.1)]
    · have : (k ∈ (L.take j).map (·.1) ++ [L[j].1]) ↔ k ∈ (L.take j).map (·.1) := by
        rw [List.mem_append, List.mem_singleton]
        exact ⟨fun x => x.elim id (fun y => absurd y hk), .inl⟩
      simp only [this]
theorem cut_drop {L : Km} (hn : (L.map (·.1)).Nodup) (j : Nat) (h : j < L.length) (h0 : L[j].2 = 0) (k : Int) : cutF L (j + 1) k = if k = L[j].1 then none else cutF L j k := by
  unfold cutF
  rw [ktake_keys L j h]
  by_cases hk : k = L[j].1
  · rw [if_pos hk, hk, look_of_mem hn (List.getElem_mem h)]
    dsimp only
    rw [if_pos ⟨h0, List.mem_append_right _ (List.mem_singleton.2 rfl)⟩]
  · rw [if_neg hk]
    cases e : lookF L k with
    | none => rfl
    | some n =>
      dsimp only
      have : (k ∈ (L.take j).map (·.1) ++ [L[j].1]) ↔ k ∈ (L.take j).map (·.1) := by
        rw [List.mem_append, List.mem_singleton]
        exact ⟨fun x => x.elim id (fun y => absurd y hk), .inl⟩
      simp only [this]
end Go.Proofs.Ytlpbciclkagnbaa.Tb
