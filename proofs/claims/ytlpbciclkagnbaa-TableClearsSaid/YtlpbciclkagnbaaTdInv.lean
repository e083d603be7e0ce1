/-
  Layer 13: what holds of the places' list beside what lies in memory: how many live, how long, who is noted. Nothing of the program.
-/
import Derived.Test.YtlpbciclkagnbaaTdNote
namespace Go.Proofs.Ytlpbciclkagnbaa.Td
open Go Go.RowKit Go.Proofs.Ytlpbciclkagnbaa.Pl Go.Proofs.Ytlpbciclkagnbaa.Tb

theorem put_not' : ∀ (t : Tbl) (k v : Vl), k ∉ t.map (·.1) → putT t k v = t
  | [], _, _, _ => rfl
  | p :: t, k, v, h => by
    show (if p.1 = k then (p.1, v) else p) :: putT t k v = _
    rw [if_neg (fun e => h (by rw [← e]; exact List.mem_cons_self ..)), put_not' t k v (fun hm => h (List.mem_cons_of_mem _ hm))]
theorem at_other {l : List Plc} {g : Nat} {f : Plc → Plc} (h : ∀ q ∈ l, q.b ≠ g) : atP l g f = l := by
  induction l with
  | nil => rfl
  | cons q l ih =>
    show (if q.b = g then f q else q) :: atP l g f = q :: l
    rw [if_neg (h q (List.mem_cons_self ..)), ih (fun r hr => h r (List.mem_cons_of_mem _ hr))]
theorem at_split {l1 l2 : List Plc} {p : Plc} (hnd : ((l1 ++ p :: l2).map (·.b)).Nodup) (f : Plc → Plc) : atP (l1 ++ p :: l2) p.b f = l1 ++ f p :: l2 := by
  rw [List.map_append, List.map_cons, List.nodup_append, List.nodup_cons] at hnd
  obtain ⟨_, ⟨h2, _⟩, h4⟩ := hnd
  have e1 : atP l1 p.b f = l1 := at_other (fun q hq e => h4 q.b (List.mem_map.2 ⟨q, hq, rfl⟩) p.b (List.mem_cons_self ..) e)
  have e2 : atP l2 p.b f = l2 := at_other (fun q hq e => h2 (by rw [← e]; exact List.mem_map.2 ⟨q, hq, rfl⟩))
  unfold atP at *
  rw [List.map_append, List.map_cons, e1, e2, if_pos rfl]
theorem put_split {l1 l2 : List Plc} {p : Plc} (hk : ((l1 ++ p :: l2).map (·.k)).Nodup) (v : Vl) : putT (tblOf (l1 ++ p :: l2)) p.k v = tblOf (l1 ++ putV v p :: l2) := by
  rw [List.map_append, List.map_cons, List.nodup_append, List.nodup_cons] at hk
  obtain ⟨_, ⟨h2, _⟩, h4⟩ := hk
  have e1 : putT (tblOf l1) p.k v = tblOf l1 := put_not' _ _ _ (by
    rw [tbl_keys]
    intro hm
    exact h4 p.k hm p.k (List.mem_cons_self ..) rfl)
  have e2 : putT (tblOf l2) p.k v = tblOf l2 := put_not' _ _ _ (by rw [tbl_keys]; exact h2)
  unfold tblOf putT at *
  rw [List.map_append, List.map_cons, List.map_append, List.map_cons, e1, e2, List.map_append, List.map_cons]
  show _ ++ (if p.k = p.k then (p.k, v) else pv p) :: _ = _
  rw [if_pos rfl]
  rfl
theorem noted_tbl (l : List Plc) (g : Nat) (y : Bool) : tblOf (atP l g (putN y)) = tblOf l := by
  unfold tblOf atP
  rw [List.map_map]
  apply List.map_congr_left
  intro p _
  show pv (if p.b = g then putN y p else p) = pv p
  split <;> rfl
theorem count_split (l1 l2 : List Plc) (p : Plc) : countT (tblOf (l1 ++ p :: l2)) = countT (tblOf l1) + (if p.v.kind = 0 then 0 else 1) + countT (tblOf l2) := by
  unfold countT tblOf
  rw [List.map_append, List.map_cons, List.filter_append, List.filter_cons, List.length_append]
  by_cases h : p.v.kind = 0
  · rw [if_neg (by unfold alive pv; simp [h]), if_pos h]
    omega
  · rw [if_pos (by unfold alive pv; simp [h]), if_neg h, List.length_cons]
    omega
theorem count_le (l : List Plc) : countT (tblOf l) ≤ l.length := by
  unfold countT
  have := List.length_filter_le alive (tblOf l)
  unfold tblOf at *
  rwa [List.length_map] at this
/-- Who is noted; the place of block g may be dead and not noted. -/
structure NI (l : List Plc) (fd : List Nat) (g : Option Nat) : Prop where
  nodup : fd.Nodup
  there : ∀ x ∈ fd, x ∈ l.map (·.b)
  noted : ∀ p ∈ l, p.noted = true ↔ p.b ∈ fd
  dead : ∀ p ∈ l, some p.b ≠ g → p.v.kind = 0 → p.noted = true
structure TI (l : List Plc) (fd : List Nat) (lv ln : Int) : Prop where
  live : lv = countT (tblOf l)
  len : ∃ n : Nat, ln = n ∧ BorderT (tblOf l) n
  notes : NI l fd none
theorem nodup_sub : ∀ (a b : List Nat), a.Nodup → (∀ x ∈ a, x ∈ b) → a.length ≤ b.length
  | [], _, _, _ => Nat.zero_le _
  | x :: a, b, h, hs => by
    have h1 := List.nodup_cons.1 h
    have h2 := nodup_sub a (b.erase x) h1.2 (fun y hy => (List.mem_erase_of_ne (fun e => h1.1 (by rw [← e]; exact hy))).2 (hs y (List.mem_cons_of_mem _ hy)))
    rw [List.length_erase_of_mem (hs x (List.mem_cons_self ..))] at h2
    have := List.length_pos_of_mem (hs x (List.mem_cons_self ..))
    rw [List.length_cons]
    omega
theorem NI.few {l : List Plc} {fd : List Nat} {g : Option Nat} (h : NI l fd g) : fd.length ≤ l.length := by
  have := nodup_sub fd (l.map (·.b)) h.nodup h.there
  rwa [List.length_map] at this
theorem border_up {t : Tbl} {n : Nat} (h : BorderT t n) : UpT t n := h.1
theorem up_put {t : Tbl} {n : Nat} {k v : Vl} (h : UpT t n) (hv : v.kind ≠ 0) : UpT (putT t k v) n := by
  intro i hi
  rw [get_put]
  split
  · exact hv
  · exact h i hi
theorem border_same {t : Tbl} {n : Nat} {k v : Vl} (h : BorderT t n) (hs : (getT t k).kind = 0 ↔ v.kind = 0) : BorderT (putT t k v) n := by
  constructor
  · intro i hi
    rw [get_put]
    split
    · rename_i h1
      have := h.1 i hi
      rw [h1.1] at this
      exact fun e => this (hs.2 e)
    · exact h.1 i hi
  · rw [get_put]
    split
    · rename_i h1
      have := h.2
      rw [h1.1] at this
      exact hs.1 this
    · exact h.2
theorem num_inj {a b : Int} (h : numV a = numV b) : a = b := by
  unfold numV at h
  rw [Vl.mk.injEq] at h
  exact h.2
theorem border_cut {t : Tbl} {n : Nat} {k : Vl} (h : BorderT t n) (hh : hasT t k = true) : ∃ m : Nat, cutL k n = m ∧ BorderT (putT t k nilV) m := by
  by_cases hc : k.kind = 3 ∧ 1 ≤ k.n ∧ k.n ≤ n
  · obtain ⟨kk, kn⟩ := k
    obtain ⟨h1, h2, h3⟩ := hc
    dsimp only at h1 h2 h3
    subst h1
    refine ⟨(kn - 1).toNat, ?_, ?_, ?_⟩
    · unfold cutL
      rw [if_pos ⟨rfl, h2, h3⟩]
      show kn - 1 = _
      omega
    · intro i hi
      rw [get_put, if_neg (fun e => by have := num_inj (show numV ((i : Int) + 1) = numV kn from e.1); omega)]
      exact h.1 i (by omega)
    · rw [get_put, if_pos ⟨by show numV _ = numV kn; rw [show ((kn - 1).toNat : Int) + 1 = kn by omega], hh⟩]
      rfl
  · refine ⟨n, by unfold cutL; rw [if_neg hc], fun i hi => ?_, ?_⟩
    · rw [get_put, if_neg (fun e => hc ⟨by rw [← e.1]; rfl, by rw [← e.1]; show 1 ≤ (i : Int) + 1; omega, by rw [← e.1]; show (i : Int) + 1 ≤ n; omega⟩)]
      exact h.1 i hi
    · rw [get_put]
      split
      · rfl
      · exact h.2
section
variable {l l1 l2 : List Plc} {fd : List Nat} {lv ln : Int} {p : Plc} {g : Option Nat}
theorem get_mem (hk : (l.map (·.k)).Nodup) (hp : p ∈ l) : hasT (tblOf l) p.k = true ∧ getT (tblOf l) p.k = p.v ∧ findP l p.k = some p.b := by
  rcases find_cases l p.k with ⟨_, _, _, h4⟩ | ⟨q, hq, h1, h2, h3, h4⟩
  · exact absurd rfl (h4 p hp)
  · obtain rfl := nodup_one hk hq hp h1
    exact ⟨h3, h4, h2⟩
/-- The notes where a place's value turned: it lives, or it was dead and noted. -/
theorem NI.value (h : NI (l1 ++ p :: l2) fd (some p.b)) (v : Vl) (hv : v.kind = 0 → p.noted = true) (hb : ∀ q ∈ l1 ++ l2, q.b ≠ p.b) : NI (l1 ++ putV v p :: l2) fd none where
  nodup := h.nodup
  there x hx := by
    have := h.there x hx
    rw [List.map_append, List.map_cons] at this ⊢
    exact this
  noted q hq := by
    rcases List.mem_append.1 hq with hq | hq
    · exact h.noted q (List.mem_append_left _ hq)
    · rcases List.mem_cons.1 hq with rfl | hq
      · exact h.noted p (by simp)
      · exact h.noted q (List.mem_append_right _ (List.mem_cons_of_mem _ hq))
  dead q hq _ h0 := by
    rcases List.mem_append.1 hq with hq | hq
    · exact h.dead q (List.mem_append_left _ hq) (fun e => hb q (List.mem_append_left _ hq) (Option.some.inj e)) h0
    · rcases List.mem_cons.1 hq with rfl | hq
      · exact hv h0
      · exact h.dead q (List.mem_append_right _ (List.mem_cons_of_mem _ hq)) (fun e => hb q (List.mem_append_right _ hq) (Option.some.inj e)) h0
/-- The notes where a place that wasn't noted is noted. -/
theorem NI.note (h : NI (l1 ++ p :: l2) fd (some p.b)) (v : Vl) (hn : p.noted = false) (hb : ∀ q ∈ l1 ++ l2, q.b ≠ p.b) : NI (l1 ++ putN true (putV v p) :: l2) (fd ++ [p.b]) none where
  nodup := by
    rw [List.nodup_append]
    refine ⟨h.nodup, by simp, fun x hx y hy e => ?_⟩
    rw [List.mem_singleton.1 hy] at e
    have := (h.noted p (by simp)).2 (by rw [← e]; exact hx)
    rw [hn] at this
    cases this
  there x hx := by
    rw [List.map_append, List.map_cons]
    rcases List.mem_append.1 hx with hx | hx
    · have := h.there x hx
      rw [List.map_append, List.map_cons] at this
      exact this
    · rw [List.mem_singleton.1 hx]
      exact List.mem_append_right _ (List.mem_cons_self ..)
  noted q hq := by
    have hx : ∀ q, q ∈ l1 ++ l2 → (q.noted = true ↔ q.b ∈ fd ++ [p.b]) := fun q hq => by
      rw [List.mem_append, List.mem_singleton]
      have h1 := h.noted q (by rcases List.mem_append.1 hq with h | h <;> simp [h])
      rw [h1]
      exact ⟨.inl, fun h => h.elim id (fun e => absurd e (hb q hq))⟩
    rcases List.mem_append.1 hq with hq | hq
    · exact hx q (List.mem_append_left _ hq)
    · rcases List.mem_cons.1 hq with rfl | hq
      · exact ⟨fun _ => List.mem_append_right _ (List.mem_singleton.2 rfl), fun _ => rfl⟩
      · exact hx q (List.mem_append_right _ hq)
  dead q hq _ h0 := by
    rcases List.mem_append.1 hq with hq | hq
    · exact h.dead q (List.mem_append_left _ hq) (fun e => hb q (List.mem_append_left _ hq) (Option.some.inj e)) h0
    · rcases List.mem_cons.1 hq with rfl | hq
      · rfl
      · exact h.dead q (List.mem_append_right _ (List.mem_cons_of_mem _ hq)) (fun e => hb q (List.mem_append_right _ hq) (Option.some.inj e)) h0
end
end Go.Proofs.Ytlpbciclkagnbaa.Td
