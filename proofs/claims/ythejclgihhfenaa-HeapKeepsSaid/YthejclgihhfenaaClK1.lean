import Derived.Test.YthejclgihhfenaaCm2
/-
  Layer 14: a heap of cells and of tables with one key, as data: what each call makes of it.
-/
namespace Go.Proofs.Ythejclgihhfenaa.Hp
open Go Go.Proofs.Ythejclgihhfenaa.Tb Go.Proofs.Ythejclgihhfenaa.Pl

/-- An object: is it a table; the number that was put in last; its serial. -/
structure KO where
  t : Bool
  n : Int
  s : Int
abbrev KS := List (Option KO)
def oneV : Vl := numV 1
def mkO (o : KO) : HO := if o.t then { kind := 5, tab := [(oneV, numV o.n)], serial := o.s } else { kind := 9, has := numV o.n, serial := o.s }
def sizeK (o : KO) : Int := if o.t then 4 else 1
def kindK (o : KO) : Nat := if o.t then 5 else 9
def kpH (S : KS) (m : Int) : Hp := { max := 400, obs := S.map (Option.map mkO), made := m }
def valK (k : Nat) (o : KO) : Vl := ⟨kindK o, (k : Int) + 1⟩
def obS (S : KS) : Ob := S.map (Option.map sizeK)
def usedS (S : KS) : Int := usedL (obS S)
def cntS (S : KS) : Nat := cntL (obS S)
def leastS (S : KS) : Nat := leastL (obS S)
def atS (S : KS) (v : Vl) : Option (Nat × KO) :=
  if 1 ≤ v.n then match (S[(v.n - 1).toNat]?).join with
    | some o => if kindK o = v.kind then some ((v.n - 1).toNat, o) else none
    | none => none
  else none
def wantS (S : KS) (v : Vl) : Option Int := (atS S v).map (·.2.n)
def putS (S : KS) (k : Nat) (o : Option KO) : KS := if k < S.length then S.set k o else S ++ [o]

theorem size_mk (o : KO) : sizeO (mkO o) = sizeK o := by
  obtain ⟨t, n, s⟩ := o
  cases t <;> rfl
theorem kind_mk (o : KO) : (mkO o).kind = kindK o := by
  obtain ⟨t, n, s⟩ := o
  cases t <;> rfl
theorem ob_kp (S : KS) (m : Int) : obOf (kpH S m) = obS S := by
  unfold obOf kpH obS
  dsimp only
  rw [List.map_map]
  apply List.map_congr_left
  intro o _
  cases o with
  | none => rfl
  | some o => exact congrArg some (size_mk o)
theorem find_kp (S : KS) (m : Int) (v : Vl) : findH (kpH S m) v = (atS S v).map (fun p => (p.1, mkO p.2)) := by
  unfold findH atS kpH
  dsimp only
  by_cases h : 1 ≤ v.n
  · rw [if_pos h, if_pos h, List.getElem?_map]
    cases hx : S[(v.n - 1).toNat]? with
    | none => rfl
    | some o =>
      cases o with
      | none => rfl
      | some o =>
        dsimp only [Option.map_some, Option.join_some]
        rw [kind_mk]
        by_cases hk : kindK o = v.kind
        · rw [if_pos hk, if_pos hk]; rfl
        · rw [if_neg hk, if_neg hk]; rfl
  · rw [if_neg h, if_neg h]; rfl
theorem at_some {S : KS} {v : Vl} {k : Nat} {o : KO} (h : atS S v = some (k, o)) : S[k]? = some (some o) ∧ v = valK k o := by
  unfold atS at h
  split at h
  · rename_i h1
    split at h
    · rename_i o' hx
      split at h
      · rename_i hk
        injection h with h
        injection h with h2 h3
        subst h3
        refine ⟨?_, ?_⟩
        · cases hy : S[k]? with
          | none => rw [h2, hy] at hx; cases hx
          | some y =>
            rw [h2, hy] at hx
            exact congrArg some hx
        · obtain ⟨vk, vn⟩ := v
          unfold valK
          dsimp only at *
          rw [hk, Vl.mk.injEq]
          exact ⟨rfl, by omega⟩
      · cases h
    · cases h
  · cases h
theorem at_val {S : KS} {k : Nat} {o : KO} (h : S[k]? = some (some o)) : atS S (valK k o) = some (k, o) := by
  unfold atS valK
  dsimp only
  rw [if_pos (by omega), show ((k : Int) + 1 - 1).toNat = k by omega, h]
  dsimp only [Option.join_some]
  rw [if_pos rfl]
theorem want_some {S : KS} {v : Vl} {n : Int} (h : wantS S v = some n) : ∃ k o, atS S v = some (k, o) ∧ o.n = n := by
  unfold wantS at h
  cases hx : atS S v with
  | none => rw [hx] at h; cases h
  | some p => rw [hx] at h; exact ⟨p.1, p.2, rfl, Option.some.inj h⟩
theorem want_none {S : KS} {v : Vl} (h : wantS S v = none) : atS S v = none := by
  unfold wantS at h
  cases hx : atS S v with
  | none => rfl
  | some p => rw [hx] at h; cases h
theorem val_n {k j : Nat} {o p : KO} (h : (valK k o).n = (valK j p).n) : k = j := by
  unfold valK at h
  dsimp only at h
  omega
/-- What is at a place decides what a value names. -/
theorem at_get (S : KS) (v : Vl) : atS S v = if 1 ≤ v.n then ((S[(v.n - 1).toNat]?).join).bind (fun o => if kindK o = v.kind then some ((v.n - 1).toNat, o) else none) else none := by
  unfold atS
  split
  · cases (S[(v.n - 1).toNat]?).join <;> rfl
  · rfl
theorem put_get (S : KS) (k j : Nat) (o : Option KO) (hk : k ≤ S.length) : ((putS S k o)[j]?).join = if j = k then o else (S[j]?).join := by
  unfold putS
  by_cases h : k < S.length
  · rw [if_pos h, List.getElem?_set]
    by_cases e : k = j
    · subst e
      rw [if_pos rfl, if_pos h, if_pos rfl]; rfl
    · rw [if_neg e, if_neg (fun x => e x.symm)]
  · rw [if_neg h]
    have hl : k = S.length := by omega
    subst hl
    by_cases e : j = S.length
    · subst e
      rw [if_pos rfl, List.getElem?_append_right (Nat.le_refl _), Nat.sub_self]; rfl
    · rw [if_neg e]
      by_cases h2 : j < S.length
      · rw [List.getElem?_append_left h2]
      · rw [List.getElem?_append_right (by omega), List.getElem?_eq_none (by omega : S.length ≤ j)]
        rw [List.getElem?_eq_none (by rw [List.length_singleton]; omega)]
theorem want_put (S : KS) (k : Nat) (o : KO) (hk : k ≤ S.length) (h0 : (S[k]?).join = none) (v : Vl) : wantS (putS S k (some o)) v = if v = valK k o then some o.n else wantS S v := by
  unfold wantS
  rw [at_get, at_get, put_get S k _ _ hk]
  by_cases h1 : 1 ≤ v.n
  · rw [if_pos h1, if_pos h1]
    by_cases e : (v.n - 1).toNat = k
    · rw [if_pos e, e, h0]
      by_cases hv : kindK o = v.kind
      · have hx : v = valK k o := by
          obtain ⟨vk, vn⟩ := v
          unfold valK
          dsimp only at *
          rw [hv, Vl.mk.injEq]
          exact ⟨rfl, by omega⟩
        rw [if_pos hx]
        show (if kindK o = v.kind then some (k, o) else none).map (·.2.n) = _
        rw [if_pos hv]; rfl
      · rw [if_neg (fun x => hv (by rw [x]; rfl))]
        show (if kindK o = v.kind then some (k, o) else none).map (·.2.n) = _
        rw [if_neg hv]; rfl
    · rw [if_neg e, if_neg (fun x => e (by rw [x]; show ((k : Int) + 1 - 1).toNat = k; omega))]
  · rw [if_neg h1, if_neg h1, if_neg (fun x => h1 (by rw [x]; show 1 ≤ (k : Int) + 1; omega))]
theorem want_gone (S : KS) (k : Nat) (hk : k ≤ S.length) (h0 : (S[k]?).join = none) (v : Vl) : wantS (putS S k none) v = wantS S v := by
  unfold wantS
  rw [at_get, at_get, put_get S k _ _ hk]
  by_cases h1 : 1 ≤ v.n
  · rw [if_pos h1, if_pos h1]
    by_cases e : (v.n - 1).toNat = k
    · rw [if_pos e, e, h0]
    · rw [if_neg e]
  · rw [if_neg h1, if_neg h1]
theorem want_set {S : KS} {k : Nat} {o : KO} (h : S[k]? = some (some o)) (n : Int) (v : Vl) : wantS (putS S k (some { o with n := n })) v = if v = valK k o then some n else wantS S v := by
  have hk : k < S.length := (List.getElem?_eq_some_iff.1 h).1
  unfold wantS
  rw [at_get, at_get, put_get S k _ _ (by omega)]
  by_cases h1 : 1 ≤ v.n
  · rw [if_pos h1, if_pos h1]
    by_cases e : (v.n - 1).toNat = k
    · rw [if_pos e, e, h]
      by_cases hv : kindK o = v.kind
      · have hx : v = valK k o := by
          obtain ⟨vk, vn⟩ := v
          unfold valK
          dsimp only at *
          rw [hv, Vl.mk.injEq]
          exact ⟨rfl, by omega⟩
        rw [if_pos hx]
        show (if kindK o = v.kind then some (k, ({ o with n := n } : KO)) else none).map (·.2.n) = _
        rw [if_pos hv]; rfl
      · rw [if_neg (fun x => hv (by rw [x]; rfl))]
        show (if kindK o = v.kind then some (k, ({ o with n := n } : KO)) else none).map (·.2.n) = (if kindK o = v.kind then some (k, o) else none).map (·.2.n)
        rw [if_neg hv, if_neg hv]
    · rw [if_neg e, if_neg (fun x => e (by rw [x]; show ((k : Int) + 1 - 1).toNat = k; omega))]
  · rw [if_neg h1, if_neg h1, if_neg (fun x => h1 (by rw [x]; show 1 ≤ (k : Int) + 1; omega))]
theorem want_free {S : KS} {k : Nat} {o : KO} (h : S[k]? = some (some o)) (v : Vl) : wantS (putS S k none) v = if v = valK k o then none else wantS S v := by
  have hk : k < S.length := (List.getElem?_eq_some_iff.1 h).1
  unfold wantS
  rw [at_get, at_get, put_get S k _ _ (by omega)]
  by_cases h1 : 1 ≤ v.n
  · rw [if_pos h1, if_pos h1]
    by_cases e : (v.n - 1).toNat = k
    · rw [if_pos e, e, h]
      by_cases hv : kindK o = v.kind
      · have hx : v = valK k o := by
          obtain ⟨vk, vn⟩ := v
          unfold valK
          dsimp only at *
          rw [hv, Vl.mk.injEq]
          exact ⟨rfl, by omega⟩
        rw [if_pos hx]; rfl
      · rw [if_neg (fun x => hv (by rw [x]; rfl))]
        show none = (if kindK o = v.kind then some (k, o) else none).map (·.2.n)
        rw [if_neg hv]; rfl
    · rw [if_neg e, if_neg (fun x => e (by rw [x]; show ((k : Int) + 1 - 1).toNat = k; omega))]
  · rw [if_neg h1, if_neg h1, if_neg (fun x => h1 (by rw [x]; show 1 ≤ (k : Int) + 1; omega))]
/-- Sizes and counts as a place turns. -/
theorem ob_put (S : KS) (k : Nat) (o : Option KO) : obS (putS S k o) = if k < (obS S).length then (obS S).set k (o.map sizeK) else obS S ++ [o.map sizeK] := by
  unfold putS obS
  rw [List.length_map]
  split
  · rw [List.map_set]
  · rw [List.map_append]; rfl
theorem least_spec (S : KS) : leastS S ≤ S.length ∧ (S[leastS S]?).join = none := by
  have h1 := least_le (obS S)
  unfold leastS
  have hl : (obS S).length = S.length := List.length_map _
  refine ⟨by omega, ?_⟩
  by_cases h : leastL (obS S) < (obS S).length
  · have h2 := least_none (obS S) h
    unfold obS at h2
    rw [List.getElem?_map] at h2
    cases hx : S[leastL (List.map (Option.map sizeK) S)]? with
    | none => rw [show obS S = List.map (Option.map sizeK) S from rfl, hx]; rfl
    | some y =>
      rw [hx] at h2
      cases y with
      | none => rw [show obS S = List.map (Option.map sizeK) S from rfl, hx]; rfl
      | some o => simp at h2
  · rw [List.getElem?_eq_none (by omega)]; rfl
theorem used_app0 (l : Ob) : usedL (l ++ [none]) = usedL l := by
  unfold usedL
  rw [List.map_append, List.sum_append]
  simp
theorem cnt_cons (a : Option Int) (l : Ob) : cntL (a :: l) = (if a.isSome then 1 else 0) + cntL l := by
  unfold cntL
  rw [List.filter_cons]
  split
  · rw [List.length_cons]; omega
  · omega
theorem cnt_app (l : Ob) (a : Option Int) : cntL (l ++ [a]) = cntL l + (if a.isSome then 1 else 0) := by
  induction l with
  | nil => rw [List.nil_append, cnt_cons]; unfold cntL; simp
  | cons b l ih => rw [List.cons_append, cnt_cons, cnt_cons, ih]; omega
theorem cnt_set : ∀ (l : Ob) (k : Nat) (a b : Option Int), l[k]? = some a → cntL (l.set k b) + (if a.isSome then 1 else 0) = cntL l + (if b.isSome then 1 else 0)
  | x :: l, 0, a, b, h => by
    have h : x = a := by simpa using h
    rw [List.set_cons_zero, cnt_cons, cnt_cons, h]; omega
  | x :: l, k + 1, a, b, h => by
    have := cnt_set l k a b (by simpa using h)
    rw [List.set_cons_succ, cnt_cons, cnt_cons]; omega
/-- Used and count as a place turns from a to o. -/
theorem sums_put (S : KS) (k : Nat) (o : Option KO) (hk : k ≤ S.length) : usedS (putS S k o) = usedS S - (((S[k]?).join).map sizeK).getD 0 + (o.map sizeK).getD 0 ∧
    cntS (putS S k o) + (if ((S[k]?).join).isSome then 1 else 0) = cntS S + (if o.isSome then 1 else 0) := by
  unfold usedS cntS
  rw [ob_put]
  have hl : (obS S).length = S.length := List.length_map _
  by_cases h : k < (obS S).length
  · rw [if_pos h]
    have hg : (obS S)[k]? = some (((S[k]?).join).map sizeK) := by
      unfold obS
      rw [List.getElem?_map, List.getElem?_eq_getElem (by omega : k < S.length)]
      rfl
    have h1 := used_set _ k _ (o.map sizeK) hg
    have h2 := cnt_set _ k _ (o.map sizeK) hg
    refine ⟨h1, ?_⟩
    rw [Option.isSome_map, Option.isSome_map] at h2
    exact h2
  · rw [if_neg h, List.getElem?_eq_none (by omega)]
    constructor
    · cases o with
      | none => show usedL (obS S ++ [none]) = usedL (obS S) - 0 + 0; rw [used_app0]; omega
      | some o => show usedL (obS S ++ [some (sizeK o)]) = usedL (obS S) - 0 + sizeK o; rw [used_app]; omega
    · rw [cnt_app, Option.isSome_map]
      show _ + 0 = _
      omega
theorem cnt_used (S : KS) : (cntS S : Int) ≤ usedS S := by
  unfold cntS usedS obS
  induction S with
  | nil => exact Int.le_refl _
  | cons a S ih =>
    rw [List.map_cons, cnt_cons, used_cons]
    cases a with
    | none => show ((0 + _ : Nat) : Int) ≤ 0 + _; omega
    | some o =>
      show ((1 + _ : Nat) : Int) ≤ sizeK o + _
      have : 1 ≤ sizeK o := by unfold sizeK; split <;> omega
      push_cast
      omega
end Go.Proofs.Ythejclgihhfenaa.Hp

/-
  Layer 14: what each call makes of such a heap, and tells of it.
-/
namespace Go.Proofs.Ythejclgihhfenaa.Hp
open Go Go.Proofs.Ythejclgihhfenaa.Tb Go.Proofs.Ythejclgihhfenaa.Pl

theorem pair2 {α β : Type} {a a' : α} {b : β} (h : a = a') : (a, b) = (a', b) := by rw [h]
section
variable {S : KS} {m : Int}
theorem kp_max : (kpH S m).max = 400 := rfl
theorem used_kp : usedH (kpH S m) = usedS S := by unfold usedH; rw [ob_kp]; rfl
theorem cnt_kp : cntH (kpH S m) = cntS S := by unfold cntH; rw [ob_kp]; rfl
theorem least_kp : leastL (obOf (kpH S m)) = leastS S := by rw [ob_kp]; rfl
theorem keep_num (h : Hp) (n : Int) : keepB h (numV n) = true := rfl
theorem kp_put (k : Nat) (o : KO) : putO (kpH S m).obs k (mkO o) = (kpH (putS S k (some o)) m).obs := by
  unfold putO putS kpH
  dsimp only
  rw [List.length_map]
  split
  · rw [List.map_set]; rfl
  · rw [List.map_append]; rfl
/-- A cell that is made. -/
theorem cell_kp (n : Int) : cellH (kpH S m) (numV n) = if 400 < usedS S + 1 then (kpH S m, nilV, 152) else (kpH (putS S (leastS S) (some ⟨false, n, 0⟩)) m, valK (leastS S) ⟨false, n, 0⟩, 0) := by
  have hc := cnt_used S
  unfold cellH addH
  rw [keep_num, if_pos rfl, cnt_kp, used_kp, least_kp, kp_max]
  rw [show sizeO { kind := 9, has := numV n } = 1 from rfl]
  by_cases h : 400 < usedS S + 1
  · rw [if_pos h, if_pos (.inr h)]
  · rw [if_neg h, if_neg (by omega)]
    dsimp only
    rw [if_neg (by decide), if_neg (by decide)]
    refine pair2 ?_
    have := kp_put (S := S) (m := m) (leastS S) ⟨false, n, 0⟩
    unfold kpH at *
    dsimp only at *
    rw [← this]
    rfl
/-- A table that is made, without a key yet. -/
def halfH (S : KS) (m : Int) : Hp := { max := 400, obs := putO (kpH S m).obs (leastS S) { kind := 5, serial := upM m }, made := upM m }
theorem table_kp : tableH (kpH S m) = if 400 < usedS S + 2 then (kpH S m, nilV, 152) else (halfH S m, ⟨5, (leastS S : Int) + 1⟩, 0) := by
  have hc := cnt_used S
  unfold tableH addH
  rw [cnt_kp, used_kp, least_kp, kp_max]
  rw [show sizeO { kind := 5 } = 2 from rfl]
  by_cases h : 400 < usedS S + 2
  · rw [if_pos h, if_pos (.inr h)]
  · rw [if_neg h, if_neg (by omega)]
    rfl
theorem put_at (l : List (Option HO)) (k : Nat) (o : HO) (hk : k ≤ l.length) : (putO l k o)[k]? = some (some o) := by
  unfold putO
  split
  · rename_i h
    rw [List.getElem?_set, if_pos rfl, if_pos h]
  · rename_i h
    obtain rfl : k = l.length := by omega
    rw [List.getElem?_append_right (Nat.le_refl _), Nat.sub_self]; rfl
theorem put_put (l : List (Option HO)) (k : Nat) (o : HO) (p : Option HO) (hk : k ≤ l.length) : (putO l k o).set k p = if k < l.length then l.set k p else l ++ [p] := by
  unfold putO
  split
  · rw [List.set_set]
  · rename_i h
    obtain rfl : k = l.length := by omega
    rw [List.set_append_right _ _ (Nat.le_refl _), Nat.sub_self]; rfl
theorem half_len : leastS S ≤ (kpH S m).obs.length := by
  show _ ≤ (S.map (Option.map mkO)).length
  rw [List.length_map]
  exact (least_spec S).1
theorem half_find : findH (halfH S m) ⟨5, (leastS S : Int) + 1⟩ = some (leastS S, { kind := 5, serial := upM m }) := by
  unfold findH halfH
  dsimp only
  rw [if_pos (by omega), show ((leastS S : Int) + 1 - 1).toNat = leastS S by omega, put_at _ _ _ half_len]
  rfl
theorem half_used : usedH (halfH S m) = usedS S + 2 := by
  have h1 := sums_put S (leastS S) (some ⟨true, 0, 0⟩) (least_spec S).1
  rw [(least_spec S).2] at h1
  have hx : obOf (halfH S m) = putL (obS S) (leastL (obS S)) 2 := by
    unfold obOf halfH
    dsimp only
    unfold putO
    have hl : (kpH S m).obs.length = (obS S).length := by unfold kpH obS; simp
    rw [hl]
    unfold putL
    have hm : (kpH S m).obs.map (Option.map sizeO) = obS S := ob_kp S m
    show List.map (Option.map sizeO) (if leastL (obS S) < (obS S).length then _ else _) = _
    split
    · rw [List.map_set, hm]; rfl
    · rw [List.map_append, hm]; rfl
  unfold usedH
  rw [hx, used_put]
  rfl
/-- Its key is put in. -/
theorem setHalf_kp (n : Int) : setH (halfH S m) ⟨5, (leastS S : Int) + 1⟩ oneV (numV n) = if 400 < usedS S + 4 then (halfH S m, 152) else (kpH (putS S (leastS S) (some ⟨true, n, upM m⟩)) (upM m), 0) := by
  unfold setH
  rw [half_find]
  dsimp only
  rw [if_pos rfl, if_pos (show (keyB oneV && (keepB (halfH S m) oneV && keepB (halfH S m) (numV n))) = true from rfl), half_used]
  show (if (getT [] oneV).kind = 0 ∧ (numV n).kind ≠ 0 ∧ 400 < usedS S + 2 + 2 then _ else _) = _
  by_cases h : 400 < usedS S + 4
  · rw [if_pos h, if_pos ⟨rfl, (by show ¬ 3 = 0; decide), by omega⟩]
  · rw [if_neg h, if_neg (fun x => h (by have := x.2.2; omega))]
    have hs : setT [] oneV (numV n) = ([(oneV, numV n)], 0) := rfl
    rw [hs, if_pos rfl]
    refine pair2 ?_
    unfold setO halfH note
    dsimp only
    rw [put_put _ _ _ _ half_len]
    unfold kpH putS
    dsimp only
    rw [List.length_map]
    congr 1
    split
    · rw [List.map_set]; rfl
    · rw [List.map_append]; rfl
/-- It is freed again. -/
theorem freeHalf_kp : freeH (halfH S m) ⟨5, (leastS S : Int) + 1⟩ = (kpH (putS S (leastS S) none) (upM m), 0) := by
  unfold freeH
  rw [half_find]
  dsimp only
  refine pair2 ?_
  unfold halfH
  dsimp only
  rw [put_put _ _ _ _ half_len]
  unfold kpH putS
  dsimp only
  rw [List.length_map]
  congr 1
  split
  · rw [List.map_set]; rfl
  · rw [List.map_append]; rfl
theorem kp_set {k : Nat} (hk : k < S.length) (o : Option KO) : (kpH S m).obs.set k (o.map mkO) = (kpH (putS S k o) m).obs := by
  unfold kpH putS
  dsimp only
  rw [if_pos hk, List.map_set]
theorem at_lt {v : Vl} {k : Nat} {o : KO} (h : atS S v = some (k, o)) : k < S.length := (List.getElem?_eq_some_iff.1 (at_some h).1).1
/-- Free of what is there, and of what isn't. -/
theorem free_kp {v : Vl} {k : Nat} {o : KO} (h : atS S v = some (k, o)) : freeH (kpH S m) v = (kpH (putS S k none) m, 0) := by
  unfold freeH
  rw [find_kp, h]
  dsimp only [Option.map_some]
  refine pair2 ?_
  have := kp_set (m := m) (at_lt h) none
  unfold kpH at *
  dsimp only at *
  rw [← this]
  rfl
theorem free_no {v : Vl} (h : atS S v = none) : freeH (kpH S m) v = (kpH S m, 151) := by
  unfold freeH
  rw [find_kp, h]
  rfl
/-- A number put into what is there. -/
theorem store_kp {v : Vl} {k : Nat} {o : KO} (h : atS S v = some (k, o)) (hv : v.kind = 9) (n : Int) : storeH (kpH S m) v (numV n) = (kpH (putS S k (some { o with n := n })) m, 0) := by
  have hk := (at_some h).2
  have ht : o.t = false := by
    rw [hk] at hv
    obtain ⟨t, a, s⟩ := o
    cases t
    · rfl
    · exact absurd hv (by show ¬ 5 = 9; decide)
  unfold storeH
  rw [find_kp, h]
  dsimp only [Option.map_some]
  rw [if_pos hv, keep_num, if_pos rfl]
  refine pair2 ?_
  unfold setO
  have hx : note (kpH S m) { mkO o with has := numV n } = mkO { o with n := n } := by
    obtain ⟨t, a, s⟩ := o
    dsimp only at ht
    subst ht
    rfl
  rw [hx]
  have := kp_set (m := m) (at_lt h) (some { o with n := n })
  unfold kpH at *
  dsimp only at *
  rw [← this]
  rfl
theorem store_no {v : Vl} (h : atS S v = none) (n : Int) : storeH (kpH S m) v (numV n) = (kpH S m, 151) := by
  unfold storeH
  rw [find_kp, h]
  rfl
theorem set_kp {v : Vl} {k : Nat} {o : KO} (h : atS S v = some (k, o)) (hv : v.kind ≠ 9) (n : Int) : setH (kpH S m) v oneV (numV n) = (kpH (putS S k (some { o with n := n })) m, 0) := by
  have hk := (at_some h).2
  have ht : o.t = true := by
    rw [hk] at hv
    obtain ⟨t, a, s⟩ := o
    cases t
    · exact absurd rfl hv
    · rfl
  have hv5 : v.kind = 5 := by
    rw [hk]
    unfold valK kindK
    dsimp only
    rw [ht]; rfl
  unfold setH
  rw [find_kp, h]
  dsimp only [Option.map_some]
  obtain ⟨t, a, s⟩ := o
  dsimp only at ht
  subst ht
  rw [if_pos hv5, if_pos (show (keyB oneV && (keepB (kpH S m) oneV && keepB (kpH S m) (numV n))) = true from rfl)]
  have hg : getT (mkO ⟨true, a, s⟩).tab oneV = numV a := rfl
  rw [hg, if_neg (fun x => absurd x.1 (by show ¬ 3 = 0; decide))]
  have hs : setT (mkO ⟨true, a, s⟩).tab oneV (numV n) = ([(oneV, numV n)], 0) := rfl
  rw [hs, if_pos rfl]
  refine pair2 ?_
  unfold setO
  have hx : note (kpH S m) { mkO ⟨true, a, s⟩ with tab := [(oneV, numV n)] } = mkO ⟨true, n, s⟩ := rfl
  rw [hx]
  have := kp_set (m := m) (at_lt h) (some ⟨true, n, s⟩)
  unfold kpH at *
  dsimp only at *
  rw [← this]
  rfl
theorem set_no {v : Vl} (h : atS S v = none) (n : Int) : setH (kpH S m) v oneV (numV n) = (kpH S m, 151) := by
  unfold setH
  rw [find_kp, h]
  rfl
theorem load_kp {v : Vl} {k : Nat} {o : KO} (h : atS S v = some (k, o)) : loadH (kpH S m) v = if v.kind = 9 then numV o.n else nilV := by
  have hk := (at_some h).2
  unfold loadH
  rw [find_kp, h]
  dsimp only [Option.map_some]
  split
  · rename_i h9
    obtain ⟨t, a, s⟩ := o
    cases t
    · rfl
    · exact absurd (hk ▸ h9) (by show ¬ 5 = 9; decide)
  · rfl
theorem get_kp {v : Vl} {k : Nat} {o : KO} (h : atS S v = some (k, o)) (hv : v.kind = 5) : getH (kpH S m) v oneV = numV o.n := by
  have hk := (at_some h).2
  unfold getH
  rw [find_kp, h]
  dsimp only [Option.map_some]
  rw [if_pos hv]
  obtain ⟨t, a, s⟩ := o
  cases t
  · exact absurd (hk ▸ hv) (by show ¬ 9 = 5; decide)
  · rfl
theorem has_kp {v : Vl} {k : Nat} {o : KO} (h : atS S v = some (k, o)) : hasH (kpH S m) v = true := by
  unfold hasH
  rw [find_kp, h]
  rfl
theorem objects_kp : (objectsL 0 (kpH S m).obs).length = cntS S := by
  have : ∀ (l : List (Option HO)) (k : Nat), (objectsL k l).length = cntL (l.map (Option.map sizeO)) := by
    intro l
    induction l with
    | nil => intro k; rfl
    | cons a l ih =>
      intro k
      rw [List.map_cons, cnt_cons]
      cases a with
      | none =>
        show (objectsL (k + 1) l).length = 0 + _
        rw [ih, Nat.zero_add]
      | some o =>
        show (valO k o :: objectsL (k + 1) l).length = 1 + _
        rw [List.length_cons, ih, Nat.add_comm]
  rw [this]
  show cntL (obOf (kpH S m)) = _
  rw [ob_kp]
  rfl
end
end Go.Proofs.Ythejclgihhfenaa.Hp
