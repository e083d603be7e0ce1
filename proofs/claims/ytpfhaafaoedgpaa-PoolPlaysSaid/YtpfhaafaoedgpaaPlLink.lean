/-
  Layer 12: the document's pool tells what the objects by number tell.
-/
import Derived.Test.YtpfhaafaoedgpaaPlOb
namespace Go.Proofs.Ytpfhaafaoedgpaa.Pl
open Go

def rpOf (m : Int) (l : Ob) : Rp := ⟨m, idsL 1 l, sizesL l⟩
/-- How many objects have a lower number. -/
def rank : Ob → Nat → Nat
  | [], _ => 0
  | _ :: _, 0 => 0
  | none :: l, k + 1 => rank l k
  | some _ :: l, k + 1 => rank l k + 1
theorem sizes_none (l : Ob) : sizesL (none :: l) = sizesL l := rfl
theorem sizes_some (s : Int) (l : Ob) : sizesL (some s :: l) = s :: sizesL l := rfl
theorem ids_len : ∀ (n : Int) (l : Ob), (idsL n l).length = cntL l
  | _, [] => rfl
  | n, none :: l => (ids_len (n + 1) l).trans rfl
  | n, some s :: l => by
    show (idsL (n + 1) l).length + 1 = _
    rw [ids_len (n + 1) l]; rfl
theorem sizes_len : ∀ (l : Ob), (sizesL l).length = cntL l
  | [] => rfl
  | none :: l => sizes_len l
  | some s :: l => by
    rw [sizes_some, List.length_cons, sizes_len l]; rfl
theorem sizes_sum : ∀ (l : Ob), (sizesL l).sum = usedL l
  | [] => rfl
  | none :: l => by rw [sizes_none, sizes_sum l, used_cons]; simp
  | some s :: l => by rw [sizes_some, List.sum_cons, sizes_sum l, used_cons]; rfl
theorem sizes_mem {l : Ob} {s : Int} (h : s ∈ sizesL l) : some s ∈ l := by
  unfold sizesL at h
  obtain ⟨a, ha, hs⟩ := List.mem_filterMap.1 h
  have hs : a = some s := hs
  rw [← hs]; exact ha
theorem rp_ok {m : Int} {l : Ob} (h : ObOk m l) : (rpOf m l).Ok := by
  refine ⟨(ids_len _ _).trans (sizes_len _).symm, by show (idsL 1 l).length ≤ _; rw [ids_len]; exact h.few, fun s hs => h.pos s (sizes_mem hs), by show (sizesL l).sum ≤ m; rw [sizes_sum]; exact h.sum, h.top.2⟩
theorem ids_mem : ∀ (n : Int) (l : Ob) (x : Int), x ∈ idsL n l → ∃ (k : Nat) (s : Int), x = n + k ∧ l[k]? = some (some s)
  | n, none :: l, x, h => by
    obtain ⟨k, s, h1, h2⟩ := ids_mem (n + 1) l x h
    exact ⟨k + 1, s, by omega, h2⟩
  | n, some t :: l, x, h => by
    rcases List.mem_cons.1 h with h | h
    · exact ⟨0, t, by omega, rfl⟩
    · obtain ⟨k, s, h1, h2⟩ := ids_mem (n + 1) l x h
      exact ⟨k + 1, s, by omega, h2⟩
theorem ids_at_rank : ∀ (n : Int) (l : Ob) (k : Nat) (s : Int), l[k]? = some (some s) → (idsL n l).idxOf (n + k) = rank l k ∧ rank l k < (idsL n l).length ∧ (sizesL l)[rank l k]? = some s
  | n, none :: l, 0, s, h => by cases h
  | n, some t :: l, 0, s, h => by
    have h : t = s := by injection h with h; injection h
    subst h
    refine ⟨?_, Nat.succ_pos _, rfl⟩
    show (n :: idsL (n + 1) l).idxOf (n + 0) = 0
    rw [Int.add_zero, List.idxOf_cons]; simp
  | n, none :: l, k + 1, s, h => by
    have := ids_at_rank (n + 1) l k s h
    rw [show n + ((k + 1 : Nat) : Int) = n + 1 + k by omega]
    exact this
  | n, some t :: l, k + 1, s, h => by
    obtain ⟨h1, h2, h3⟩ := ids_at_rank (n + 1) l k s h
    rw [show n + ((k + 1 : Nat) : Int) = n + 1 + k by omega]
    refine ⟨?_, Nat.succ_lt_succ h2, h3⟩
    show (n :: idsL (n + 1) l).idxOf (n + 1 + k) = rank l k + 1
    rw [List.idxOf_cons, show (n == n + 1 + (k : Int)) = false from beq_eq_false_iff_ne.2 (by omega), cond_false, h1]
theorem place_some {l : Ob} {id s : Int} (h : obAt l id = some s) : 1 ≤ id ∧ l[(id - 1).toNat]? = some (some s) ∧ placeOf (idsL 1 l) id = rank l (id - 1).toNat ∧ (sizesL l)[rank l (id - 1).toNat]? = some s := by
  unfold obAt at h
  by_cases h1 : 1 ≤ id
  · rw [if_pos h1] at h
    cases h2 : l[(id - 1).toNat]? with
    | none => rw [h2] at h; cases h
    | some a =>
      rw [h2] at h
      have h : a = some s := h
      subst h
      obtain ⟨e1, e2, e3⟩ := ids_at_rank 1 l _ s h2
      rw [show (1 : Int) + ((id - 1).toNat : Nat) = id by omega] at e1
      refine ⟨h1, rfl, ?_, e3⟩
      unfold placeOf
      rw [e1, if_pos e2]
  · rw [if_neg h1] at h; cases h
theorem place_nothing {l : Ob} {id : Int} (h : obAt l id = none) : placeOf (idsL 1 l) id = -1 := by
  unfold placeOf
  by_cases hm : id ∈ idsL 1 l
  · exfalso
    obtain ⟨k, s, h1, h2⟩ := ids_mem 1 l id hm
    unfold obAt at h
    rw [if_pos (by omega), show (id - 1).toNat = k by omega, h2] at h
    cases h
  · rw [if_neg (fun hl => hm (List.idxOf_lt_length_iff.1 hl))]
theorem lead_none (n : Int) (l : Ob) : lead (n - 1) (idsL (n + 1) l) = 0 := by
  cases h : idsL (n + 1) l with
  | nil => rfl
  | cons x xs =>
    obtain ⟨k, s, h1, _⟩ := ids_mem (n + 1) l x (by rw [h]; exact List.mem_cons_self ..)
    unfold lead
    rw [if_neg (by omega)]
theorem lead_least : ∀ (n : Int) (l : Ob), lead (n - 1) (idsL n l) = leastL l
  | _, [] => rfl
  | n, none :: l => by
    show lead (n - 1) (idsL (n + 1) l) = leastL (none :: l)
    rw [lead_none]
    unfold leastL
    rw [List.findIdx_cons]; rfl
  | n, some s :: l => by
    show lead (n - 1) (n :: idsL (n + 1) l) = leastL (some s :: l)
    unfold lead
    rw [if_pos (by omega), show n - 1 + 1 = n + 1 - 1 by omega, lead_least (n + 1) l]
    unfold leastL
    rw [List.findIdx_cons]; rfl
theorem least_cons (s : Int) (l : Ob) : leastL (some s :: l) = leastL l + 1 := by
  unfold leastL
  rw [List.findIdx_cons]; rfl
theorem put_cons (a : Option Int) (l : Ob) (k : Nat) (s : Int) : putL (a :: l) (k + 1) s = a :: putL l k s := by
  unfold putL
  rw [List.length_cons]
  by_cases h : k < l.length
  · rw [if_pos (by omega), if_pos h, List.set_cons_succ]
  · rw [if_neg (by omega), if_neg h, List.cons_append]
theorem ids_put : ∀ (n : Int) (l : Ob) (s : Int), idsL n (putL l (leastL l) s) = (idsL n l).take (leastL l) ++ (n + leastL l) :: (idsL n l).drop (leastL l)
  | n, [], s => by simp [putL, leastL, idsL]
  | n, none :: l, s => by
    have e : leastL (none :: l) = 0 := by unfold leastL; rw [List.findIdx_cons]; rfl
    rw [e]
    unfold putL
    rw [if_pos (by simp), List.set_cons_zero]
    simp [idsL]
  | n, some a :: l, s => by
    rw [least_cons, put_cons]
    show n :: idsL (n + 1) (putL l (leastL l) s) = (n :: idsL (n + 1) l).take _ ++ _ :: (n :: idsL (n + 1) l).drop _
    rw [ids_put (n + 1) l s, List.take_succ_cons, List.drop_succ_cons, List.cons_append, show n + 1 + (leastL l : Int) = n + ((leastL l + 1 : Nat) : Int) by omega]
theorem sizes_put : ∀ (l : Ob) (s : Int), sizesL (putL l (leastL l) s) = (sizesL l).take (leastL l) ++ s :: (sizesL l).drop (leastL l)
  | [], s => by simp [putL, leastL, sizesL]
  | none :: l, s => by
    have e : leastL (none :: l) = 0 := by unfold leastL; rw [List.findIdx_cons]; rfl
    rw [e]
    unfold putL
    rw [if_pos (by simp), List.set_cons_zero, sizes_some, sizes_none]
    rfl
  | some a :: l, s => by
    rw [least_cons, put_cons, sizes_some, sizes_some, sizes_put l s, List.take_succ_cons, List.drop_succ_cons, List.cons_append]
theorem ids_clear : ∀ (n : Int) (l : Ob) (k : Nat) (s : Int), l[k]? = some (some s) → idsL n (l.set k none) = (idsL n l).eraseIdx (rank l k)
  | n, none :: l, 0, s, h => by cases h
  | n, some t :: l, 0, s, h => rfl
  | n, none :: l, k + 1, s, h => ids_clear (n + 1) l k s h
  | n, some t :: l, k + 1, s, h => by
    show n :: idsL (n + 1) (l.set k none) = (n :: idsL (n + 1) l).eraseIdx (rank l k + 1)
    rw [ids_clear (n + 1) l k s h, List.eraseIdx_cons_succ]
theorem sizes_clear : ∀ (l : Ob) (k : Nat) (s : Int), l[k]? = some (some s) → sizesL (l.set k none) = (sizesL l).eraseIdx (rank l k)
  | none :: l, 0, s, h => by cases h
  | some t :: l, 0, s, h => rfl
  | none :: l, k + 1, s, h => sizes_clear l k s h
  | some t :: l, k + 1, s, h => by
    show t :: sizesL (l.set k none) = (t :: sizesL l).eraseIdx (rank l k + 1)
    rw [sizes_clear l k s h, List.eraseIdx_cons_succ]
theorem ids_set : ∀ (n : Int) (l : Ob) (k : Nat) (s t : Int), l[k]? = some (some s) → idsL n (l.set k (some t)) = idsL n l
  | n, none :: l, 0, s, t, h => by cases h
  | n, some u :: l, 0, s, t, h => rfl
  | n, none :: l, k + 1, s, t, h => ids_set (n + 1) l k s t h
  | n, some u :: l, k + 1, s, t, h => by
    show n :: idsL (n + 1) (l.set k (some t)) = n :: idsL (n + 1) l
    rw [ids_set (n + 1) l k s t h]
theorem sizes_set : ∀ (l : Ob) (k : Nat) (s t : Int), l[k]? = some (some s) → sizesL (l.set k (some t)) = (sizesL l).set (rank l k) t
  | none :: l, 0, s, t, h => by cases h
  | some u :: l, 0, s, t, h => rfl
  | none :: l, k + 1, s, t, h => sizes_set l k s t h
  | some u :: l, k + 1, s, t, h => by
    show u :: sizesL (l.set k (some t)) = (u :: sizesL l).set (rank l k + 1) t
    rw [sizes_set l k s t h, List.set_cons_succ]

theorem take_neg' (p : Rp) {size : Int} (h : size < 0) : p.take size = (p, 0, 2) := by unfold Rp.take; rw [if_pos h]
theorem link_take (m : Int) (l : Ob) (S : Int) (hp : 0 ≤ usedL l) : (rpOf m l).take S = (rpOf m (takeL m l S).1, (takeL m l S).2.1, (takeL m l S).2.2) := by
  unfold takeL
  by_cases h0 : S < 0
  · rw [take_neg' _ h0, if_pos h0]
  · rw [if_neg h0]
    by_cases h1 : m < usedL l + S ∨ 65536 ≤ cntL l
    · rw [if_pos h1]
      have hf : (rpOf m l).full S = true := by
        unfold Rp.full
        show (decide (S > m) || (decide ((sizesL l).sum + S > m) || decide ((idsL 1 l).length ≥ 65536))) = true
        rw [sizes_sum, ids_len]
        rcases h1 with h1 | h1
        · rw [decide_eq_true (show usedL l + S > m from h1)]; simp
        · rw [decide_eq_true (show cntL l ≥ 65536 from h1)]; simp
      unfold Rp.take
      rw [if_neg h0, if_pos hf]
    · rw [if_neg h1]
      have hf : (rpOf m l).full S = false := by
        unfold Rp.full
        show (decide (S > m) || (decide ((sizesL l).sum + S > m) || decide ((idsL 1 l).length ≥ 65536))) = false
        rw [sizes_sum, ids_len, decide_eq_false (show ¬ usedL l + S > m from fun h => h1 (.inl h)), decide_eq_false (show ¬ cntL l ≥ 65536 from fun h => h1 (.inr h)), decide_eq_false (show ¬ S > m from fun h => h1 (.inl (by omega)))]; rfl
      have hl : lead 0 (idsL 1 l) = leastL l := lead_least 1 l
      unfold Rp.take
      rw [if_neg h0, if_neg (by rw [hf]; decide)]
      show ((rpOf m l).put (lead 0 (idsL 1 l)) S, _) = _
      rw [show (rpOf m l).ids = idsL 1 l from rfl, hl]
      unfold Rp.put rpOf
      dsimp only
      rw [ids_put, sizes_put, Int.add_comm 1]
theorem link_give (m : Int) (l : Ob) (id : Int) : (rpOf m l).give id = (rpOf m (giveL l id).1, (giveL l id).2) := by
  unfold Rp.give giveL
  cases h : obAt l id with
  | none =>
    have := place_nothing h
    rw [show (rpOf m l).ids = idsL 1 l from rfl, this]
    rfl
  | some s =>
    obtain ⟨h1, h2, h3, _⟩ := place_some h
    rw [show (rpOf m l).ids = idsL 1 l from rfl, h3, if_neg (by omega), Int.toNat_natCast]
    unfold Rp.drop rpOf
    dsimp only
    rw [ids_clear 1 l _ s h2, sizes_clear l _ s h2]
theorem link_resize (m : Int) (l : Ob) (id S : Int) (hp : ∀ s, some s ∈ l → 0 ≤ s) : (rpOf m l).resize id S = (rpOf m (resizeL m l id S).1, (resizeL m l id S).2) := by
  unfold Rp.resize resizeL
  cases h : obAt l id with
  | none =>
    have := place_nothing h
    rw [show (rpOf m l).ids = idsL 1 l from rfl, this]
    rfl
  | some s =>
    obtain ⟨h1, h2, h3, h4⟩ := place_some h
    have hs := used_item l hp _ s h2
    have hat : (rpOf m l).sizeAt (rank l (id - 1).toNat) = s := by
      unfold Rp.sizeAt
      show (sizesL l).getD _ 0 = s
      rw [List.getD_eq_getElem?_getD, h4]; rfl
    rw [show (rpOf m l).ids = idsL 1 l from rfl, h3, Int.toNat_natCast, hat, show (rpOf m l).sizes = sizesL l from rfl, sizes_sum, show (rpOf m l).bound = m from rfl]
    dsimp only
    by_cases h0 : S < 0
    · rw [if_pos (.inr h0), if_pos h0]
    · rw [if_neg (by omega), if_neg h0]
      by_cases h5 : m < usedL l - s + S
      · rw [if_pos (.inr h5), if_pos h5]
      · rw [if_neg (by omega), if_neg h5]
        unfold rpOf
        dsimp only
        rw [ids_set 1 l _ s S h2, sizes_set l _ s S h2]
theorem link_size (m : Int) (l : Ob) (id : Int) : (rpOf m l).size id = sizeL l id := by
  unfold Rp.size sizeL
  cases h : obAt l id with
  | none =>
    have := place_nothing h
    rw [show (rpOf m l).ids = idsL 1 l from rfl, this]
    rfl
  | some s =>
    obtain ⟨h1, h2, h3, h4⟩ := place_some h
    rw [show (rpOf m l).ids = idsL 1 l from rfl, h3, if_neg (by omega), Int.toNat_natCast]
    unfold Rp.sizeAt
    show ((sizesL l).getD _ 0, true) = _
    rw [List.getD_eq_getElem?_getD, h4]; rfl
end Go.Proofs.Ytpfhaafaoedgpaa.Pl
