/-
  Layer 12: the document's pool as plain data.
-/
import Derived.Test.YtpfhaafaoedgpaaPlMem
namespace Go.Proofs.Ytpfhaafaoedgpaa.Pl
open Go

structure Rp where
  bound : Int
  ids : List Int
  sizes : List Int

/-- A pool that may be: as many sizes as numbers; sizes not below 0, together at most the bound. -/
structure Rp.Ok (p : Rp) : Prop where
  len : p.ids.length = p.sizes.length
  few : p.ids.length ≤ 65536
  pos : ∀ s ∈ p.sizes, 0 ≤ s
  sum : p.sizes.sum ≤ p.bound
  top : p.bound ≤ 1073741824

def placeOf (ids : List Int) (id : Int) : Int := if ids.idxOf id < ids.length then (ids.idxOf id : Nat) else -1
theorem place_next {ids : List Int} {id : Int} {k : Nat} (h : k ≤ ids.idxOf id) (hk : k < ids.length) (hne : ids[k] ≠ id) : k + 1 ≤ ids.idxOf id := by
  rcases Nat.lt_or_ge k (ids.idxOf id) with h1 | h1
  · exact h1
  · exfalso
    have e : k = ids.idxOf id := by omega
    subst e
    exact hne (List.getElem_idxOf hk)
theorem idx_le : ∀ (ids : List Int) (id : Int) (k : Nat) (hk : k < ids.length), ids[k] = id → ids.idxOf id ≤ k
  | x :: xs, id, 0, _, h => by
    have h : x = id := h
    rw [List.idxOf_cons, h]; simp
  | x :: xs, id, k + 1, hk, h => by
    have := idx_le xs id k (by simpa using hk) (by simpa using h)
    rw [List.idxOf_cons]
    cases x == id with
    | true => exact Nat.zero_le _
    | false => exact Nat.succ_le_succ this
theorem place_here {ids : List Int} {id : Int} {k : Nat} (h : k ≤ ids.idxOf id) (hk : k < ids.length) (he : ids[k] = id) : placeOf ids id = k := by
  have h2 : ids.idxOf id ≤ k := by
    exact idx_le ids id k hk he
  have e : ids.idxOf id = k := by omega
  unfold placeOf
  rw [e, if_pos hk]
theorem place_none {ids : List Int} {id : Int} (h : ids.length ≤ ids.idxOf id) : placeOf ids id = -1 := by
  unfold placeOf
  rw [if_neg (by omega)]
theorem place_bounds (ids : List Int) (id : Int) : -1 ≤ placeOf ids id ∧ placeOf ids id < ids.length ∧ (0 ≤ placeOf ids id → ∃ h : (placeOf ids id).toNat < ids.length, ids[(placeOf ids id).toNat] = id) := by
  unfold placeOf
  by_cases h : ids.idxOf id < ids.length
  · rw [if_pos h]
    exact ⟨by omega, by omega, fun _ => ⟨h, List.getElem_idxOf h⟩⟩
  · rw [if_neg h]
    exact ⟨by omega, by omega, fun h => absurd h (by decide)⟩

/-- How many numbers lead the list without a gap, from n + 1 on. -/
def lead : Int → List Int → Nat
  | _, [] => 0
  | n, x :: xs => if x = n + 1 then lead (n + 1) xs + 1 else 0
theorem lead_le : ∀ (n : Int) (l : List Int), lead n l ≤ l.length
  | _, [] => Nat.le_refl _
  | n, x :: xs => by
    unfold lead
    split
    · exact Nat.succ_le_succ (lead_le _ xs)
    · exact Nat.zero_le _
theorem lead_get : ∀ (n : Int) (l : List Int) (j : Nat) (_ : j < lead n l) (h : j < l.length), l[j] = n + j + 1
  | n, x :: xs, 0, hj, _ => by
    unfold lead at hj
    split at hj
    · simpa
    · exact absurd hj (Nat.not_lt_zero _)
  | n, x :: xs, j + 1, hj, h => by
    unfold lead at hj
    split at hj
    · have := lead_get (n + 1) xs j (by omega) (by simpa using h)
      rw [List.getElem_cons_succ, this]; omega
    · exact absurd hj (Nat.not_lt_zero _)
theorem lead_stop : ∀ (n : Int) (l : List Int) (h : lead n l < l.length), l[lead n l] ≠ n + lead n l + 1
  | n, x :: xs, h => by
    by_cases e : x = n + 1
    · have e2 : lead n (x :: xs) = lead (n + 1) xs + 1 := by rw [lead, if_pos e]
      have := lead_stop (n + 1) xs (by rw [e2] at h; simpa using h)
      simp only [e2, List.getElem_cons_succ]
      omega
    · have e2 : lead n (x :: xs) = 0 := by rw [lead, if_neg e]
      simp only [e2, List.getElem_cons_zero]
      omega
/-- Where the loop stops. -/
theorem lead_eq {l : List Int} {k : Nat} (h : k ≤ lead 0 l) (hs : ∀ hk : k < l.length, l[k] ≠ k + 1) : lead 0 l = k := by
  rcases Nat.lt_or_ge k (lead 0 l) with h1 | h1
  · have h2 := lead_le 0 l
    exact absurd (lead_get 0 l k h1 (by omega)) (by have := hs (by omega); omega)
  · omega
theorem lead_next {l : List Int} {k : Nat} (h : k ≤ lead 0 l) (hk : k < l.length) (he : l[k] = k + 1) : k + 1 ≤ lead 0 l := by
  rcases Nat.lt_or_ge k (lead 0 l) with h1 | h1
  · exact h1
  · have e : lead 0 l = k := by omega
    have := lead_stop 0 l (by omega)
    simp only [e] at this
    omega

theorem sum_take_le : ∀ (l : List Int) (_ : ∀ s ∈ l, 0 ≤ s) (k : Nat), 0 ≤ (l.take k).sum ∧ (l.take k).sum ≤ l.sum
  | [], _, k => by simp
  | x :: xs, h, 0 => by
    have := (sum_take_le xs (fun s hs => h s (List.mem_cons_of_mem _ hs)) 0)
    have h0 := h x (List.mem_cons_self ..)
    simp at this ⊢
    omega
  | x :: xs, h, k + 1 => by
    have := (sum_take_le xs (fun s hs => h s (List.mem_cons_of_mem _ hs)) k)
    have h0 := h x (List.mem_cons_self ..)
    simp only [List.take_succ_cons, List.sum_cons]
    omega
theorem sum_take_succ (l : List Int) (k : Nat) (h : k < l.length) : (l.take (k + 1)).sum = (l.take k).sum + l[k] := by
  rw [List.take_succ_eq_append_getElem h, List.sum_append]
  simp

def Rp.put (p : Rp) (k : Nat) (size : Int) : Rp := { bound := p.bound, ids := p.ids.take k ++ ((k : Int) + 1) :: p.ids.drop k, sizes := p.sizes.take k ++ size :: p.sizes.drop k }
def Rp.full (p : Rp) (size : Int) : Bool := decide (size > p.bound) || (decide (p.sizes.sum + size > p.bound) || decide (p.ids.length ≥ 65536))
/-- Take: the pool then, the number, the error. -/
def Rp.take (p : Rp) (size : Int) : Rp × Int × Int :=
  if size < 0 then (p, 0, 2) else if p.full size then (p, 0, 5) else (p.put (lead 0 p.ids) size, (lead 0 p.ids : Int) + 1, 0)
def Rp.drop (p : Rp) (k : Nat) : Rp := { p with ids := p.ids.eraseIdx k, sizes := p.sizes.eraseIdx k }
def Rp.give (p : Rp) (id : Int) : Rp × Int := if placeOf p.ids id < 0 then (p, 2) else (p.drop (placeOf p.ids id).toNat, 0)
def Rp.sizeAt (p : Rp) (k : Nat) : Int := p.sizes.getD k 0
def Rp.resize (p : Rp) (id size : Int) : Rp × Int :=
  if placeOf p.ids id < 0 ∨ size < 0 then (p, 2) else if size > p.bound ∨ p.sizes.sum - p.sizeAt (placeOf p.ids id).toNat + size > p.bound then (p, 5)
  else ({ p with sizes := p.sizes.set (placeOf p.ids id).toNat size }, 0)
def Rp.size (p : Rp) (id : Int) : Int × Bool := if placeOf p.ids id < 0 then (0, false) else (p.sizeAt (placeOf p.ids id).toNat, true)
end Go.Proofs.Ytpfhaafaoedgpaa.Pl
