import Derived.Test.YthejclgihhfenaaGreatCm1
/-
  Layer 12: the document's pool as plain data.
-/
namespace Go.Proofs.YthejclgihhfenaaGreat.Pl
open Go

structure Rp where
  bound : Int
  ids : List Int
  sizes : List Int

/-- A pool that may be: as many sizes as numbers; sizes not below 0, together at most the bound. -/
structure Rp.Ok (p : Rp) : Prop where
  len : p.ids.length = p.sizes.length
  few : p.ids.length ≤ 65536
  pos : ∀ s ∈ p.sizes, 0 ≤ s
  sum : p.sizes.sum ≤ p.bound
  top : p.bound ≤ 1073741824

def placeOf (ids : List Int) (id : Int) : Int := if ids.idxOf id < ids.length then (ids.idxOf id : Nat) else -1
theorem place_next {ids : List Int} {id : Int} {k : Nat} (h : k ≤ ids.idxOf id) (hk : k < ids.length) (hne : ids[k] ≠ id) : k + 1 ≤ ids.idxOf id := by
  rcases Nat.lt_or_ge k (ids.idxOf id) with h1 | h1
  · exact h1
  · exfalso
    have e : k = ids.idxOf id := by omega
    subst e
    exact hne (List.getElem_idxOf hk)
theorem idx_le : ∀ (ids : List Int) (id : Int) (k : Nat) (hk : k < ids.length), ids[k] = id → ids.idxOf id ≤ k
  | x :: xs, id, 0, _, h => by
    have h : x = id := h
    rw [List.idxOf_cons, h]; simp
  | x :: xs, id, k + 1, hk, h => by
    have := idx_le xs id k (by simpa using hk) (by simpa using h)
    rw [List.idxOf_cons]
    cases x == id with
    | true => exact Nat.zero_le _
    | false => exact Nat.succ_le_succ this
theorem place_here {ids : List Int} {id : Int} {k : Nat} (h : k ≤ ids.idxOf id) (hk : k < ids.length) (he : ids[k] = id) : placeOf ids id = k := by
  have h2 : ids.idxOf id ≤ k := by
    exact idx_le ids id k hk he
  have e : ids.idxOf id = k := by omega
  unfold placeOf
  rw [e, if_pos hk]
theorem place_none {ids : List Int} {id : Int} (h : ids.length ≤ ids.idxOf id) : placeOf ids id = -1 := by
  unfold placeOf
  rw [if_neg (by omega)]
theorem place_bounds (ids : List Int) (id : Int) : -1 ≤ placeOf ids id ∧ placeOf ids id < ids.length ∧ (0 ≤ placeOf ids id → ∃ h : (placeOf ids id).toNat < ids.length, ids[(placeOf ids id).toNat] = id) := by
  unfold placeOf
  by_cases h : ids.idxOf id < ids.length
  · rw [if_pos h]
    exact ⟨by omega, by omega, fun _ => ⟨h, List.getElem_idxOf h⟩⟩
  · rw [if_neg h]
    exact ⟨by omega, by omega, fun h => absurd h (by decide)⟩

/-- How many numbers lead the list without a gap, from n + 1 on. -/
def lead : Int → List Int → Nat
  | _, [] => 0
  | n, x :: xs => if x = n + 1 then lead (n + 1) xs + 1 else 0
theorem lead_le : ∀ (n : Int) (l : List Int), lead n l ≤ l.length
  | _, [] => Nat.le_refl _
  | n, x :: xs => by
    unfold lead
    split
    · exact Nat.succ_le_succ (lead_le _ xs)
    · exact Nat.zero_le _
theorem lead_get : ∀ (n : Int) (l : List Int) (j : Nat) (_ : j < lead n l) (h : j < l.length), l[j] = n + j + 1
  | n, x :: xs, 0, hj, _ => by
    unfold lead at hj
    split at hj
    · simpa
    · exact absurd hj (Nat.not_lt_zero _)
  | n, x :: xs, j + 1, hj, h => by
    unfold lead at hj
    split at hj
    · have := lead_get (n + 1) xs j (by omega) (by simpa using h)
      rw [List.getElem_cons_succ, this]; omega
    · exact absurd hj (Nat.not_lt_zero _)
theorem lead_stop : ∀ (n : Int) (l : List Int) (h : lead n l < l.length), l[lead n l] ≠ n + lead n l + 1
  | n, x :: xs, h => by
    by_cases e : x = n + 1
    · have e2 : lead n (x :: xs) = lead (n + 1) xs + 1 := by rw [lead, if_pos e]
      have := lead_stop (n + 1) xs (by rw [e2] at h; simpa using h)
      simp only [e2, List.getElem_cons_succ]
      omega
    · have e2 : lead n (x :: xs) = 0 := by rw [lead, if_neg e]
      simp only [e2, List.getElem_cons_zero]
      omega
/-- Where the loop stops. -/
theorem lead_eq {l : List Int} {k : Nat} (h : k ≤ lead 0 l) (hs : ∀ hk : k < l.length, l[k] ≠ k + 1) : lead 0 l = k := by
  rcases Nat.lt_or_ge k (lead 0 l) with h1 | h1
  · have h2 := lead_le 0 l
    exact absurd (lead_get 0 l k h1 (by omega)) (by have := hs (by omega); omega)
  · omega
theorem lead_next {l : List Int} {k : Nat} (h : k ≤ lead 0 l) (hk : k < l.length) (he : l[k] = k + 1) : k + 1 ≤ lead 0 l := by
  rcases Nat.lt_or_ge k (lead 0 l) with h1 | h1
  · exact h1
  · have e : lead 0 l = k := by omega
    have := lead_stop 0 l (by omega)
    simp only [e] at this
    omega

theorem sum_take_le : ∀ (l : List Int) (_ : ∀ s ∈ l, 0 ≤ s) (k : Nat), 0 ≤ (l.take k).sum ∧ (l.take k).sum ≤ l.sum
  | [], _, k => by simp
  | x :: xs, h, 0 => by
    have := (sum_take_le xs (fun s hs => h s (List.mem_cons_of_mem _ hs)) 0)
    have h0 := h x (List.mem_cons_self ..)
    simp at this ⊢
    omega
  | x :: xs, h, k + 1 => by
    have := (sum_take_le xs (fun s hs => h s (List.mem_cons_of_mem _ hs)) k)
    have h0 := h x (List.mem_cons_self ..)
    simp only [List.take_succ_cons, List.sum_cons]
    omega
theorem sum_take_succ (l : List Int) (k : Nat) (h : k < l.length) : (l.take (k + 1)).sum = (l.take k).sum + l[k] := by
  rw [List.take_succ_eq_append_getElem h, List.sum_append]
  simp

def Rp.put (p : Rp) (k : Nat) (size : Int) : Rp := { bound := p.bound, ids := p.ids.take k ++ ((k : Int) + 1) :: p.ids.drop k, sizes := p.sizes.take k ++ size :: p.sizes.drop k }
def Rp.full (p : Rp) (size : Int) : Bool := decide (size > p.bound) || (decide (p.sizes.sum + size > p.bound) || decide (p.ids.length ≥ 65536))
/-- Take: the pool then, the number, the error. -/
def Rp.take (p : Rp) (size : Int) : Rp × Int × Int :=
  if size < 0 then (p, 0, 2) else if p.full size then (p, 0, 5) else (p.put (lead 0 p.ids) size, (lead 0 p.ids : Int) + 1, 0)
def Rp.drop (p : Rp) (k : Nat) : Rp := { p with ids := p.ids.eraseIdx k, sizes := p.sizes.eraseIdx k }
def Rp.give (p : Rp) (id : Int) : Rp × Int := if placeOf p.ids id < 0 then (p, 2) else (p.drop (placeOf p.ids id).toNat, 0)
def Rp.sizeAt (p : Rp) (k : Nat) : Int := p.sizes.getD k 0
def Rp.resize (p : Rp) (id size : Int) : Rp × Int :=
  if placeOf p.ids id < 0 ∨ size < 0 then (p, 2) else if size > p.bound ∨ p.sizes.sum - p.sizeAt (placeOf p.ids id).toNat + size > p.bound then (p, 5)
  else ({ p with sizes := p.sizes.set (placeOf p.ids id).toNat size }, 0)
def Rp.size (p : Rp) (id : Int) : Int × Bool := if placeOf p.ids id < 0 then (0, false) else (p.sizeAt (placeOf p.ids id).toNat, true)
end Go.Proofs.YthejclgihhfenaaGreat.Pl

/-
  Layer 12: the objects of a pool as plain data: by number, whether there is one, and its size.
-/
namespace Go.Proofs.YthejclgihhfenaaGreat.Pl
open Go

abbrev Ob := List (Option Int)
def usedL (l : Ob) : Int := (l.map (·.getD 0)).sum
def cntL (l : Ob) : Nat := (l.filter Option.isSome).length
def leastL (l : Ob) : Nat := l.findIdx Option.isNone
def putL (l : Ob) (k : Nat) (s : Int) : Ob := if k < l.length then l.set k (some s) else l ++ [some s]
/-- The size of the object of a number. -/
def obAt (l : Ob) (id : Int) : Option Int := if 1 ≤ id then (l[(id - 1).toNat]?).join else none
def takeL (m : Int) (l : Ob) (size : Int) : Ob × Int × Int :=
  if size < 0 then (l, 0, 2) else if m < usedL l + size ∨ 65536 ≤ cntL l then (l, 0, 5) else (putL l (leastL l) size, (leastL l : Int) + 1, 0)
def giveL (l : Ob) (id : Int) : Ob × Int := match obAt l id with
  | none => (l, 2)
  | some _ => (l.set (id - 1).toNat none, 0)
def resizeL (m : Int) (l : Ob) (id size : Int) : Ob × Int := match obAt l id with
  | none => (l, 2)
  | some o => if size < 0 then (l, 2) else if m < usedL l - o + size then (l, 5) else (l.set (id - 1).toNat (some size), 0)
def sizeL (l : Ob) (id : Int) : Int × Bool := match obAt l id with
  | none => (0, false)
  | some o => (o, true)
/-- The numbers, rising, from n on. -/
def idsL : Int → Ob → List Int
  | _, [] => []
  | n, none :: l => idsL (n + 1) l
  | n, some _ :: l => n :: idsL (n + 1) l
def sizesL (l : Ob) : List Int := l.filterMap id

/-- The objects' sizes are not below 0, and together at most the bound. -/
structure ObOk (m : Int) (l : Ob) : Prop where
  pos : ∀ s, some s ∈ l → 0 ≤ s
  sum : usedL l ≤ m
  top : 0 ≤ m ∧ m ≤ 1073741824
  few : cntL l ≤ 65536

theorem used_cons (a : Option Int) (l : Ob) : usedL (a :: l) = a.getD 0 + usedL l := by unfold usedL; rw [List.map_cons, List.sum_cons]
theorem used_pos : ∀ (l : Ob), (∀ s, some s ∈ l → 0 ≤ s) → 0 ≤ usedL l
  | [], _ => by simp [usedL]
  | a :: l, h => by
    have h1 := used_pos l (fun s hs => h s (List.mem_cons_of_mem _ hs))
    have h2 : 0 ≤ a.getD 0 := by
      cases a with
      | none => exact Int.le_refl _
      | some s => exact h s (List.mem_cons_self ..)
    rw [used_cons]; omega
theorem used_set : ∀ (l : Ob) (k : Nat) (a b : Option Int), l[k]? = some a → usedL (l.set k b) = usedL l - a.getD 0 + b.getD 0
  | x :: l, 0, a, b, h => by
    have h : x = a := by simpa using h
    rw [List.set_cons_zero, used_cons, used_cons, h]; omega
  | x :: l, k + 1, a, b, h => by
    have := used_set l k a b (by simpa using h)
    rw [List.set_cons_succ, used_cons, used_cons, this]; omega
theorem used_app (l : Ob) (s : Int) : usedL (l ++ [some s]) = usedL l + s := by
  unfold usedL
  rw [List.map_append, List.sum_append]
  simp
theorem used_item (l : Ob) (h : ∀ s, some s ∈ l → 0 ≤ s) (k : Nat) (s : Int) (hk : l[k]? = some (some s)) : s ≤ usedL l := by
  have h1 := used_set l k (some s) none hk
  have h2 := used_pos (l.set k none) (fun t ht => by
    rcases List.mem_or_eq_of_mem_set ht with h3 | h3
    · exact h t h3
    · cases h3)
  simp at h1
  omega
theorem least_le (l : Ob) : leastL l ≤ l.length := List.findIdx_le_length
theorem least_none (l : Ob) (h : leastL l < l.length) : l[leastL l]? = some none := by
  have h1 : l[leastL l].isNone = true := List.findIdx_getElem (w := h)
  rw [List.getElem?_eq_getElem h]
  cases h2 : l[leastL l] with
  | none => rfl
  | some s => rw [h2] at h1; cases h1
theorem least_some (l : Ob) (k : Nat) (h : k < leastL l) : ∃ s, l[k]? = some (some s) := by
  have hk : k < l.length := Nat.lt_of_lt_of_le h (least_le l)
  have h1 : l[k].isNone = false := by
    have := List.not_of_lt_findIdx h
    simpa using this
  rw [List.getElem?_eq_getElem hk]
  cases h2 : l[k] with
  | none => rw [h2] at h1; cases h1
  | some s => exact ⟨s, rfl⟩
theorem used_put (l : Ob) (s : Int) : usedL (putL l (leastL l) s) = usedL l + s := by
  unfold putL
  by_cases h : leastL l < l.length
  · rw [if_pos h, used_set l _ none (some s) (least_none l h)]
    simp
  · rw [if_neg h, used_app]
theorem put_pos {l : Ob} {k : Nat} {s : Int} (h : ∀ t, some t ∈ l → 0 ≤ t) (hs : 0 ≤ s) : ∀ t, some t ∈ putL l k s → 0 ≤ t := by
  intro t ht
  unfold putL at ht
  split at ht
  · rcases List.mem_or_eq_of_mem_set ht with h3 | h3
    · exact h t h3
    · injection h3 with h3; omega
  · rcases List.mem_append.1 ht with h3 | h3
    · exact h t h3
    · have h3 := List.mem_singleton.1 h3
      injection h3 with h3; omega
theorem put_len (l : Ob) (k : Nat) (s : Int) : (putL l k s).length ≤ l.length + 1 := by
  unfold putL
  split
  · rw [List.length_set]; omega
  · simp
theorem set_pos {l : Ob} {k : Nat} {b : Option Int} (h : ∀ t, some t ∈ l → 0 ≤ t) (hb : ∀ t, b = some t → 0 ≤ t) : ∀ t, some t ∈ l.set k b → 0 ≤ t := by
  intro t ht
  rcases List.mem_or_eq_of_mem_set ht with h3 | h3
  · exact h t h3
  · exact hb t h3.symm
theorem cnt_le (l : Ob) : cntL l ≤ l.length := List.length_filter_le ..

/-- What the law keeps beside the pool: a size for each number, -1 where there is none. -/
def szAt (l : Ob) (k : Nat) : Int := if k = 0 then -1 else ((l[k - 1]?).join).getD (-1)
theorem sz_some {l : Ob} {k : Nat} {s : Int} (hk : 1 ≤ k) (h : obAt l k = some s) : szAt l k = s ∧ l[k - 1]? = some (some s) := by
  unfold obAt at h
  rw [if_pos (by omega), show ((k : Int) - 1).toNat = k - 1 by omega] at h
  cases h2 : l[k - 1]? with
  | none => rw [h2] at h; cases h
  | some a =>
    rw [h2] at h
    have h : a = some s := h
    unfold szAt
    rw [if_neg (by omega), h2, h]
    exact ⟨rfl, rfl⟩
theorem sz_none {l : Ob} {k : Nat} (hk : 1 ≤ k) (h : obAt l k = none) : szAt l k = -1 := by
  unfold obAt at h
  rw [if_pos (by omega), show ((k : Int) - 1).toNat = k - 1 by omega] at h
  unfold szAt
  rw [if_neg (by omega), h]
  rfl
theorem sz_set (l : Ob) (k j : Nat) (b : Option Int) (hk : 1 ≤ k) (hl : k - 1 < l.length) : szAt (l.set (k - 1) b) j = if j = k then b.getD (-1) else szAt l j := by
  unfold szAt
  by_cases h0 : j = 0
  · rw [if_pos h0, if_pos h0, if_neg (by omega)]
  · rw [if_neg h0, if_neg h0, List.getElem?_set]
    by_cases h1 : j = k
    · subst h1
      rw [if_pos rfl, if_pos rfl, if_pos hl]
      rfl
    · rw [if_neg (by omega), if_neg h1]
theorem sz_put (l : Ob) (j : Nat) (s : Int) : szAt (putL l (leastL l) s) j = if j = leastL l + 1 then s else szAt l j := by
  unfold putL
  by_cases h : leastL l < l.length
  · rw [if_pos h]
    have := sz_set l (leastL l + 1) j (some s) (by omega) (by omega)
    rw [show leastL l + 1 - 1 = leastL l by omega] at this
    rw [this]
    rfl
  · rw [if_neg h]
    have hl : leastL l = l.length := by have := least_le l; omega
    unfold szAt
    by_cases h0 : j = 0
    · rw [if_pos h0, if_pos h0, if_neg (by omega)]
    · rw [if_neg h0, if_neg h0]
      by_cases h1 : j = leastL l + 1
      · subst h1
        rw [if_pos rfl, show leastL l + 1 - 1 = l.length by omega, List.getElem?_append_right (Nat.le_refl _)]
        simp
      · rw [if_neg h1]
        by_cases h2 : j - 1 < l.length
        · rw [List.getElem?_append_left h2]
        · rw [List.getElem?_append_right (by omega), List.getElem?_eq_none (by simp; omega), List.getElem?_eq_none (by omega)]
theorem sz_pos {l : Ob} {k : Nat} (h : 1 ≤ k) (hk : k ≤ leastL l) (hp : ∀ s, some s ∈ l → 0 ≤ s) : 0 ≤ szAt l k := by
  obtain ⟨s, hs⟩ := least_some l (k - 1) (by omega)
  unfold szAt
  rw [if_neg (by omega), hs]
  exact hp s (List.mem_of_getElem? hs)
theorem sz_least (l : Ob) : szAt l (leastL l + 1) = -1 := by
  unfold szAt
  rw [if_neg (by omega), show leastL l + 1 - 1 = leastL l by omega]
  rcases Nat.lt_or_ge (leastL l) l.length with h | h
  · rw [least_none l h]; rfl
  · rw [List.getElem?_eq_none h]; rfl
/-- The list that the law keeps. -/
def szL (l : Ob) : List Int := (List.range 202).map (szAt l)
theorem szL_len (l : Ob) : (szL l).length = 202 := by unfold szL; rw [List.length_map, List.length_range]
theorem szL_get (l : Ob) (k : Nat) (h : k < (szL l).length) : (szL l)[k] = szAt l k := by
  have e : (szL l)[k]? = some (szAt l k) := by
    unfold szL
    rw [List.getElem?_map, List.getElem?_range (by rwa [szL_len] at h)]
    rfl
  rw [List.getElem?_eq_getElem h] at e
  injection e
theorem szL_set {l l' : Ob} {k : Nat} {v : Int} (h : ∀ j, szAt l' j = if j = k then v else szAt l j) : (szL l).set k v = szL l' := by
  apply List.ext_getElem
  · rw [List.length_set, szL_len, szL_len]
  · intro j h1 h2
    rw [List.getElem_set, szL_get, szL_get, h j]
    by_cases e : k = j
    · rw [if_pos e, if_pos e.symm]
    · rw [if_neg e, if_neg (fun x => e x.symm)]
theorem szL_nil : szL [] = List.replicate 202 (-1) := by
  apply List.ext_getElem
  · rw [szL_len, List.length_replicate]
  · intro j h1 h2
    rw [szL_get, List.getElem_replicate]
    unfold szAt
    split <;> rfl
end Go.Proofs.YthejclgihhfenaaGreat.Pl

/-
  Layer 14: a heap as plain data: objects by number, each with what it has.
-/
namespace Go.Proofs.YthejclgihhfenaaGreat.Hp
open Go Go.Proofs.YthejclgihhfenaaGreat.Tb Go.Proofs.YthejclgihhfenaaGreat.Pl

/-- An object: its kind, and what such a one has. -/
structure HO where
  kind : Nat
  text : ByteArray := ByteArray.empty
  tab : Tbl := []
  mtv : Vl := nilV
  proto : Int := 0
  cells : List Vl := []
  has : Vl := nilV
  state : Nat := 0
  serial : Int := 0
  noted : Bool := false
def sizeO (o : HO) : Int :=
  if o.kind = 4 then 1 + ((o.text.size / 16 : Nat) : Int) else if o.kind = 5 then 2 + 2 * ((countT o.tab : Nat) : Int) else if o.kind = 6 then 2 + (o.cells.length : Int) else if o.kind = 8 then 8 else 1
structure Hp where
  max : Int
  obs : List (Option HO)
  made : Int := 0
  watch : Bool := false
/-- The pool's objects of it. -/
def obOf (h : Hp) : Ob := h.obs.map (Option.map sizeO)
def usedH (h : Hp) : Int := usedL (obOf h)
def cntH (h : Hp) : Nat := cntL (obOf h)
def putO (l : List (Option HO)) (k : Nat) (o : HO) : List (Option HO) := if k < l.length then l.set k (some o) else l ++ [some o]
def valO (k : Nat) (o : HO) : Vl := ⟨o.kind, (k : Int) + 1⟩
/-- The object of a value: its place, and itself. -/
def findH (h : Hp) (v : Vl) : Option (Nat × HO) :=
  if 1 ≤ v.n then match (h.obs[(v.n - 1).toNat]?).join with
    | some o => if o.kind = v.kind then some ((v.n - 1).toNat, o) else none
    | none => none
  else none
def objB (v : Vl) : Bool := (decide (4 ≤ v.kind) && decide (v.kind ≤ 6)) || (decide (v.kind = 8) || decide (v.kind = 9))
def keepB (h : Hp) (v : Vl) : Bool := valB v && (!objB v || (findH h v).isSome)
def setO (h : Hp) (k : Nat) (o : HO) : Hp := { h with obs := h.obs.set k (some o) }
def note (h : Hp) (o : HO) : HO := { o with noted := o.noted || h.watch }
/-- One more, as an int64 goes. -/
def upM (m : Int) : Int := IntKind.i64.wrap (m + 1)
/-- An object more. -/
def addH (h : Hp) (o : HO) : Hp × Vl × Int :=
  if 65536 ≤ cntH h ∨ h.max < usedH h + sizeO o then (h, nilV, 152)
  else
    let m : Int := if o.kind = 5 ∨ o.kind = 6 ∨ o.kind = 8 then upM h.made else h.made
    let s : Int := if o.kind = 5 ∨ o.kind = 6 ∨ o.kind = 8 then upM h.made else 0
    ({ h with obs := putO h.obs (leastL (obOf h)) { o with serial := s, noted := h.watch }, made := m }, valO (leastL (obOf h)) o, 0)
def isText (s : ByteArray) (o : Option HO) : Bool := match o with
  | some o => decide (o.kind = 4) && decide (o.text = s)
  | none => false
def knownH (h : Hp) (s : ByteArray) : Option Nat := if h.obs.findIdx (isText s) < h.obs.length then some (h.obs.findIdx (isText s)) else none
def strH (h : Hp) (s : ByteArray) : Hp × Vl × Int :=
  if 65535 < s.size then (h, nilV, 3)
  else match knownH h s with
    | some k => match (h.obs[k]?).join with
      | some o => (setO h k (note h o), ⟨4, (k : Int) + 1⟩, 0)
      | none => (h, nilV, 0)
    | none => addH h { kind := 4, text := s }
def tableH (h : Hp) : Hp × Vl × Int := addH h { kind := 5 }
def cellH (h : Hp) (v : Vl) : Hp × Vl × Int := if keepB h v then addH h { kind := 9, has := v } else (h, nilV, 150)
def getH (h : Hp) (t k : Vl) : Vl := match findH h t with
  | some (_, o) => if t.kind = 5 then getT o.tab k else nilV
  | none => nilV
def setH (h : Hp) (t k v : Vl) : Hp × Int := match findH h t with
  | some (i, o) =>
    if t.kind = 5 then
      if keyB k && (keepB h k && keepB h v) then
        if (getT o.tab k).kind = 0 ∧ v.kind ≠ 0 ∧ h.max < usedH h + 2 then (h, 152)
        else if (setT o.tab k v).2 = 0 then (setO h i (note h { o with tab := (setT o.tab k v).1 }), 0) else (setO h i { o with tab := (setT o.tab k v).1 }, (setT o.tab k v).2)
      else (h, 150)
    else (h, 151)
  | none => (h, 151)
def loadH (h : Hp) (c : Vl) : Vl := match findH h c with
  | some (_, o) => if c.kind = 9 then o.has else nilV
  | none => nilV
def storeH (h : Hp) (c v : Vl) : Hp × Int := match findH h c with
  | some (i, o) => if c.kind = 9 then (if keepB h v then (setO h i (note h { o with has := v }), 0) else (h, 150)) else (h, 151)
  | none => (h, 151)
def hasH (h : Hp) (v : Vl) : Bool := (findH h v).isSome
def freeH (h : Hp) (v : Vl) : Hp × Int := match findH h v with
  | some (i, _) => ({ h with obs := h.obs.set i none }, 0)
  | none => (h, 151)
def textH (h : Hp) (v : Vl) : ByteArray × Bool := match findH h v with
  | some (_, o) => if v.kind = 4 then (o.text, true) else (ByteArray.empty, false)
  | none => (ByteArray.empty, false)
def serialH (h : Hp) (v : Vl) : Int := match findH h v with
  | some (_, o) => o.serial
  | none => 0
def objectsL : Nat → List (Option HO) → List Vl
  | _, [] => []
  | k, none :: l => objectsL (k + 1) l
  | k, some o :: l => valO k o :: objectsL (k + 1) l
def valuesT (t : Tbl) : List Vl := t.flatMap (fun p => [p.1, p.2])
def kidsH (h : Hp) (v : Vl) : List Vl := match findH h v with
  | some (_, o) =>
    if v.kind = 5 then (o.mtv :: valuesT o.tab).filter objB else if v.kind = 6 then o.cells.filter objB else if v.kind = 9 then [o.has].filter objB else []
  | none => []
end Go.Proofs.YthejclgihhfenaaGreat.Hp
