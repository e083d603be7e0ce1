/-
  Layer 13: a table as plain data: places in their order, each with a key and a value.
-/
import Derived.Test.YtlpbciclkagnbaaPlMemG
namespace Go.Proofs.Ytlpbciclkagnbaa.Tb
open Go

/-- Blocks of the law's own, with what they hold. -/
abbrev Own := List (Nat × Obj)
/-- A value: its kind, its number. -/
structure Vl where
  kind : Nat
  n : Int
  deriving DecidableEq
def nilV : Vl := ⟨0, 0⟩
def numV (n : Int) : Vl := ⟨3, n⟩
def strV (n : Int) : Vl := ⟨4, n⟩
def Vl.cells (v : Vl) : Array Value := #[.int .u8 (v.kind : Int), .int .i64 v.n]
def Vl.val (v : Vl) : Value := .agg v.cells
def Vl.In (v : Vl) : Prop := v.kind < 256 ∧ Pl.In64 v.n
def plainB (v : Vl) : Bool := decide (2 < v.kind) || decide (v.n = 0)
def keyB (k : Vl) : Bool := decide (1 ≤ k.kind) && (decide (k.kind ≤ 8) && plainB k)
def valB (v : Vl) : Bool := decide (v.kind ≤ 8) && plainB v
abbrev Tbl := List (Vl × Vl)
def alive (p : Vl × Vl) : Bool := decide (p.2.kind ≠ 0)
def hasT (t : Tbl) (k : Vl) : Bool := t.any (fun p => decide (p.1 = k))
def getT (t : Tbl) (k : Vl) : Vl := match t.find? (fun p => decide (p.1 = k)) with
  | none => nilV
  | some p => p.2
def putT (t : Tbl) (k v : Vl) : Tbl := t.map (fun p => if p.1 = k then (p.1, v) else p)
/-- Set: the table then, and the error. -/
def setT (t : Tbl) (k v : Vl) : Tbl × Int :=
  if keyB k && valB v then
    if hasT t k then (putT t k v, 0) else if v.kind = 0 then (t, 0) else if 65536 ≤ (t.filter alive).length then (t.filter alive, 5) else (t.filter alive ++ [(k, v)], 0)
  else (t, 150)
def countT (t : Tbl) : Nat := (t.filter alive).length
def firstT (t : Tbl) : Vl × Vl := match t.find? alive with
  | none => (nilV, nilV)
  | some p => p
/-- What stands behind a key's place. -/
def behindT (t : Tbl) (k : Vl) : Tbl := match t with
  | [] => []
  | p :: t => if p.1 = k then t else behindT t k
def nextT (t : Tbl) (k : Vl) : Vl × Vl × Int :=
  if k.kind = 0 then ((firstT t).1, (firstT t).2, 0) else if hasT t k then ((firstT (behindT t k)).1, (firstT (behindT t k)).2, 0) else (nilV, nilV, 2)
/-- The border: numbers from 1 on have values up to it, the next one has none. -/
def BorderT (t : Tbl) (n : Nat) : Prop := (∀ i : Nat, i < n → (getT t (numV ((i : Int) + 1))).kind ≠ 0) ∧ (getT t (numV ((n : Int) + 1))).kind = 0

theorem put_keys (t : Tbl) (k v : Vl) : (putT t k v).map (·.1) = t.map (·.1) := by
  unfold putT
  rw [List.map_map]
  apply List.map_congr_left
  intro p _
  show (if p.1 = k then (p.1, v) else p).1 = p.1
  split <;> rfl
theorem has_iff (t : Tbl) (k : Vl) : hasT t k = true ↔ k ∈ t.map (·.1) := by
  unfold hasT
  rw [List.any_eq_true, List.mem_map]
  constructor
  · rintro ⟨p, h1, h2⟩; exact ⟨p, h1, of_decide_eq_true h2⟩
  · rintro ⟨p, h1, h2⟩; exact ⟨p, h1, decide_eq_true h2⟩
theorem get_none (t : Tbl) (k : Vl) (h : hasT t k = false) : getT t k = nilV := by
  unfold getT
  have : t.find? (fun p => decide (p.1 = k)) = none := by
    rw [List.find?_eq_none]
    intro p hp hd
    have := (has_iff t k).2 (List.mem_map.2 ⟨p, hp, of_decide_eq_true hd⟩)
    rw [h] at this; cases this
  rw [this]
theorem get_cons (p : Vl × Vl) (t : Tbl) (k : Vl) : getT (p :: t) k = if p.1 = k then p.2 else getT t k := by
  unfold getT
  rw [List.find?_cons]
  by_cases h : p.1 = k
  · rw [decide_eq_true h, if_pos h]
  · rw [decide_eq_false h, if_neg h]
theorem get_put : ∀ (t : Tbl) (k v k' : Vl), getT (putT t k v) k' = if k' = k ∧ hasT t k = true then v else getT t k'
  | [], k, v, k' => by
    rw [if_neg (fun h => by cases h.2)]; rfl
  | p :: t, k, v, k' => by
    have ih := get_put t k v k'
    show getT ((if p.1 = k then (p.1, v) else p) :: putT t k v) k' = _
    rw [get_cons, get_cons, ih]
    have hh : hasT (p :: t) k = (decide (p.1 = k) || hasT t k) := by unfold hasT; rw [List.any_cons]
    rw [hh]
    by_cases h1 : p.1 = k
    · rw [if_pos h1, decide_eq_true h1, Bool.true_or]
      by_cases h2 : p.1 = k'
      · rw [if_pos h2, if_pos ⟨by rw [← h2, h1], rfl⟩]
      · rw [if_neg h2, if_neg h2]
        have h3 : ¬ k' = k := fun e => h2 (by rw [h1, e])
        rw [if_neg (fun h => h3 h.1), if_neg (fun h => h3 h.1)]
    · rw [if_neg h1, decide_eq_false h1, Bool.false_or]
      by_cases h2 : p.1 = k'
      · rw [if_pos h2, if_neg (fun h => h1 (by rw [h2, h.1]))]; split <;> rfl
      · rw [if_neg h2, if_neg h2]
theorem get_filter : ∀ (t : Tbl) (k : Vl), (t.map (·.1)).Nodup → (getT (t.filter alive) k).kind = 0 ∧ (getT t k).kind = 0 ∨ getT (t.filter alive) k = getT t k
  | [], _, _ => .inr rfl
  | p :: t, k, hn => by
    have hn2 : (t.map (·.1)).Nodup := (List.nodup_cons.1 hn).2
    have hno : p.1 ∉ t.map (·.1) := (List.nodup_cons.1 hn).1
    rw [get_cons, List.filter_cons]
    by_cases ha : alive p = true
    · rw [if_pos ha, get_cons]
      by_cases h1 : p.1 = k
      · rw [if_pos h1, if_pos h1]; exact .inr rfl
      · rw [if_neg h1, if_neg h1]; exact get_filter t k hn2
    · rw [if_neg ha]
      by_cases h1 : p.1 = k
      · rw [if_pos h1]
        left
        have h2 : hasT (t.filter alive) k = false := by
          cases h3 : hasT (t.filter alive) k with
          | false => rfl
          | true =>
            obtain ⟨q, hq, he⟩ := List.mem_map.1 ((has_iff _ _).1 h3)
            exact absurd (List.mem_map.2 ⟨q, (List.mem_filter.1 hq).1, he.trans h1.symm⟩) hno
        rw [get_none _ _ h2]
        refine ⟨rfl, ?_⟩
        unfold alive at ha
        simpa using ha
      · rw [if_neg h1]; exact get_filter t k hn2
theorem get_app (t : Tbl) (k v k' : Vl) : getT (t ++ [(k, v)]) k' = if hasT t k' = true then getT t k' else if k = k' then v else nilV := by
  induction t with
  | nil =>
    rw [if_neg (by intro h; cases h)]
    show getT [(k, v)] k' = _
    rw [get_cons]; rfl
  | cons p t ih =>
    have hh : hasT (p :: t) k' = (decide (p.1 = k') || hasT t k') := by unfold hasT; rw [List.any_cons]
    rw [List.cons_append, get_cons, get_cons, ih, hh]
    by_cases h : p.1 = k'
    · rw [if_pos h, if_pos h, decide_eq_true h, Bool.true_or, if_pos rfl]
    · rw [if_neg h, if_neg h, decide_eq_false h, Bool.false_or]
end Go.Proofs.Ytlpbciclkagnbaa.Tb
