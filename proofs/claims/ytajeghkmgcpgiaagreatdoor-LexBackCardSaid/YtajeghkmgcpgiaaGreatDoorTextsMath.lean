/-
  Quoted texts, as functions of their bytes: nothing of the program.
-/
import Derived.IntWalk
import Derived.Lib.Strings
namespace Go.Proofs.YtajeghkmgcpgiaaGreatDoor

/-! ### Which is ahead -/
def cmpL : List UInt8 → List UInt8 → Int
  | [], [] => 0
  | [], _ :: _ => -1
  | _ :: _, [] => 1
  | a :: x, b :: y => if a.toNat < b.toNat then -1 else if b.toNat < a.toNat then 1 else cmpL x y

theorem cmpL_three : ∀ x y, cmpL x y = -1 ∨ cmpL x y = 0 ∨ cmpL x y = 1
  | [], [] => .inr (.inl rfl)
  | [], _ :: _ => .inl rfl
  | _ :: _, [] => .inr (.inr rfl)
  | a :: x, b :: y => by
    unfold cmpL
    split
    · exact .inl rfl
    · split
      · exact .inr (.inr rfl)
      · exact cmpL_three x y
theorem cmpL_zero : ∀ x y, cmpL x y = 0 ↔ x = y
  | [], [] => by simp [cmpL]
  | [], _ :: _ => by simp [cmpL]
  | _ :: _, [] => by simp [cmpL]
  | a :: x, b :: y => by
    unfold cmpL
    have := cmpL_zero x y
    by_cases h : a.toNat < b.toNat
    · rw [if_pos h]
      constructor
      · intro g; cases g
      · intro g; injection g with g1 g2; rw [g1] at h; omega
    · rw [if_neg h]
      by_cases h2 : b.toNat < a.toNat
      · rw [if_pos h2]
        constructor
        · intro g; cases g
        · intro g; injection g with g1 g2; rw [g1] at h2; omega
      · rw [if_neg h2, this]
        have : a = b := UInt8.toNat_inj.1 (by omega)
        constructor
        · intro g; rw [this, g]
        · intro g; injection g
theorem cmpL_turn : ∀ x y, cmpL x y = -cmpL y x
  | [], [] => rfl
  | [], _ :: _ => rfl
  | _ :: _, [] => rfl
  | a :: x, b :: y => by
    unfold cmpL
    have := cmpL_turn x y
    by_cases h : a.toNat < b.toNat
    · rw [if_pos h, if_neg (by omega), if_pos h]
    · rw [if_neg h]
      by_cases h2 : b.toNat < a.toNat
      · rw [if_pos h2, if_pos h2]; rfl
      · rw [if_neg h2, if_neg h2, if_neg h, this]
/-- Going on from one to the next. -/
theorem cmpL_trans : ∀ x y z, cmpL x y ≤ 0 → cmpL y z ≤ 0 → cmpL x z ≤ 0 ∧ (cmpL x y < 0 ∨ cmpL y z < 0 → cmpL x z = -1)
  | [], [], z, _, h2 => by
    refine ⟨h2, fun h => ?_⟩
    rcases cmpL_three [] z with g | g | g
    · exact g
    · rw [g] at h; simp [cmpL] at h
    · rw [g] at h2; omega
  | [], b :: y, [], _, h2 => by simp [cmpL] at h2
  | [], b :: y, c :: z, _, _ => by simp [cmpL]
  | a :: x, [], z, h1, _ => by simp [cmpL] at h1
  | a :: x, b :: y, [], _, h2 => by simp [cmpL] at h2
  | a :: x, b :: y, c :: z, h1, h2 => by
    have ih := cmpL_trans x y z
    unfold cmpL at h1 h2 ⊢
    by_cases p1 : a.toNat < b.toNat
    · by_cases p2 : c.toNat < b.toNat
      · rw [if_neg (by omega), if_pos p2] at h2; omega
      · rw [if_pos (by omega)]; exact ⟨by omega, fun _ => rfl⟩
    · by_cases p2 : b.toNat < a.toNat
      · rw [if_neg p1, if_pos p2] at h1; omega
      · rw [if_neg p1, if_neg p2] at h1 ⊢
        by_cases p3 : b.toNat < c.toNat
        · rw [if_pos (by omega)]; exact ⟨by omega, fun _ => rfl⟩
        · by_cases p4 : c.toNat < b.toNat
          · rw [if_neg p3, if_pos p4] at h2; omega
          · rw [if_neg p3, if_neg p4] at h2 ⊢
            rw [if_neg (by omega), if_neg (by omega)]
            exact ih h1 h2
theorem cmpL_ahead : ∀ c x y, cmpL (c ++ x) (c ++ y) = cmpL x y
  | [], x, y => rfl
  | a :: c, x, y => by
    rw [List.cons_append, List.cons_append, cmpL, if_neg (by omega), if_neg (by omega), cmpL_ahead c x y]
theorem cmpL_begins (x y : List UInt8) (h : y ≠ []) : cmpL x (x ++ y) = -1 := by
  have := cmpL_ahead x [] y
  rw [List.append_nil] at this
  rw [this]
  cases y with
  | nil => exact absurd rfl h
  | cons a y => rfl

/-! ### Quoting -/
def dg3 (n : Nat) : UInt8 := UInt8.ofNat (48 + n)
/-- A byte, quoted. -/
def quotB (b : Nat) : List UInt8 :=
  if b = 10 then [92, 110] else if b = 34 then [92, 34] else if b = 92 then [92, 92] else if 32 ≤ b ∧ b ≤ 126 then [UInt8.ofNat b]
  else [92, dg3 (b / 100), dg3 (b / 10 % 10), dg3 (b % 10)]
def quotL (l : List UInt8) : List UInt8 := l.flatMap fun c => quotB c.toNat
theorem quotL_snoc (l : List UInt8) (c : UInt8) : quotL (l ++ [c]) = quotL l ++ quotB c.toNat := by
  unfold quotL; rw [List.flatMap_append]; simp
theorem quotL_cons (l : List UInt8) (c : UInt8) : quotL (c :: l) = quotB c.toNat ++ quotL l := rfl
theorem quotL_append (l m : List UInt8) : quotL (l ++ m) = quotL l ++ quotL m := List.flatMap_append
theorem quotB_size (b : Nat) : 1 ≤ (quotB b).length ∧ (quotB b).length ≤ 4 := by
  unfold quotB
  split
  · simp
  split
  · simp
  split
  · simp
  split
  · simp
  · simp
theorem quotL_size : ∀ (l : List UInt8), (quotL l).length ≤ 4 * l.length
  | [] => by simp [quotL]
  | c :: l => by
    have := quotL_size l
    have := quotB_size c.toNat
    rw [quotL_cons, List.length_append, List.length_cons]; omega
/-- Plain letters alone. -/
theorem quotB_plain : ∀ b < 256, ∀ c ∈ quotB b, 32 ≤ c.toNat ∧ c.toNat ≤ 126 := by decide +kernel
theorem quotL_plain (l : List UInt8) : ∀ c ∈ quotL l, 32 ≤ c.toNat ∧ c.toNat ≤ 126 := by
  intro c hc
  obtain ⟨b, _, hb⟩ := List.mem_flatMap.1 hc
  exact quotB_plain b.toNat b.toNat_lt c hb

/-! ### Literals -/
def spaceL (b : Nat) : Bool := decide (9 ≤ b ∧ b ≤ 13 ∨ b = 32)

end Go.Proofs.YtajeghkmgcpgiaaGreatDoor
