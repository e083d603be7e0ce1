/-
  What a literal says, as a function of its bytes: nothing of the program.
-/
import Derived.Test.YtajeghkmgcpgiaaGreatDoorRunesMath
import Derived.Test.YtajeghkmgcpgiaaGreatDoorTextsMath
namespace Go.Proofs.YtajeghkmgcpgiaaGreatDoor

def hexD (b : Nat) : Option Nat := if 48 ≤ b ∧ b ≤ 57 then some (b - 48) else if 97 ≤ b ∧ b ≤ 102 then some (b - 87) else if 65 ≤ b ∧ b ≤ 70 then some (b - 55) else none
/-- Digits of a base, as many as there are, at most so many: the number, how many. -/
def runN (base : Nat) : Nat → List UInt8 → Nat → Nat × Nat
  | 0, _, a => (a, 0)
  | _ + 1, [], a => (a, 0)
  | m + 1, c :: r, a =>
    match hexD c.toNat with
    | some d => if d < base then ((runN base m r (a * base + d)).1, (runN base m r (a * base + d)).2 + 1) else (a, 0)
    | none => (a, 0)
/-- What a letter behind a backslash says. -/
def letterN (b : Nat) : Option Nat :=
  if b = 97 then some 7 else if b = 98 then some 8 else if b = 102 then some 12 else if b = 110 then some 10 else if b = 114 then some 13
  else if b = 116 then some 9 else if b = 118 then some 11 else if b = 92 then some 92 else if b = 39 then some 39 else if b = 34 then some 34 else none
def blanks : List UInt8 → Nat
  | [] => 0
  | c :: r => if spaceL c.toNat = true then blanks r + 1 else 0
def startsWith (b : Nat) : List UInt8 → Bool
  | [] => false
  | c :: _ => decide (c.toNat = b)

/-- The part behind a backslash: what it says, how many bytes it has with the backslash. -/
def escL (r : List UInt8) : Option (List UInt8 × Nat) :=
  match r with
  | [] => none
  | b :: t =>
    if b.toNat = 10 ∨ b.toNat = 13 then some ([10], if startsWith (23 - b.toNat) t = true then 3 else 2)
    else match letterN b.toNat with
      | some v => some ([UInt8.ofNat v], 2)
      | none =>
        if b.toNat = 120 then (if (runN 16 2 t 0).2 = 2 then some ([UInt8.ofNat (runN 16 2 t 0).1], 4) else none)
        else if b.toNat = 122 then some ([], blanks t + 2)
        else if b.toNat = 117 ∧ startsWith 123 t = true then
          (if 0 < (runN 16 t.length (t.drop 1) 0).2 ∧ (runN 16 t.length (t.drop 1) 0).1 < 2147483648 ∧ startsWith 125 (t.drop (1 + (runN 16 t.length (t.drop 1) 0).2)) = true
            then some ((bytesOf (encI (runN 16 t.length (t.drop 1) 0).1)).data.toList, (runN 16 t.length (t.drop 1) 0).2 + 4) else none)
        else if 0 < (runN 10 3 r 0).2 ∧ (runN 10 3 r 0).1 ≤ 255 then some ([UInt8.ofNat (runN 10 3 r 0).1], (runN 10 3 r 0).2 + 1) else none
/-- The part at the head, in quotes of one kind. -/
def partL (q : Nat) (l : List UInt8) : Option (List UInt8 × Nat) :=
  match l with
  | [] => none
  | c :: r => if c.toNat = q ∨ c.toNat = 10 ∨ c.toNat = 13 then none else if c.toNat = 92 then escL r else some ([c], 1)

/-- What the parts up to the closing quote say; nothing may stand behind it. -/
def partsL (q : Nat) : Nat → List UInt8 → Option (List UInt8)
  | 0, _ => none
  | m + 1, l =>
    match partL q l with
    | some (t, k) => (partsL q m (l.drop k)).map (t ++ ·)
    | none => if l = [UInt8.ofNat q] then some [] else none
def unquotL (l : List UInt8) : Option (List UInt8) :=
  match l with
  | [] => none
  | c :: r => if c.toNat = 34 ∨ c.toNat = 39 then partsL c.toNat (r.length + 1) r else none

/-! ### What is quoted is told back -/
theorem part_quoted : ∀ b < 256, ∀ r : List UInt8, partL 34 (quotB b ++ r) = some ([UInt8.ofNat b], (quotB b).length) := by
  intro b hb r
  by_cases h10 : b = 10
  · subst h10; rfl
  by_cases h34 : b = 34
  · subst h34; rfl
  by_cases h92 : b = 92
  · subst h92; rfl
  have hob : (UInt8.ofNat b).toNat = b := by rw [UInt8.toNat_ofNat']; omega
  by_cases hp : 32 ≤ b ∧ b ≤ 126
  · have e : quotB b = [UInt8.ofNat b] := by unfold quotB; rw [if_neg h10, if_neg h34, if_neg h92, if_pos hp]
    rw [e, List.singleton_append, partL, hob, if_neg (by omega), if_neg h92]; rfl
  · have e : quotB b = [92, dg3 (b / 100), dg3 (b / 10 % 10), dg3 (b % 10)] := by unfold quotB; rw [if_neg h10, if_neg h34, if_neg h92, if_neg hp]
    have d : ∀ n, n ≤ 9 → (dg3 n).toNat = 48 + n ∧ hexD (dg3 n).toNat = some n := by
      intro n hn
      have : (dg3 n).toNat = 48 + n := by unfold dg3; rw [UInt8.toNat_ofNat']; omega
      refine ⟨this, ?_⟩
      rw [this, hexD, if_pos (by omega)]; congr 1; omega
    obtain ⟨a1, a2⟩ := d (b / 100) (by omega)
    obtain ⟨b1, b2⟩ := d (b / 10 % 10) (by omega)
    obtain ⟨c1, c2⟩ := d (b % 10) (by omega)
    have hrun : runN 10 3 (dg3 (b / 100) :: dg3 (b / 10 % 10) :: dg3 (b % 10) :: r) 0 = (b, 3) := by
      simp only [runN, a2, b2, c2]
      rw [if_pos (by omega), if_pos (by omega), if_pos (by omega)]
      have h100 : b / 100 = b / 10 / 10 := (Nat.div_div_eq_div_mul b 10 10).symm
      clear a1 b1 c1 a2 b2 c2 d
      simp only [Prod.mk.injEq, and_true]
      omega
    have hlet : letterN (dg3 (b / 100)).toNat = none := by
      rw [a1]; unfold letterN
      simp only [show ¬ 48 + b / 100 = 97 from by omega, show ¬ 48 + b / 100 = 98 from by omega, show ¬ 48 + b / 100 = 102 from by omega, show ¬ 48 + b / 100 = 110 from by omega, show ¬ 48 + b / 100 = 114 from by omega,
        show ¬ 48 + b / 100 = 116 from by omega, show ¬ 48 + b / 100 = 118 from by omega, show ¬ 48 + b / 100 = 92 from by omega, show ¬ 48 + b / 100 = 39 from by omega, show ¬ 48 + b / 100 = 34 from by omega, if_false]
    rw [e]
    show partL 34 (92 :: dg3 (b / 100) :: dg3 (b / 10 % 10) :: dg3 (b % 10) :: r) = _
    rw [partL, if_neg (by decide), if_pos (by decide), escL, hlet, a1, if_neg (by omega)]
    simp only []
    rw [if_neg (by omega), if_neg (by omega), if_neg (by omega), hrun, if_pos ⟨by omega, by omega⟩]
    rfl

theorem parts_quoted : ∀ (a : List UInt8) (m : Nat) (r : List UInt8), partsL 34 (a.length + m) (quotL a ++ r) = (partsL 34 m r).map (a ++ ·)
  | [], m, r => by
    rw [List.length_nil, Nat.zero_add]
    show partsL 34 m r = _
    simp
  | c :: a, m, r => by
    rw [quotL_cons, List.length_cons, show a.length + 1 + m = (a.length + m) + 1 from by omega, partsL, List.append_assoc, part_quoted c.toNat c.toNat_lt]
    simp only []
    rw [List.drop_left, parts_quoted a m r, UInt8.ofNat_toNat]
    simp [Function.comp_def]

/-- More rounds than are wanted change nothing. -/
theorem parts_more (q : Nat) : ∀ (m : Nat) (l t : List UInt8), partsL q m l = some t → ∀ k, partsL q (m + k) l = some t
  | 0, _, _, h, _ => by cases h
  | m + 1, l, t, h, k => by
    rw [show m + 1 + k = (m + k) + 1 from by omega]
    unfold partsL at h ⊢
    cases hp : partL q l with
    | none => rw [hp] at h; exact h
    | some x =>
      rw [hp] at h
      simp only [] at h ⊢
      cases hq : partsL q m (l.drop x.2) with
      | none => rw [hq] at h; cases h
      | some y => rw [hq] at h; rw [parts_more q m _ y hq k]; exact h

theorem quoted_size (a : List UInt8) : a.length ≤ (quotL a).length := by
  induction a with
  | nil => simp [quotL]
  | cons c a ih =>
    have := quotB_size c.toNat
    rw [quotL_cons, List.length_append, List.length_cons]; omega

/-- A text is quoted as a literal that says it. -/
theorem unquote_quote (a : List UInt8) : unquotL (34 :: (quotL a ++ [34])) = some a := by
  have h := parts_quoted a 1 [34]
  have e : partsL 34 1 [34] = some [] := rfl
  rw [e] at h
  have := quoted_size a
  have h2 := parts_more 34 _ _ _ h ((quotL a).length + 1 - a.length)
  show partsL 34 ((quotL a ++ [34]).length + 1) (quotL a ++ [34]) = some a
  rw [List.length_append, List.length_singleton, show (quotL a).length + 1 + 1 = a.length + 1 + ((quotL a).length + 1 - a.length) from by omega, h2]
  simp

end Go.Proofs.YtajeghkmgcpgiaaGreatDoor
