/-
  Lines of tokens: mathematics of tokensL.
-/
import Derived.Test.YtajeghkmgcpgiaaGreatDoorLexH
namespace Go.Proofs.YtajeghkmgcpgiaaGreatDoor.Lex
open Go.RowKit

def tens : List UInt8 → Nat
  | [] => 0
  | c :: r => (if c.toNat = 10 then 1 else 0) + tens r
def No13 (l : List UInt8) : Prop := ∀ c ∈ l, c.toNat ≠ 13
theorem No13.drop {l : List UInt8} (h : No13 l) (k : Nat) : No13 (l.drop k) := fun c hc => h c (List.mem_of_mem_drop hc)
theorem No13.take {l : List UInt8} (h : No13 l) (k : Nat) : No13 (l.take k) := fun c hc => h c (List.mem_of_mem_take hc)
theorem lines_tensF : ∀ (l : List UInt8) (p : Nat), No13 l → p ≠ 13 → linesF p l = tens l
  | [], _, _, _ => rfl
  | c :: r, p, h, hp => by
    have hc := h c List.mem_cons_self
    have hr : No13 r := fun d hd => h d (List.mem_cons_of_mem _ hd)
    rw [linesF, tens]
    by_cases h10 : c.toNat = 10
    · rw [if_pos (lf_is.2 (.inl h10)), if_neg (by omega), if_pos h10, lines_tensF r _ hr (by omega)]; omega
    · rw [if_neg (fun g => by rcases lf_is.1 g with g | g <;> omega), if_neg h10, lines_tensF r 0 hr (by decide)]; omega
theorem lines_tens {l : List UInt8} (h : No13 l) : linesOf l = tens l := lines_tensF l 0 h (by decide)
theorem tens_split : ∀ (l : List UInt8) (k : Nat), tens (l.take k) + tens (l.drop k) = tens l
  | [], k => by simp [tens]
  | c :: r, 0 => by simp [tens]
  | c :: r, k + 1 => by
    have := tens_split r k
    rw [List.take_succ_cons, List.drop_succ_cons, tens, tens]; omega

/-! ### A line more -/
def up (x : Tok) : Tok := { x with line := x.line + 1 }
def upR (R : List Tok × Nat × Nat) : List Tok × Nat × Nat := (R.1.map up, R.2.1, if R.2.1 = 0 then R.2.2 else R.2.2 + 1)
theorem tokF_up : ∀ (f line : Nat) (l : List UInt8) (acc : List Tok), tokF f (line + 1) l (acc.map up) = upR (tokF f line l acc)
  | 0, _, _, _ => rfl
  | f + 1, line, l, acc => by
    rw [tokF, tokF]
    split
    · simp only [upR, List.map_append, List.map_cons, List.map_nil, up, if_true]
      rw [Nat.add_right_comm]
    · split
      · simp only [upR, List.map_nil]
        rw [if_neg (by decide), Nat.add_right_comm]
      · rw [← tokF_up f]
        congr 1; omega
      · split
        · rw [← tokF_up f]
          simp only [List.map_append, List.map_cons, List.map_nil, up]
          rw [Nat.add_right_comm line 1, Nat.add_right_comm _ 1]
        · rename_i he
          simp only [upR, List.map_nil]
          rw [if_neg he, Nat.add_right_comm]
theorem rest_less {l : List UInt8} {k : Nat} (h : l.drop (blanks l) ≠ []) (hk : 1 ≤ k) : ((l.drop (blanks l)).drop k).length < l.length := by
  have h1 : (l.drop (blanks l)).length ≠ 0 := fun g => h (List.eq_nil_of_length_eq_zero g)
  rw [List.length_drop] at h1
  rw [List.length_drop, List.length_drop]; omega
def tokStep (g : Nat → List UInt8 → List Tok → List Tok × Nat × Nat) (line : Nat) (l : List UInt8) (acc : List Tok) : List Tok × Nat × Nat :=
  if l.drop (blanks l) = [] then (acc ++ [⟨6, ⟨#[]⟩, 0, line + linesOf (l.take (blanks l))⟩], 0, 0)
  else match noteL (l.drop (blanks l)) with
    | some 0 => ([], 30, line + linesOf (l.take (blanks l)))
    | some (k + 1) => g (line + linesOf (l.take (blanks l)) + linesOf ((l.drop (blanks l)).take (k + 1))) ((l.drop (blanks l)).drop (k + 1)) acc
    | none =>
      if (oneL (l.drop (blanks l))).e = 0 then
        g (line + linesOf (l.take (blanks l)) + linesOf ((l.drop (blanks l)).take (oneL (l.drop (blanks l))).len)) ((l.drop (blanks l)).drop (oneL (l.drop (blanks l))).len)
          (acc ++ [⟨(oneL (l.drop (blanks l))).k, (oneL (l.drop (blanks l))).s, (oneL (l.drop (blanks l))).n, line + linesOf (l.take (blanks l))⟩])
      else ([], (oneL (l.drop (blanks l))).e, line + linesOf (l.take (blanks l)))
theorem tokF_succ (f line : Nat) (l : List UInt8) (acc : List Tok) : tokF (f + 1) line l acc = tokStep (tokF f) line l acc := rfl
theorem tokF_more : ∀ (f line : Nat) (l : List UInt8) (acc : List Tok), l.length < f → tokF (f + 1) line l acc = tokF f line l acc
  | 0, _, _, _, h => absurd h (Nat.not_lt_zero _)
  | f + 1, line, l, acc, h => by
    rw [tokF_succ (f + 1), tokF_succ f]
    unfold tokStep
    split
    · rfl
    · rename_i hne
      split
      · rfl
      · rename_i k _
        rw [tokF_more f]
        exact Nat.lt_of_lt_of_le (rest_less hne (k := k + 1) (Nat.succ_le_succ (Nat.zero_le _))) (Nat.le_of_lt_succ h)
      · split
        · rename_i he
          rw [tokF_more f]
          exact Nat.lt_of_lt_of_le (rest_less hne (one_len he).1) (Nat.le_of_lt_succ h)
        · rfl
theorem blanks_ten (l : List UInt8) : blanks (10 :: l) = blanks l + 1 := rfl
theorem tokF_head (f line : Nat) (l : List UInt8) (acc : List Tok) (h : No13 l) : tokF (f + 1) line (10 :: l) acc = tokF (f + 1) (line + 1) l acc := by
  have h1 : linesOf ((10 :: l).take (blanks (10 :: l))) = linesOf (l.take (blanks l)) + 1 := by
    rw [blanks_ten, List.take_succ_cons, lines_tens (h.take _), lines_tens (l := 10 :: l.take (blanks l)) (fun c hc => by
      rcases List.mem_cons.1 hc with rfl | hc
      · decide
      · exact h.take _ c hc), tens, if_pos (by decide)]; omega
  have h2 : (10 :: l).drop (blanks (10 :: l)) = l.drop (blanks l) := rfl
  rw [tokF, tokF, h1, h2, show line + (linesOf (l.take (blanks l)) + 1) = line + 1 + linesOf (l.take (blanks l)) from by omega]
theorem tokens_up (l : List UInt8) (h : No13 l) (hl : l.length ≤ 60000) : tokensL (10 :: l) = upR (tokensL l) := by
  rw [tokensL, if_neg (by simp only [List.length_cons]; omega), tokensL, if_neg (by omega), List.length_cons, tokF_head _ _ _ _ h, tokF_more _ _ _ _ (by omega)]
  exact tokF_up _ 1 l []

/-! ### Lines rise -/
def lastL (l : List Tok) : Nat := match l.getLast? with
  | none => 1
  | some t => t.line
def Rises (l : List Tok) : Prop := ∀ (i : Nat) (h : i < l.length), lastL (l.take i) ≤ l[i].line
theorem lastL_snoc (l : List Tok) (t : Tok) : lastL (l ++ [t]) = t.line := by
  unfold lastL; rw [List.getLast?_append]; simp
theorem Rises.snoc {l : List Tok} {t : Tok} (h : Rises l) (ht : lastL l ≤ t.line) : Rises (l ++ [t]) := by
  intro i hi
  by_cases hil : i < l.length
  · rw [List.getElem_append_left hil, List.take_append_of_le_length (Nat.le_of_lt hil)]
    exact h i hil
  · rw [List.length_append, List.length_singleton] at hi
    obtain rfl : i = l.length := by omega
    rw [List.getElem_append_right (Nat.le_refl _), List.take_append_of_le_length (Nat.le_refl _), List.take_length]
    simpa using ht
theorem lastL_take (l : List Tok) (i : Nat) (h : i < l.length) : lastL (l.take (i + 1)) = l[i].line := by
  rw [List.take_succ_eq_append_getElem h, lastL_snoc]
def Ends (l : List Tok) (n : Nat) : Prop := Rises l ∧ lastL l = n ∧ ∃ pre t, l = pre ++ [t] ∧ t.k = 6
theorem tokF_lines : ∀ (f line : Nat) (l : List UInt8) (acc : List Tok), l.length < f → No13 l → Rises acc → lastL acc ≤ line →
    ((tokF f line l acc).2.1 ≠ 0 ∧ (tokF f line l acc).1 = []) ∨ ((tokF f line l acc).2.1 = 0 ∧ Ends (tokF f line l acc).1 (line + tens l))
  | 0, _, _, _, h, _, _, _ => absurd h (Nat.not_lt_zero _)
  | f + 1, line, l, acc, h, h13, hr, ha => by
    have hs := tens_split l (blanks l)
    have hl := lines_tens (h13.take (blanks l))
    rw [tokF]
    split
    · rename_i hnil
      right
      refine ⟨rfl, hr.snoc (by show lastL acc ≤ line + _; omega), ?_, acc, _, rfl, rfl⟩
      rw [lastL_snoc]
      show line + _ = _
      rw [hnil] at hs
      rw [hl, ← hs]; rfl
    · rename_i hne
      have hd := h13.drop (blanks l)
      split
      · exact .inl ⟨by show (30 : Nat) ≠ 0; decide, rfl⟩
      · rename_i k hk
        have hs2 := tens_split (l.drop (blanks l)) (k + 1)
        have hl2 := lines_tens (hd.take (k + 1))
        have hlt := rest_less hne (k := k + 1) (by omega)
        have := tokF_lines f (line + linesOf (l.take (blanks l)) + linesOf ((l.drop (blanks l)).take (k + 1))) ((l.drop (blanks l)).drop (k + 1)) acc (by omega) (hd.drop _) hr (by omega)
        rwa [show line + linesOf (l.take (blanks l)) + linesOf ((l.drop (blanks l)).take (k + 1)) + tens ((l.drop (blanks l)).drop (k + 1)) = line + tens l from by omega] at this
      · split
        · rename_i he
          have h1 := (one_len he).1
          generalize oneL (l.drop (blanks l)) = O at *
          have hs2 := tens_split (l.drop (blanks l)) O.len
          have hl2 := lines_tens (hd.take O.len)
          have hlt := rest_less hne h1
          have := tokF_lines f (line + linesOf (l.take (blanks l)) + linesOf ((l.drop (blanks l)).take O.len)) ((l.drop (blanks l)).drop O.len) (acc ++ [⟨O.k, O.s, O.n, line + linesOf (l.take (blanks l))⟩]) (by omega) (hd.drop _)
            (hr.snoc (by show lastL acc ≤ line + _; omega)) (by rw [lastL_snoc]; show line + _ ≤ _; omega)
          rwa [show line + linesOf (l.take (blanks l)) + linesOf ((l.drop (blanks l)).take O.len) + tens ((l.drop (blanks l)).drop O.len) = line + tens l from by omega] at this
        · rename_i he
          exact .inl ⟨he, rfl⟩
theorem tokens_lines (l : List UInt8) (h : No13 l) (hl : l.length ≤ 60000) :
    ((tokensL l).2.1 ≠ 0 ∧ (tokensL l).1 = []) ∨ ((tokensL l).2.1 = 0 ∧ Ends (tokensL l).1 (1 + tens l)) := by
  rw [tokensL, if_neg (by omega)]
  exact tokF_lines _ 1 l [] (by omega) h (fun i hi => absurd hi (Nat.not_lt_zero _)) (by show (1 : Nat) ≤ 1; omega)

end Go.Proofs.YtajeghkmgcpgiaaGreatDoor.Lex
