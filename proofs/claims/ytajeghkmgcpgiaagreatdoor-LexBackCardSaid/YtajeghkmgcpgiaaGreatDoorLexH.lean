/-
  twinstepref04.one, whole; a text's tokens, as a function of its bytes.
-/
import Derived.Test.YtajeghkmgcpgiaaGreatDoorLexG2
namespace Go.Proofs.YtajeghkmgcpgiaaGreatDoor.Lex
open Go.RowKit

theorem ref_one (s : ByteArray) (i : Nat) (w : World) (hs : s.size ≤ 100000000) (hi : i < s.size) :
    Calls Tryz.prog 28 #[.string s, .int .i64 i] w (OneSays (oneL (s.data.toList.drop i)) w) := by
  cases hn : letterB (hd (s.data.toList.drop i))
  · by_cases hm : numL (s.data.toList.drop i) = 0
    · cases hl : longL (s.data.toList.drop i) with
      | none =>
        by_cases h34 : byteAt s i = 34
        · exact ref_one_q34 s i w hs hi hn hm hl h34
        · by_cases h39 : byteAt s i = 39
          · exact ref_one_q39 s i w hs hi hn hm hl h39
          · cases hp : startsAt s ⟨#[91, 61]⟩ i
            · exact ref_one_sign s i w hs hi hn hm hl (by omega) hp
            · exact ref_one_bad s i w hs hi hn hm hl (by omega) hp
      | some x =>
        cases x with
        | none => exact ref_one_open s i w hs hi hn hm hl
        | some x => exact ref_one_long s i w hs hi hn hm x.1 x.2 hl
    · exact ref_one_num s i w hs hi hn hm
  · exact ref_one_name s i w hs hi hn

/-! ### How far a token goes -/
theorem best_prefix (l : List UInt8) : ∀ (ts : List ByteArray) (b : ByteArray), b.data.toList.isPrefixOf l = true → (bestL l ts b).data.toList.isPrefixOf l = true
  | [], b, h => h
  | t :: ts, b, h => by
    rw [bestL]
    refine best_prefix l ts _ ?_
    split
    · rename_i hc
      exact ((Bool.and_eq_true _ _).mp hc).1
    · exact h
theorem sign_len (l : List UInt8) : (signT l).size ≤ l.length := by
  have h := best_prefix l signsT ⟨#[]⟩ (by cases l <;> rfl)
  exact prefix_le h
theorem one_len {l : List UInt8} (he : (oneL l).e = 0) : 1 ≤ (oneL l).len ∧ (oneL l).len ≤ l.length := by
  unfold oneL at he ⊢
  split at he
  · rename_i h
    rw [if_pos h]
    refine ⟨?_, ?_⟩
    · show 1 ≤ nameL l
      cases l with
      | nil => cases h
      | cons c r =>
        rw [nameL, if_pos h, nameRun, if_pos (by rw [show letterB c.toNat = true from h]; rfl)]; omega
    · show nameL l ≤ l.length
      rw [nameL, if_pos h]
      exact name_le l
  · rename_i h
    rw [if_neg h]
    split at he
    · rename_i hm
      rw [if_pos hm]
      exact ⟨Nat.pos_of_ne_zero hm, numL_le l⟩
    · rename_i hm
      rw [if_neg hm]
      cases hl : longL l with
      | none =>
        rw [hl] at he
        simp only [] at he ⊢
        split at he
        · rename_i hq
          rw [if_pos hq]
          have hle := quoteN_le (hd l) (l.drop 1)
          refine ⟨?_, ?_⟩
          · refine Nat.pos_of_ne_zero fun h0 => ?_
            have h0' : quoteN (hd l) (l.drop 1) = 0 := h0
            have he' : (unqE (quoteT' l)).toNat = 0 := he
            rw [quoteT', h0', List.take_zero] at he'
            exact absurd he' (by decide)
          · show quoteN (hd l) (l.drop 1) ≤ l.length
            cases l with
            | nil => simp [hd] at hq
            | cons c r => rw [List.drop_one, List.tail_cons] at hle ⊢; simpa using hle
        · rename_i hq
          rw [if_neg hq]
          split at he
          · cases he
          · rename_i hp
            rw [if_neg hp]
            unfold signO at he ⊢
            split at he
            · split at he <;> cases he
            · rename_i hz
              rw [if_neg hz]
              exact ⟨Nat.pos_of_ne_zero hz, sign_len l⟩
      | some x =>
        rw [hl] at he
        cases x with
        | none => cases he
        | some x =>
          have h1 := long_pos (l := l) (t := x.1) (n := x.2) hl
          have h2 := long_le (l := l) (t := x.1) (n := x.2) hl
          exact ⟨by show 1 ≤ x.2; omega, h2⟩
theorem lineRun_le : ∀ l : List UInt8, lineRun l ≤ l.length
  | [] => Nat.le_refl 0
  | c :: r => by
    have := lineRun_le r
    rw [lineRun]
    split
    · exact Nat.zero_le _
    · simp only [List.length_cons]; omega
theorem note_len {l : List UInt8} {k : Nat} (h : noteL l = some k) : k ≤ l.length := by
  unfold noteL at h
  split at h
  · rename_i hp
    have h2 := prefix_le hp
    have hl2 : 2 ≤ l.length := h2
    split at h
    · rename_i n hl
      injection h with h
      have := long_le hl
      rw [List.length_drop] at this
      omega
    · injection h with h; omega
    · injection h with h
      subst h
      exact lineRun_le l
  · cases h

/-! ### A text's tokens -/
structure Tok where
  k : Nat
  s : ByteArray
  n : Int
  line : Nat
/-- Behind the tokens acc, from a line on: the tokens, the fault, its line. -/
def tokF : Nat → Nat → List UInt8 → List Tok → List Tok × Nat × Nat
  | 0, _, _, _ => ([], 0, 0)
  | f + 1, line, l, acc =>
    if l.drop (blanks l) = [] then (acc ++ [⟨6, ⟨#[]⟩, 0, line + linesOf (l.take (blanks l))⟩], 0, 0)
    else match noteL (l.drop (blanks l)) with
      | some 0 => ([], 30, line + linesOf (l.take (blanks l)))
      | some (k + 1) => tokF f (line + linesOf (l.take (blanks l)) + linesOf ((l.drop (blanks l)).take (k + 1))) ((l.drop (blanks l)).drop (k + 1)) acc
      | none =>
        if (oneL (l.drop (blanks l))).e = 0 then
          tokF f (line + linesOf (l.take (blanks l)) + linesOf ((l.drop (blanks l)).take (oneL (l.drop (blanks l))).len)) ((l.drop (blanks l)).drop (oneL (l.drop (blanks l))).len)
            (acc ++ [⟨(oneL (l.drop (blanks l))).k, (oneL (l.drop (blanks l))).s, (oneL (l.drop (blanks l))).n, line + linesOf (l.take (blanks l))⟩])
        else ([], (oneL (l.drop (blanks l))).e, line + linesOf (l.take (blanks l)))
def tokensL (l : List UInt8) : List Tok × Nat × Nat := if 65535 < l.length then ([], 3, 0) else tokF (l.length + 1) 1 l []

end Go.Proofs.YtajeghkmgcpgiaaGreatDoor.Lex
