/-
  Many bytes x: one name.
-/
import Derived.Test.YtajeghkmgcpgiaaGreatDoorLexTexts
namespace Go.Proofs.YtajeghkmgcpgiaaGreatDoor.Lex
open Go.RowKit

theorem nameRun_xs : ∀ n : Nat, nameRun (List.replicate n (120 : UInt8)) = n
  | 0 => rfl
  | n + 1 => by
    rw [List.replicate_succ, nameRun, if_pos (by decide), nameRun_xs n]
theorem blanks_xs : ∀ n : Nat, blanks (List.replicate n (120 : UInt8)) = 0
  | 0 => rfl
  | n + 1 => by rw [List.replicate_succ, blanks, if_neg (by decide)]
theorem linesF_xs : ∀ n p : Nat, linesF p (List.replicate n (120 : UInt8)) = 0
  | 0, p => rfl
  | n + 1, p => by rw [List.replicate_succ, linesF, if_neg (by decide), linesF_xs n]
theorem note_xs (n : Nat) : noteL (List.replicate n (120 : UInt8)) = none := by
  unfold noteL
  rw [if_neg]
  cases n with
  | zero => decide
  | succ n => rw [List.replicate_succ]; simp
theorem tokens_xs (n : Nat) (h1 : 1 ≤ n) (h2 : n ≤ 65535) : ∃ t : Tok, tokensL (List.replicate n (120 : UInt8)) = ([t, ⟨6, ⟨#[]⟩, 0, 1⟩], 0, 0) := by
  obtain ⟨m, rfl⟩ : ∃ m, n = m + 1 := ⟨n - 1, by omega⟩
  have hh : letterB (hd (List.replicate (m + 1) (120 : UInt8))) = true := by rw [List.replicate_succ]; show letterB 120 = true; decide
  have hne : List.replicate (m + 1) (120 : UInt8) ≠ [] := by rw [List.replicate_succ]; exact List.cons_ne_nil _ _
  have hL : (oneL (List.replicate (m + 1) (120 : UInt8))).len = m + 1 := by
    rw [oneL, if_pos hh]
    dsimp only
    rw [nameL, if_pos hh, nameRun_xs]
  have hE : (oneL (List.replicate (m + 1) (120 : UInt8))).e = 0 := by rw [oneL, if_pos hh]
  rw [tokensL, if_neg (by rw [List.length_replicate]; omega), List.length_replicate, tokF, blanks_xs, List.drop_zero, if_neg hne, note_xs]
  simp only []
  rw [if_pos hE, hL, List.drop_of_length_le (by rw [List.length_replicate]; exact Nat.le_refl _), tokF]
  have hLn : linesOf (List.replicate (m + 1) (120 : UInt8)) = 0 := linesF_xs _ _
  rw [if_pos (by rfl)]
  have hT : (List.replicate (m + 1) (120 : UInt8)).take (m + 1) = List.replicate (m + 1) 120 := List.take_of_length_le (by rw [List.length_replicate]; exact Nat.le_refl _)
  rw [hT, hLn]
  exact ⟨_, rfl⟩

end Go.Proofs.YtajeghkmgcpgiaaGreatDoor.Lex
