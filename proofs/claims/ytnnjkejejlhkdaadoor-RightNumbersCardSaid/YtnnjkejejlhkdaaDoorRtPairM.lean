/-
  Layer 9: the examples' programs, as data: which of them are right.
-/
import Derived.Test.YtnnjkejejlhkdaaDoorRtMath
namespace Go.Proofs.YtnnjkejejlhkdaaDoor.Rt

def xP : Pr := ⟨0, true, 2, [true, false], [], [⟨9, [1], [], [0], -1, 0, 1⟩], [⟨7, 1, []⟩], 0⟩
def yP : Pr := ⟨1, false, 1, [false], [⟨true, 0⟩], [⟨10, [], [], [0], -1, 0, 1⟩], [⟨9, 0, []⟩], 0⟩
def pairP : Pg := ⟨[], [xP, yP]⟩
/-- The pair, spoilt in one of twenty ways. -/
def spoiltP : Nat → Pg
  | 0 => ⟨[], [{ xP with boxed := [false, false] }, yP]⟩
  | 1 => ⟨[], [xP, { yP with ups := [⟨true, 2⟩] }]⟩
  | 2 => ⟨[], [xP, { yP with ups := [⟨false, 0⟩] }]⟩
  | 3 => ⟨[], [{ xP with exprs := [⟨7, 0, []⟩] }, yP]⟩
  | 4 => ⟨[], [{ xP with exprs := [⟨7, 1, []⟩, ⟨7, 1, []⟩] }, yP]⟩
  | 5 => ⟨[], [xP, { yP with params := 2 }]⟩
  | 6 => ⟨[], [{ xP with params := 1 }, yP]⟩
  | 7 => ⟨[], [{ xP with more := false }, yP]⟩
  | 8 => ⟨[⟨#[97]⟩, ⟨#[97]⟩], [xP, yP]⟩
  | 9 => ⟨[], [xP, { yP with start := -1 }]⟩
  | 10 => ⟨[], [xP, { yP with stmts := [⟨10, [], [], [0], 0, 0, 1⟩] }]⟩
  | 11 => ⟨[], [xP, { yP with exprs := [⟨6, 0, []⟩] }]⟩
  | 12 => ⟨[], [xP, { yP with exprs := [⟨9, 1, []⟩] }]⟩
  | 13 => ⟨[], [xP, { yP with exprs := [⟨9, 0, []⟩, ⟨9, 0, []⟩, ⟨14, 18, [0, 1]⟩], stmts := [⟨10, [], [], [2], -1, 0, 1⟩] }]⟩
  | 14 => ⟨[], [{ xP with stmts := [⟨9, [1], [], [0], -1, -1, 1⟩] }, yP]⟩
  | 15 => ⟨[], [{ xP with exprs := [⟨1, 0, []⟩], stmts := [⟨1, [1], [], [0], -1, 0, 1⟩] }, { yP with exprs := [⟨7, 1, []⟩], ups := [] }]⟩
  | 16 => ⟨[], [{ xP with exprs := [⟨7, 1, []⟩, ⟨7, 1, []⟩], stmts := [⟨10, [], [], [0, 1], -1, 0, 1⟩] }, yP]⟩
  | 17 => ⟨[], [xP, { yP with exprs := [], stmts := [], start := 0 }]⟩
  | 18 => ⟨[], [xP, { yP with stmts := [⟨3, [], [], [0], -1, 0, 1⟩] }]⟩
  | _ => ⟨[], [xP, { yP with exprs := [⟨17, 18, [1]⟩, ⟨9, 0, []⟩] }]⟩
theorem pair_good : rightB pairP = true := by decide +kernel
theorem spoilt_bad : ∀ i, i < 20 → rightB (spoiltP i) = false := by decide +kernel

def loopP (s0 : Int) : Pg :=
  ⟨[⟨#[121]⟩], [⟨0, true, 4, [false, false, false, false], [], [⟨5, [s0], [], [0, 1, 4], 1, 0, 1⟩, ⟨6, [0, 3], [], [], 1, -1, 1⟩], [⟨4, 1, []⟩, ⟨8, 0, []⟩, ⟨8, 0, []⟩, ⟨10, 0, []⟩, ⟨14, 1, [2, 3]⟩], 0⟩]⟩
theorem loop_good : rightB (loopP 0) = true := by decide +kernel
theorem late_bad : rightB (loopP 2) = false := by decide +kernel
theorem bare_good : rightB ⟨[], [⟨0, true, 0, [], [], [], [], -1⟩]⟩ = true := by decide +kernel
theorem empty_bad : rightB ⟨[], []⟩ = false := by decide +kernel

end Go.Proofs.YtnnjkejejlhkdaaDoor.Rt
