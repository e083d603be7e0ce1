/-
  Layer 5: the chapter's table: what a node may have, and whether operands fit.
-/
import Derived.Test.YtmddffacjkkeiaaNdMath
namespace Go.Proofs.Ytmddffacjkkeiaa.Nd

def statK (k : Nat) : Bool := decide (2 ≤ k ∧ k ≤ 15)
def exprK (k : Nat) : Bool := decide (20 ≤ k ∧ k ≤ 35 ∨ k = 38)
def aheadK (k : Nat) : Bool := decide (k = 27 ∨ k = 28 ∨ k = 29 ∨ k = 30 ∨ k = 38)
def exprsB (ks : List Nat) (least : Nat) : Bool := ks.all exprK && decide (least ≤ ks.length ∧ ks.length ≤ 200)
def namesB (nm : ByteArray → Bool) (l : List ByteArray) (least : Nat) : Bool := l.all nm && decide (least ≤ l.length ∧ l.length ≤ 200)
/-- Pairs of an expression and a block, and perhaps a block. -/
def branchesB : List Nat → Bool
  | [] => true
  | [b] => b == 1
  | e :: b :: ks => exprK e && b == 1 && branchesB ks
def shapeB (nm : ByteArray → Bool) (n : Nd) (ks : List Nat) : Bool :=
  match n.k with
  | 1 => ks.all statK && ks.dropLast.all (fun k => k != 12)
  | 2 => namesB nm n.names 1 && exprsB ks 0
  | 3 => decide (1 ≤ n.n ∧ n.n ≤ 200 ∧ n.n ≤ ks.length) && (ks.take n.n.toNat).all (fun k => k == 27 || k == 28) && exprsB (ks.drop n.n.toNat) 1
  | 4 => ks == [29] || ks == [30]
  | 5 => ks == [1]
  | 6 => match ks with | [e, b] => exprK e && b == 1 | _ => false
  | 7 => match ks with | [b, e] => exprK e && b == 1 | _ => false
  | 8 => decide (2 ≤ ks.length) && branchesB ks
  | 9 => decide (n.names.length = 1) && n.names.all nm && (match ks with | [a, b, c] => exprK a && exprK b && c == 1 | [a, b, c, d] => exprK a && exprK b && exprK c && d == 1 | _ => false)
  | 10 => namesB nm n.names 1 && ks.getLast? == some 1 && exprsB ks.dropLast 1
  | 11 => decide (n.names.length = 1) && n.names.all nm && ks == [26]
  | 12 => exprsB ks 0
  | 13 => ks == []
  | 14 => ks == [] && nm n.name
  | 15 => ks == [] && nm n.name
  | 20 => ks == []
  | 21 => ks == []
  | 22 => ks == []
  | 23 => ks == []
  | 24 => ks == [] && decide (n.name.size ≤ 65535)
  | 25 => ks == []
  | 26 => ks == [1] && decide (n.n = 0 ∨ n.n = 1) && namesB nm n.names 0
  | 27 => ks == [] && nm n.name
  | 28 => match ks with | [p, e] => aheadK p && exprK e | _ => false
  | 29 => match ks with | p :: r => aheadK p && exprsB r 0 | [] => false
  | 30 => nm n.name && (match ks with | p :: r => aheadK p && exprsB r 0 | [] => false)
  | 31 => decide (1 ≤ n.n ∧ n.n ≤ 17) && (match ks with | [a, b] => exprK a && exprK b | _ => false)
  | 32 => match ks with | [a, b] => exprK a && exprK b | _ => false
  | 33 => match ks with | [a, b] => exprK a && exprK b | _ => false
  | 34 => decide (18 ≤ n.n ∧ n.n ≤ 21) && (match ks with | [a] => exprK a | _ => false)
  | 35 => ks.all fun k => k == 36 || k == 37
  | 36 => match ks with | [a] => exprK a | _ => false
  | 37 => match ks with | [a, b] => exprK a && exprK b | _ => false
  | 38 => match ks with | [a] => exprK a | _ => false
  | _ => false
def bindB (k : Nat) (n : Int) : Nat :=
  if k = 33 then 1 else if k = 32 then 2 else if k = 34 then 11 else if k ≠ 31 then 12 else
  if 12 ≤ n ∧ n ≤ 17 then 3 else if n = 7 then 4 else if n = 8 then 5 else if n = 6 then 6 else if n = 9 ∨ n = 10 then 7 else if n = 11 then 8 else if n = 1 ∨ n = 2 then 9 else if n = 3 ∨ n = 4 ∨ n = 5 then 10 else 0
def fitsB (n : Nd) (ks : List (Nat × Int)) : Bool :=
  if n.k = 34 then (match ks with | a :: _ => decide (11 ≤ bindB a.1 a.2) | [] => false)
  else if n.k = 31 ∨ n.k = 32 ∨ n.k = 33 then (match ks with
    | a :: b :: _ => if bindB n.k n.n = 8 then decide (8 < bindB a.1 a.2 ∧ 8 ≤ bindB b.1 b.2) else decide (bindB n.k n.n ≤ bindB a.1 a.2 ∧ bindB n.k n.n < bindB b.1 b.2)
    | _ => false)
  else true
def elseB (n : Nd) : Bool :=
  (decide (n.n = 0) || decide (n.k = 3 ∨ n.k = 23 ∨ n.k = 26 ∨ n.k = 31 ∨ n.k = 34)) &&
  (decide (n.name.size = 0) || decide (n.k = 14 ∨ n.k = 15 ∨ n.k = 24 ∨ n.k = 27 ∨ n.k = 30)) &&
  (decide (n.names.length = 0) || decide (n.k = 2 ∨ n.k = 9 ∨ n.k = 10 ∨ n.k = 11 ∨ n.k = 26))
def rowB (nm : ByteArray → Bool) : Row := fun n ks => decide (1 ≤ n.line) && elseB n && shapeB nm n (ks.map (·.1)) && fitsB n ks

theorem row_line {nm : ByteArray → Bool} {n : Nd} {ks : List (Nat × Int)} {x : Int} (hx : 1 ≤ x) (h : rowB nm n ks = true) : rowB nm { n with line := x } ks = true := by
  unfold rowB at *
  rw [Bool.and_eq_true, Bool.and_eq_true, Bool.and_eq_true] at *
  exact ⟨⟨⟨decide_eq_true hx, h.1.1.2⟩, h.1.2⟩, h.2⟩

/-- Lines alone are new, each at least one: right as before. -/
theorem right_lineN {nm : ByteArray → Bool} {l m : List Nd} {r : Int} (hl : NoLine l m) (hm : ∀ i, inR l i → 1 ≤ (at' m i).line) (H : RightP (rowB nm) l r) : RightP (rowB nm) m r := by
  refine right_lines hl (fun i hi ks hk => ?_) H
  obtain ⟨a1, a2, a3, a4, _⟩ := hl.2 i hi
  have := row_line (hm i hi) hk
  have e : Nd.bare (at' m i) = { Nd.bare (at' l i) with line := (at' m i).line } := by
    unfold Nd.bare
    rw [a1, a2, a3, a4]
  rw [e]
  exact this

end Go.Proofs.Ytmddffacjkkeiaa.Nd
