/-
  What a text's tokens are, as a function of its bytes: nothing of the program.
-/
import Derived.Test.YtajeghkmgcpgiaaGreatDoorTextsF
import Derived.Test.YtajeghkmgcpgiaaGreatDoorTextsHm
namespace Go.Proofs.YtajeghkmgcpgiaaGreatDoor.Lex
open Go.RowKit

/-! ### Bytes -/
def letterB (b : Nat) : Bool := decide (65 ≤ b ∧ b ≤ 90 ∨ 97 ≤ b ∧ b ≤ 122 ∨ b = 95)
def lfB (b : Nat) : Bool := decide (b = 10 ∨ b = 13)
/-- The byte at the head; 0: none. -/
def hd : List UInt8 → Nat
  | [] => 0
  | c :: _ => c.toNat

/-! ### Line's ends -/
/-- How many bytes of a line's end stand at the head. -/
def endK : List UInt8 → Nat
  | [] => 0
  | c :: r => if lfB c.toNat = true then (if startsWith (23 - c.toNat) r = true then 2 else 1) else 0
/-- How many line's ends; p: the byte ahead, if a line's end of two bytes may go on. -/
def linesF : Nat → List UInt8 → Nat
  | _, [] => 0
  | p, c :: r => if lfB c.toNat = true then (if p + c.toNat = 23 then linesF 0 r else linesF c.toNat r + 1) else linesF 0 r
def linesOf (l : List UInt8) : Nat := linesF 0 l

/-! ### Long brackets -/
def eqsL : List UInt8 → Nat
  | [] => 0
  | c :: r => if c.toNat = 61 then eqsL r + 1 else 0
/-- What stands up to the closing bracket; how many bytes with it. -/
def bodyL (cl : List UInt8) : Bool → Nat → List UInt8 → Option (List UInt8 × Nat)
  | _, _, [] => none
  | first, p, c :: r =>
    if cl.isPrefixOf (c :: r) = true then some ([], cl.length)
    else if lfB c.toNat = true then
      (if p + c.toNat = 23 then (bodyL cl false 0 r).map fun x => (x.1, x.2 + 1)
      else (bodyL cl false c.toNat r).map fun x => (if first then x.1 else 10 :: x.1, x.2 + 1))
    else (bodyL cl false 0 r).map fun x => (c :: x.1, x.2 + 1)
/-- none: no long bracket; none within: it has no end. -/
def longL : List UInt8 → Option (Option (List UInt8 × Nat))
  | [] => none
  | c :: r => if c.toNat = 91 ∧ hd (r.drop (eqsL r)) = 91 then some ((bodyL (closeL (eqsL r)) true 0 (r.drop (eqsL r + 1))).map fun x => (x.1, x.2 + (eqsL r + 2))) else none

/-! ### Numerals -/
def hexP (l : List UInt8) : Bool := decide (hd l = 48) && decide (hd (l.drop 1) = 120 ∨ hd (l.drop 1) = 88)
def power (hex : Bool) (b : Nat) : Bool := if hex then decide (b = 112 ∨ b = 80) else decide (b = 101 ∨ b = 69)
def numC (hex : Bool) (last b : Nat) : Bool := digitB b || letterB b || decide (b = 46) || (power hex last && decide (b = 43 ∨ b = 45))
def numRun (hex : Bool) : Nat → List UInt8 → Nat
  | _, [] => 0
  | last, c :: r => if numC hex last c.toNat = true then numRun hex c.toNat r + 1 else 0
def numL (l : List UInt8) : Nat := if (digitB (hd l) || (decide (hd l = 46) && digitB (hd (l.drop 1)))) = true then numRun (hexP l) 0 l else 0

/-! ### Short literals -/
/-- How many bytes up to the closing quote, with it; st: 0, or 92 behind a backslash, a line's end's byte behind that, 122 behind z. -/
def quoteK (q : Nat) : Nat → List UInt8 → Option Nat
  | _, [] => none
  | st, c :: r =>
    if st = 92 then (if lfB c.toNat = true then (quoteK q c.toNat r).map (· + 1) else if c.toNat = 122 then (quoteK q 122 r).map (· + 1) else (quoteK q 0 r).map (· + 1))
    else if lfB st = true ∧ st + c.toNat = 23 then (quoteK q 0 r).map (· + 1)
    else if st = 122 ∧ spaceB c.toNat = true then (quoteK q 122 r).map (· + 1)
    else if c.toNat = q then some 1
    else if lfB c.toNat = true then none
    else if c.toNat = 92 then (quoteK q 92 r).map (· + 1)
    else (quoteK q 0 r).map (· + 1)

/-! ### Names, signs, notes -/
def nameRun : List UInt8 → Nat
  | [] => 0
  | c :: r => if (letterB c.toNat || digitB c.toNat) = true then nameRun r + 1 else 0
def nameL (l : List UInt8) : Nat := if letterB (hd l) = true then nameRun l else 0
def lineRun : List UInt8 → Nat
  | [] => 0
  | c :: r => if lfB c.toNat = true then 0 else lineRun r + 1

end Go.Proofs.YtajeghkmgcpgiaaGreatDoor.Lex
