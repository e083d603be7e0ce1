/-
  Layer 5: what the developers' code asks of a node, as functions.
-/
import Derived.Test.YtmddffacjkkeiaaNdRow
namespace Go.Proofs.Ytmddffacjkkeiaa.Nd

def areB (ks : List Nat) (lo hi : Int) (p : Nat → Bool) : Bool := decide (0 ≤ lo ∧ lo ≤ hi ∧ hi ≤ ks.length) && ((ks.drop lo.toNat).take (hi.toNat - lo.toNat)).all p
def listB (ks : List Nat) (lo hi least : Int) : Bool := decide (least ≤ hi - lo ∧ hi - lo ≤ 200) && areB ks lo hi exprK
def rowL : List Nat → List (Nat → Bool) → Bool
  | [], [] => true
  | k :: ks, p :: ps => p k && rowL ks ps
  | _, _ => false
def isB (these : List Nat) (k : Nat) : Bool := these.contains k
def blockP : Nat → Bool := isB [1]
def prefP : Nat → Bool := isB [27, 28, 29, 30, 38]
/-- Pairs of an expression and a block: of what is left behind the first pairs. -/
def pairsGo : Nat → List Nat → Bool
  | 0, _ => true
  | n + 1, ks => rowL (ks.take 2) [exprK, blockP] && pairsGo n (ks.drop 2)
def pairsB (ks : List Nat) : Bool := pairsGo (ks.length / 2) ks && (decide (0 < ks.length / 2 * 2) && areB ks (ks.length / 2 * 2 : Nat) ks.length blockP)
def statKidsB (k : Nat) (n : Int) (ks : List Nat) : Bool :=
  match k with
  | 2 => listB ks 0 ks.length 0
  | 12 => listB ks 0 ks.length 0
  | 3 => areB ks 0 n (isB [27, 28]) && listB ks n ks.length 1
  | 4 => rowL ks [isB [29, 30]]
  | 5 => rowL ks [blockP]
  | 6 => rowL ks [exprK, blockP]
  | 7 => rowL ks [blockP, exprK]
  | 8 => pairsB ks
  | 9 => rowL ks [exprK, exprK, blockP] || rowL ks [exprK, exprK, exprK, blockP]
  | 10 => listB ks 0 (ks.length - 1) 1 && areB ks (ks.length - 1) ks.length blockP
  | 11 => rowL ks [isB [26]]
  | _ => rowL ks []
def kidsB (k : Nat) (n : Int) (ks : List Nat) : Bool :=
  if statK k then statKidsB k n ks else
  match k with
  | 1 => areB ks 0 ks.length statK && !isB (ks.take (ks.length - 1)) 12
  | 20 => rowL ks []
  | 21 => rowL ks []
  | 22 => rowL ks []
  | 25 => rowL ks []
  | 27 => rowL ks []
  | 23 => rowL ks []
  | 24 => rowL ks []
  | 26 => rowL ks [blockP]
  | 28 => rowL ks [prefP, exprK]
  | 29 => areB ks 0 1 prefP && listB ks 1 ks.length 0
  | 30 => areB ks 0 1 prefP && listB ks 1 ks.length 0
  | 31 => rowL ks [exprK, exprK]
  | 32 => rowL ks [exprK, exprK]
  | 33 => rowL ks [exprK, exprK]
  | 37 => rowL ks [exprK, exprK]
  | 34 => rowL ks [exprK]
  | 36 => rowL ks [exprK]
  | 38 => rowL ks [exprK]
  | 35 => areB ks 0 ks.length (isB [36, 37])
  | _ => false
def cntB (k : Nat) : Nat × Nat :=
  match k with
  | 2 => (1, 200)
  | 10 => (1, 200)
  | 9 => (1, 1)
  | 11 => (1, 1)
  | 26 => (0, 200)
  | _ => (0, 0)
/-- Is s a name, if nm says so of all that is no empty text? -/
def nameB (nm : ByteArray → Bool) (k : Nat) (s : ByteArray) : Bool :=
  match k with
  | 14 => nm s
  | 15 => nm s
  | 27 => nm s
  | 30 => nm s
  | 24 => decide (s.size ≤ 65535)
  | _ => decide (s.toList = [])
def numB (k : Nat) (n : Int) : Bool :=
  match k with
  | 23 => true
  | 3 => decide (1 ≤ n ∧ n ≤ 200)
  | 26 => decide (0 ≤ n ∧ n ≤ 1)
  | 31 => decide (1 ≤ n ∧ n ≤ 17)
  | 34 => decide (18 ≤ n ∧ n ≤ 21)
  | _ => decide (n = 0)
def ownB (nm : ByteArray → Bool) (n : Nd) : Bool :=
  decide ((cntB n.k).1 ≤ n.names.length ∧ n.names.length ≤ (cntB n.k).2) && n.names.all nm && (nameB nm n.k n.name && numB n.k n.n)
def opD (n : Int) : Nat := if n = 7 then 4 else if n = 8 then 5 else if n = 6 then 6 else if n = 9 ∨ n = 10 then 7 else if n = 11 then 8 else if n = 1 ∨ n = 2 then 9 else if n = 3 ∨ n = 4 ∨ n = 5 then 10 else 3
def bindD (k : Nat) (n : Int) : Nat := if k = 33 then 1 else if k = 32 then 2 else if k = 31 then opD (n % 256) else if k = 34 then 11 else 12
def kb (ks : List (Nat × Int)) (i : Nat) : Nat := bindD (ks.getD i (0, 0)).1 (ks.getD i (0, 0)).2
def fitsD (n : Nd) (ks : List (Nat × Int)) : Bool :=
  if n.k = 34 then decide (bindD n.k n.n ≤ kb ks 0)
  else if n.k = 31 ∨ n.k = 32 ∨ n.k = 33 then
    (if n.k = 31 ∧ n.n = 11 then decide (bindD n.k n.n < kb ks 0 ∧ bindD n.k n.n ≤ kb ks 1) else decide (bindD n.k n.n ≤ kb ks 0 ∧ bindD n.k n.n < kb ks 1))
  else true
def rowD (nm : ByteArray → Bool) : Row := fun n ks => decide (1 ≤ n.line) && ownB nm n && kidsB n.k n.n (ks.map (·.1)) && fitsD n ks

theorem rowD_line {nm : ByteArray → Bool} {n : Nd} {ks : List (Nat × Int)} {x : Int} (hx : 1 ≤ x) (h : rowD nm n ks = true) : rowD nm { n with line := x } ks = true := by
  unfold rowD at *
  rw [Bool.and_eq_true, Bool.and_eq_true, Bool.and_eq_true] at *
  exact ⟨⟨⟨decide_eq_true hx, h.1.1.2⟩, h.1.2⟩, h.2⟩
/-- Lines alone are new, each at least one: right as before. -/
theorem rightD_lineN {nm : ByteArray → Bool} {l m : List Nd} {r : Int} (hl : NoLine l m) (hm : ∀ i, inR l i → 1 ≤ (at' m i).line) (H : RightP (rowD nm) l r) : RightP (rowD nm) m r := by
  refine right_lines hl (fun i hi ks hk => ?_) H
  obtain ⟨a1, a2, a3, a4, _⟩ := hl.2 i hi
  have := rowD_line (hm i hi) hk
  have e : Nd.bare (at' m i) = { Nd.bare (at' l i) with line := (at' m i).line } := by
    unfold Nd.bare
    rw [a1, a2, a3, a4]
  rw [e]
  exact this

end Go.Proofs.Ytmddffacjkkeiaa.Nd
