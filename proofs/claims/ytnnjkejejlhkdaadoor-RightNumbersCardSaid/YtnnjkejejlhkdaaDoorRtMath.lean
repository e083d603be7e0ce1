/-
  Layer 9: a program as plain data; which programs may be, told by functions.
-/
namespace Go.Proofs.YtnnjkejejlhkdaaDoor.Rt

structure Ex where
  k : Nat
  n : Int
  kids : List Int
  deriving Inhabited
structure St where
  k : Nat
  slots : List Int
  targets : List Int
  exprs : List Int
  next : Int
  els : Int
  line : Int
  deriving Inhabited
structure Up where
  loc : Bool
  pos : Int
  deriving Inhabited
structure Pr where
  params : Int
  more : Bool
  slots : Int
  boxed : List Bool
  ups : List Up
  stmts : List St
  exprs : List Ex
  start : Int
  deriving Inhabited
structure Pg where
  strs : List ByteArray
  protos : List Pr
  deriving Inhabited

/-- n steps in a row, from 0 on; none when one of them fails. -/
def runN {S : Type} (step : Nat → S → Option S) : Nat → S → Option S
  | 0, s => some s
  | n + 1, s => (runN step n s).bind (step n)
def stepB {α : Type} (so : Nat → α → Bool) (l : List α) (i : Nat) (_ : Unit) : Option Unit :=
  match l[i]? with
  | some x => if so i x then some () else none
  | none => none
def allB {α : Type} (so : Nat → α → Bool) (l : List α) : Bool := (runN (stepB so l) l.length ()).isSome
def spanB (lo hi : Int) (n : Nat) : Bool := decide (lo ≤ n) && decide ((n : Int) ≤ hi)
def areB {α : Type} (lo hi : Int) (so : Nat → α → Bool) (l : List α) : Bool := spanB lo hi l.length && allB so l

theorem runN_none {S : Type} {step : Nat → S → Option S} {k : Nat} {s : S} (h : runN step k s = none) : ∀ n, k ≤ n → runN step n s = none := by
  intro n
  induction n with
  | zero => intro hk; rw [← Nat.le_zero.1 hk]; exact h
  | succ n ih =>
    intro hk
    rcases Nat.lt_or_ge n k with h1 | h1
    · rw [show n + 1 = k from by omega]; exact h
    · show (runN step n s).bind _ = none
      rw [ih h1]; rfl
theorem runN_each {S : Type} {step : Nat → S → Option S} {n : Nat} {s s' : S} (h : runN step n s = some s') : ∀ i, i < n → ∃ a b, runN step i s = some a ∧ step i a = some b ∧ runN step (i + 1) s = some b := by
  intro i hi
  cases h1 : runN step (i + 1) s with
  | none => rw [runN_none h1 n hi] at h; cases h
  | some b =>
    have h2 : (runN step i s).bind (step i) = some b := h1
    cases h3 : runN step i s with
    | none => rw [h3] at h2; cases h2
    | some a => rw [h3] at h2; exact ⟨a, b, rfl, h2, rfl⟩
theorem allB_iff {α : Type} {so : Nat → α → Bool} {l : List α} : allB so l = true ↔ ∀ i (h : i < l.length), so i l[i] = true := by
  constructor
  · intro h i hi
    unfold allB at h
    obtain ⟨s', hs⟩ := Option.isSome_iff_exists.1 h
    obtain ⟨a, b, _, h2, _⟩ := runN_each hs i hi
    unfold stepB at h2
    rw [List.getElem?_eq_getElem hi] at h2
    have h2 : (if so i l[i] = true then some () else none) = some b := h2
    by_cases h3 : so i l[i] = true
    · exact h3
    · rw [if_neg h3] at h2; cases h2
  · intro h
    have : ∀ n, n ≤ l.length → runN (stepB so l) n () = some () := by
      intro n
      induction n with
      | zero => intro _; rfl
      | succ n ih =>
        intro hn
        show (runN (stepB so l) n ()).bind _ = _
        rw [ih (by omega)]
        show stepB so l n () = _
        unfold stepB
        rw [List.getElem?_eq_getElem (by omega)]
        show (if so n l[n] = true then _ else _) = _
        rw [if_pos (h n (by omega))]
    unfold allB
    rw [this l.length (Nat.le_refl _)]; rfl

/-! ### A function -/
def kindAt (f : Pr) (c : Int) : Nat := ((f.exprs.map Ex.k)[c.toNat]?).getD 0
def valueB (f : Pr) (c : Int) : Bool := decide (kindAt f c ≠ 19) && decide (kindAt f c ≠ 20)
def ofB (f : Pr) (ks : List Nat) (c : Int) : Bool := ks.contains (kindAt f c)
def belowB (e : Ex) (count : Int) : Bool := decide (0 ≤ e.n) && decide (e.n < count)
def operB (e : Ex) (least most : Int) : Bool := decide (least ≤ e.n) && decide (e.n ≤ most)
def numberB (f : Pr) (strs protos : Nat) (e : Ex) : Bool :=
  if e.k = 4 then true
  else if e.k = 5 ∨ e.k = 10 ∨ e.k = 13 then belowB e strs
  else if e.k = 7 then belowB e protos
  else if e.k = 8 then belowB e f.slots
  else if e.k = 9 then belowB e f.ups.length
  else if e.k = 14 then operB e 1 17
  else if e.k = 17 then operB e 18 21
  else decide (e.n = 0)
def valuesB (f : Pr) (e : Ex) (lo hi : Int) : Bool := areB lo hi (fun _ c => valueB f c) e.kids
def kidsB (f : Pr) (e : Ex) : Bool :=
  if e.k = 6 then f.more && valuesB f e 0 0
  else if e.k = 1 ∨ e.k = 2 ∨ e.k = 3 ∨ e.k = 4 ∨ e.k = 5 ∨ e.k = 7 ∨ e.k = 8 ∨ e.k = 9 ∨ e.k = 10 then valuesB f e 0 0
  else if e.k = 17 ∨ e.k = 19 ∨ e.k = 21 then valuesB f e 1 1
  else if e.k = 11 ∨ e.k = 14 ∨ e.k = 15 ∨ e.k = 16 ∨ e.k = 20 then valuesB f e 2 2
  else if e.k = 12 ∨ e.k = 13 then valuesB f e 1 201
  else if e.k = 18 then areB 0 4096 (fun _ c => ofB f [19, 20] c) e.kids
  else false
def exprB (f : Pr) (strs protos : Nat) (e : Ex) : Bool := numberB f strs protos e && kidsB f e

/-- What a statement of a kind may have. -/
structure Row where
  slo : Int
  shi : Int
  tlo : Int
  thi : Int
  elo : Int
  ehi : Int
  hidden : Bool
  forks : Bool
def rowsT : List Row := [⟨0, 0, 0, 0, 0, 0, false, false⟩, ⟨1, 200, 0, 0, 0, 200, false, false⟩, ⟨0, 0, 1, 200, 1, 200, false, false⟩, ⟨0, 0, 0, 0, 1, 1, false, false⟩, ⟨0, 0, 0, 0, 1, 1, false, true⟩, ⟨1, 1, 0, 0, 2, 3, true, false⟩,
  ⟨2, 2, 0, 0, 0, 0, true, true⟩, ⟨1, 1, 0, 0, 1, 200, true, false⟩, ⟨2, 200, 0, 0, 0, 0, true, true⟩, ⟨1, 1, 0, 0, 1, 1, false, false⟩, ⟨0, 0, 0, 0, 0, 200, false, false⟩, ⟨0, 0, 0, 0, 0, 0, false, false⟩]
def rowOf (k : Nat) : Row := rowsT.getD k ⟨0, 0, 0, 0, 0, 0, false, false⟩
def slotB (f : Pr) (r : Row) (i : Nat) (c : Int) : Bool := decide (0 ≤ c) && decide (c < (if (r.hidden && decide (i = 0)) = true then f.slots - 2 else f.slots))
def slotsB (f : Pr) (r : Row) (s : St) : Bool := areB r.slo r.shi (slotB f r) s.slots
def ofOrB (f : Pr) (k : Nat) (c : Int) : Bool := if k = 3 then ofB f [12, 13] c else if k = 9 then ofB f [7] c else valueB f c
def onB (f : Pr) (p : Int) : Bool := decide (-1 ≤ p) && decide (p < f.stmts.length)
def goesB (f : Pr) (r : Row) (s : St) : Bool :=
  if s.k = 10 ∧ s.next ≠ -1 then false else onB f s.next && (r.forks && onB f s.els || !r.forks && decide (s.els = 0))
def stmtB (f : Pr) (s : St) : Bool :=
  if s.k < 1 ∨ 11 < s.k ∨ s.line < 1 then false
  else slotsB f (rowOf s.k) s && areB (rowOf s.k).tlo (rowOf s.k).thi (fun _ c => ofB f [8, 9, 10, 11] c) s.targets && areB (rowOf s.k).elo (rowOf s.k).ehi (fun _ c => ofOrB f s.k c) s.exprs && goesB f (rowOf s.k) s
def startsB (f : Pr) : Bool := if f.stmts.length = 0 then decide (f.start = -1) else decide (0 ≤ f.start) && decide (f.start < f.stmts.length)

/-! Each expression stands just once. -/
def stand1 (below : Int) (places : List Int) (i : Nat) (st : List Bool) : Option (List Bool) :=
  match places[i]? with
  | some c => if c < 0 ∨ below ≤ c ∨ st.getD c.toNat true = true then none else some (st.set c.toNat true)
  | none => none
def standN (below : Int) (places : List Int) (st : List Bool) : Option (List Bool) := runN (stand1 below places) places.length st
def kidStep (f : Pr) (i : Nat) (st : List Bool) : Option (List Bool) :=
  match f.exprs[i]? with
  | some e => standN i e.kids st
  | none => none
def ownStep (f : Pr) (i : Nat) (st : List Bool) : Option (List Bool) :=
  match f.stmts[i]? with
  | some s => (standN f.exprs.length s.targets st).bind (standN f.exprs.length s.exprs)
  | none => none
def hangsB (f : Pr) : Bool :=
  match (runN (kidStep f) f.exprs.length (List.replicate f.exprs.length false)).bind (runN (ownStep f) f.stmts.length) with
  | some st => !st.contains false
  | none => false
def fitsB (f : Pr) (strs protos : Nat) : Bool :=
  if f.slots < 0 ∨ 120 < f.slots ∨ f.params < 0 ∨ f.slots < f.params ∨ (f.boxed.length : Int) ≠ f.slots then false
  else if 60 < f.ups.length ∨ 4096 < f.stmts.length ∨ 4096 < f.exprs.length then false
  else startsB f && hangsB f && allB (fun _ e => exprB f strs protos e) f.exprs && allB (fun _ s => stmtB f s) f.stmts

/-! ### A program -/
def unStep (strs : List ByteArray) (i : Nat) (known : List (List UInt8)) : Option (List (List UInt8)) :=
  match strs[i]? with
  | some s => if 65535 < s.size ∨ s.data.toList ∈ known then none else some (s.data.toList :: known)
  | none => none
def unlikeB (strs : List ByteArray) : Bool := spanB 0 4096 strs.length && (runN (unStep strs) strs.length []).isSome
def arStep (n : Nat) (es : List Ex) (i : Nat) (ar : List Int) : Option (List Int) :=
  match es[i]? with
  | some e => if e.k ≠ 7 then some ar else if e.n ≤ n ∨ ar.getD e.n.toNat 0 ≠ -1 then none else some (ar.set e.n.toNat n)
  | none => none
def arProto (protos : List Pr) (n : Nat) (ar : List Int) : Option (List Int) :=
  match protos[n]? with
  | some f => runN (arStep n f.exprs) f.exprs.length ar
  | none => none
def aroundsO (protos : List Pr) : Option (List Int) := runN (arProto protos) protos.length (List.replicate protos.length (-1))
def upB (o : Pr) (u : Up) : Bool :=
  if u.loc = true then decide (0 ≤ u.pos) && decide (u.pos < o.slots) && o.boxed.getD u.pos.toNat false else decide (0 ≤ u.pos) && decide (u.pos < o.ups.length)
def nestB (protos : List Pr) (ar : List Int) (n : Nat) (f : Pr) : Bool :=
  if n = 0 then decide (f.params = 0) && f.more && decide (f.ups.length = 0)
  else decide (ar.getD n 0 ≠ -1) && allB (fun _ u => upB (protos.getD (ar.getD n 0).toNat default) u) f.ups
def nestedB (protos : List Pr) : Bool :=
  match aroundsO protos with
  | some ar => allB (nestB protos ar) protos
  | none => false
def protosB (p : Pg) : Bool := areB 1 200 (fun _ f => fitsB f p.strs.length p.protos.length) p.protos
def rightB (p : Pg) : Bool := protosB p && unlikeB p.strs && nestedB p.protos

end Go.Proofs.YtnnjkejejlhkdaaDoor.Rt
