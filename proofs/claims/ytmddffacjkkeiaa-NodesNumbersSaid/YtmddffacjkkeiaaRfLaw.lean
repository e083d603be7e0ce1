/-
  A range over a function whose iterator keeps a state in cells of its own: who may turn which blocks is said by the blocks' kinds.
-/
import Derived.RangeFuncRecord
import Derived.RangeFuncSeq
import Derived.RangeFuncOwn
import Derived.Below
namespace Go.Proofs.Ytmddffacjkkeiaa.Rf
open Go Go.RowKit

/-- Of the old blocks just those may have turned that p lets turn; the streams are as they were. -/
structure Tame (p : Nat → Obj → Bool) (A C : World) : Prop where
  os : C.os = A.os
  tape : C.tape = A.tape
  output : C.output = A.output
  size : A.heap.size ≤ C.heap.size
  same : ∀ g o, A.heap[g]? = some o → p g o = false → C.heap[g]? = some o

theorem Tame.refl (p : Nat → Obj → Bool) (A : World) : Tame p A A := ⟨rfl, rfl, rfl, Nat.le_refl _, fun _ _ h _ => h⟩
theorem Tame.trans {p : Nat → Obj → Bool} {A B C : World} (h : Tame p A B) (k : Tame p B C) : Tame p A C :=
  ⟨k.os.trans h.os, k.tape.trans h.tape, k.output.trans h.output, Nat.le_trans h.size k.size, fun g o ho hp => k.same g o (h.same g o ho hp) hp⟩
theorem Tame.mono {p q : Nat → Obj → Bool} {A B : World} (h : Tame p A B) (hpq : ∀ g o, p g o = true → q g o = true) : Tame q A B :=
  ⟨h.os, h.tape, h.output, h.size, fun g o ho hq => h.same g o ho (by
    cases hp : p g o with
    | false => rfl
    | true => rw [hpq g o hp] at hq; cases hq)⟩
theorem lt_of_heap {A : World} {g : Nat} {o : Obj} (h : A.heap[g]? = some o) : g < A.heap.size := (Array.getElem?_eq_some_iff.1 h).1
theorem Tame.below {p : Nat → Obj → Bool} {A C : World} {n : Nat} (h : Tame p A C) (hp : ∀ g o, p g o = true → n ≤ g) (hn : n ≤ A.heap.size) : Below n A C :=
  ⟨h.os, h.tape, h.output, h.size, fun k hk => by
    have hlt : k < A.heap.size := Nat.lt_of_lt_of_le hk hn
    rw [Array.getElem?_eq_getElem hlt]
    refine h.same k _ (Array.getElem?_eq_getElem hlt) ?_
    cases e : p k A.heap[k] with
    | false => rfl
    | true => exact absurd (hp _ _ e) (by omega)⟩
theorem Tame.of_below {n : Nat} {A C : World} (h : Below n A C) : Tame (fun g _ => decide (n ≤ g)) A C :=
  ⟨h.os, h.tape, h.output, h.size, fun g o ho hp => by
    rw [h.block g (by simpa using hp)]; exact ho⟩
theorem Tame.alloc (p : Nat → Obj → Bool) (A : World) (o : Obj) : Tame p A (A.alloc o) :=
  ⟨rfl, rfl, rfl, by simp, fun g o' ho _ => (Below.heap_alloc A o g (lt_of_heap ho)).trans ho⟩
theorem Tame.drew (p : Nat → Obj → Bool) (A : World) : Tame p A A.drew := ⟨rfl, rfl, rfl, Nat.le_refl _, fun _ _ h _ => h⟩
theorem Tame.setCell {p : Nat → Obj → Bool} (A : World) (a : Addr) (v : Value) {o : Obj} (ho : A.heap[a.block]? = some o) (hp : p a.block o = true) : Tame p A (A.setCell a v) :=
  ⟨rfl, rfl, rfl, by simp [World.setCell], fun g o' ho' hp' => by
    by_cases e : g = a.block
    · subst e; rw [ho] at ho'; cases ho'; rw [hp] at hp'; cases hp'
    · exact (Below.heap_setCell A a v g e).trans ho'⟩
theorem Tame.putObj {p : Nat → Obj → Bool} (A : World) (l : Nat) {o : Obj} (o' : Obj) (ho : A.heap[l]? = some o) (hp : p l o = true) : Tame p A (A.putObj l o') :=
  ⟨rfl, rfl, rfl, by simp, fun g o'' ho' hp' => by
    by_cases e : g = l
    · subst e; rw [ho] at ho'; cases ho'; rw [hp] at hp'; cases hp'
    · exact (World.putObj_heap_other e).trans ho'⟩
theorem Tame.grown {p : Nat → Obj → Bool} {A C : World} {row : Option Nat} (hg : A.grownBy C row) (hr : ∀ k o, row = some k → A.heap[k]? = some o → p k o = true) : Tame p A C :=
  ⟨hg.os, hg.tape, hg.output, hg.size, fun g o ho hp => (hg.block g (lt_of_heap ho) (fun e => by rw [hr g o e.symm ho] at hp; cases hp)).trans ho⟩

/-- Cells of one of these types. -/
def tyIn (T : List Nat) : Obj → Bool
  | .cells _ t _ => T.contains t
  | _ => false
theorem tyIn_cells {T : List Nat} {o : Obj} (h : tyIn T o = true) : o.isCells = true := by
  cases o <;> first | rfl | (simp [tyIn] at h)

/-- What the law itself turns: its record, and the block for the rounds' deferred calls. -/
def own (B : Nat) (g : Nat) (o : Obj) : Bool := !o.isCells && decide (B ≤ g)
/-- What an iterator turns: cells of its own types, and what is no cells, from B on. -/
def turn (T : List Nat) (B : Nat) (g : Nat) (o : Obj) : Bool := decide (B ≤ g) && (tyIn T o || !o.isCells)
theorem turn_ge {T : List Nat} {B g : Nat} {o : Obj} (h : turn T B g o = true) : B ≤ g := by
  unfold turn at h
  rw [Bool.and_eq_true, decide_eq_true_iff] at h
  exact h.1
theorem turn_mono {T : List Nat} {B B' g : Nat} {o : Obj} (hB : B ≤ B') (h : turn T B' g o = true) : turn T B g o = true := by
  unfold turn at *
  rw [Bool.and_eq_true, decide_eq_true_iff] at *
  exact ⟨Nat.le_trans hB h.1, h.2⟩
theorem turn_own {T : List Nat} {B g : Nat} {o : Obj} (h : own B g o = true) : turn T B g o = true := by
  unfold own at h
  unfold turn
  rw [Bool.and_eq_true] at *
  exact ⟨h.2, by rw [h.1, Bool.or_true]⟩
theorem turn_no {T : List Nat} {B g : Nat} {o : Obj} (h : g < B) : turn T B g o = false := by
  unfold turn
  rw [decide_eq_false (by omega), Bool.false_and]
theorem turn_ty {T : List Nat} {B g : Nat} {cs : Array Value} {t : TypeId} {fr : Nat × Nat} (h : T.contains t = false) : turn T B g (.cells cs t fr) = false := by
  unfold turn tyIn
  dsimp only
  rw [h]
  show (_ && (false || !true)) = false
  simp
theorem turn_yes {T : List Nat} {B g : Nat} {cs : Array Value} {t : TypeId} {fr : Nat × Nat} (h : T.contains t = true) (hB : B ≤ g) : turn T B g (.cells cs t fr) = true := by
  unfold turn tyIn
  dsimp only
  rw [h, decide_eq_true hB]
  rfl

/-- The contract of an iterator: T: the types of the cells of its own that it turns; pb: those that a round may turn; Ok: what has come so far; S: all has come. -/
def SeqT {α : Type} (n : Nat) (P : Program) (g : Nat) (lb : Array Value) (encs : α → Array Value) (T : List Nat) (pb : Nat → Nat → Obj → Bool) (Ok S : List α → Prop) (w : World) : Prop :=
  ∀ (l : Nat) (J Jx : List α → World → Prop) (W : World), Below w.heap.size w W →
    (∀ s A C, J s A → Tame (turn T W.heap.size) A C → J s C) → (∀ s A C, Jx s A → Tame (turn T W.heap.size) A C → Jx s C) →
    (∀ pre x W1, J pre W1 → Ok (pre ++ [x]) → YieldAt Fence.wide (n - 1) P l (encs x) W1 fun e W' =>
      (e = .returned (.bool true) ∧ J (pre ++ [x]) W' ∧ Tame (pb W.heap.size) W1 W') ∨ (e = .returned (.bool false) ∧ Jx (pre ++ [x]) W' ∧ Tame (pb W.heap.size) W1 W')) →
    J [] W →
    CallsIn Fence.wide n P g (#[.func (.yield l) #[] #[]] ++ lb) W fun e W' => (∃ v, e = .returned v) ∧ ((∃ xs, S xs ∧ J xs W') ∨ (∃ pre, Ok pre ∧ Jx pre W'))

/-- How a round's body ends: it goes on, or it returns from the function. -/
def post {α : Type} (pc : Nat → Obj → Bool) (I Ix : List α → World → Prop) (xs : List α) (W : World) : Exit → Act → World → Prop
  | .normal, _, W' => Tame pc W W' ∧ I xs W'
  | .ret, _, W' => Tame pc W W' ∧ Ix xs W'
  | .exit _, _, _ => False
  | .goto _, _, _ => False
  | .panic _, _, _ => False
  | .outgrown, _, _ => False

theorem range_law {α : Type} {n : Nat} {P : Program} {g : Operand} {ps : Array Tmp} {assign body : Code} {Q : Exit → Act → World → Prop} {a : Act} {w w0 : World} {gf : Nat} {lb : Array Value}
    {encs : α → Array Value} {T : List Nat} {pb : Nat → Nat → Obj → Bool} {pc : Nat → Obj → Bool} {Ok S : List α → Prop}
    (h1 : 1 ≤ n) (hg : a.eval g = .func (.func gf) #[] lb) (eg : ∀ args w, (callFunc gf args).run P w = .ok (.enter gf args) w)
    (hseq : SeqT (n - 1) P gf lb encs T pb Ok S w0) (hb0 : Below w0.heap.size w0 w) (hps : ∀ x, (encs x).size = ps.size)
    (hpc : ∀ g o, pc g o = true → o.isCells = true) (hpb : ∀ g o, (pc g o || (own w.heap.size g o && decide (g < w.heap.size + 2))) = true → pb (w.heap.size + 2) g o = true)
    (I Ix : List α → World → Prop) (hI : ∀ s A C, I s A → Tame (turn T w.heap.size) A C → I s C) (hIx : ∀ s A C, Ix s A → Tame (turn T w.heap.size) A C → Ix s C)
    (h0 : I [] w) (a₁ : α → Act)
    (hassign : ∀ (l : Nat) (x : α) (W : World) (K : Act → World → Prop), K (a₁ x) W →
      assign.wpIn (Fence.wide.inRound l) (n - 1 - 1) P (Exit.then K (fun _ _ _ => False)) { tmps := (ps.zip (encs x)).foldl (fun t (p, v) => t.setIfInBounds p v) a.tmps, defers := [] } W)
    (hbody : ∀ (l : Nat) (pre : List α) (x : α) (W : World), I pre W → Ok (pre ++ [x]) → body.wpIn (Fence.wide.inRound l) (n - 1 - 1) P (post pc I Ix (pre ++ [x]) W) (a₁ x) W)
    (hdone : ∀ (D : Nat) (xs : List α) (W : World), w.heap.size ≤ D → S xs → I xs W → W.heap[D]? = some (.deferred (some [])) → Q .normal { a with defers := { target := .collected D, args := #[] } :: a.defers } W)
    (hstop : ∀ (D : Nat) (pre : List α) (W : World), w.heap.size ≤ D → Ok pre → Ix pre W → W.heap[D]? = some (.deferred (some [])) → Code.ret.wpIn Fence.wide n P Q { a with defers := { target := .collected D, args := #[] } :: a.defers } W) :
    (Code.rangeFunc g ps assign body).wpIn Fence.wide n P Q a w := by
  refine wpIn_rangeFunc fun fn hfn => ?_
  -- the two blocks that the statement lays, and the world behind them
  let rc : LoopState → Option Code → Loop := fun st pe => ⟨st, pe, fn, a.tmps, ps, assign, body, w.heap.size⟩
  let N : Nat := w.heap.size + 1
  let W1 : World := (w.alloc (.deferred (some []))).alloc (.loop (rc .ready none))
  have sW1 : W1.heap.size = w.heap.size + 2 := by show (((w.alloc _).alloc _).heap.size) = _; simp
  have atN : W1.heap[N]? = some (.loop (rc .ready none)) := by
    have := World.alloc_heap_new (w.alloc (.deferred (some []))) (.loop (rc .ready none))
    rw [World.size_alloc] at this; exact this
  have atD : W1.heap[w.heap.size]? = some (.deferred (some [])) := (Below.heap_alloc _ _ _ (by simp)).trans (World.alloc_heap_new w _)
  have bW1 : Below w.heap.size w W1 := ((Below.refl _ w).alloc (Nat.le_refl _) _).alloc (by simp) _
  have tW1 : Tame (turn T w.heap.size) w W1 := (Tame.alloc _ _ _).trans (Tame.alloc _ _ _)
  have ownT : ∀ (W : World) (l : Nat) (o o' : Obj), w.heap.size ≤ l → W.heap[l]? = some o → o.isCells = false → ∀ q : Nat → Obj → Bool, (∀ g o, own w.heap.size g o = true → q g o = true) → Tame q W (W.putObj l o') := fun W l o o' hl ho hc q hq =>
    Tame.putObj W l o' ho (hq l o (by simp [own, hc, hl]))
  have qI : ∀ g o, own w.heap.size g o = true → turn T w.heap.size g o = true := fun g o h => turn_own h
  have inI : ∀ g o, turn T W1.heap.size g o = true → turn T w.heap.size g o = true := fun g o h => turn_mono (by rw [sW1]; omega) h
  have toB : ∀ (W : World) (o o' : Obj), W.heap[N]? = some o → o.isCells = false → Tame (pb W1.heap.size) W (W.putObj N o') := fun W o o' ho hc => by
    rw [sW1]
    exact Tame.putObj W N o' ho (hpb N o (by
      have h2 : own w.heap.size N o = true := by unfold own; rw [hc, decide_eq_true (by show w.heap.size ≤ w.heap.size + 1; omega)]; rfl
      rw [h2, decide_eq_true (by show w.heap.size + 1 < _; omega), Bool.and_self, Bool.or_true]))
  have noPc : ∀ g (o : Obj), o.isCells = false → pc g o = false := fun g o hc => by
    cases h : pc g o with
    | false => rfl
    | true => rw [hpc g o h] at hc; cases hc
  let J : List α → World → Prop := fun pre W => I pre W ∧ W.heap[N]? = some (.loop (rc .ready none)) ∧ W.heap[w.heap.size]? = some (.deferred (some []))
  let Jx : List α → World → Prop := fun pre W => Ix pre W ∧ W.heap[N]? = some (.loop (rc .done (some .ret))) ∧ W.heap[w.heap.size]? = some (.deferred (some []))
  refine ⟨N, [{ target := .collected w.heap.size, args := #[] }], W1, { target := .fn (.func gf) lb, args := #[.func (.yield N) #[] #[]] }, W1, gf, #[.func (.yield N) #[] #[]] ++ lb, W1,
    run_enterLoop_outer _ _ _ _ _, ?_, fun f' _ => trivial, ?_, fun _ => h1, ?_⟩
  · simp only [resolve, hg]
    simp [go_sem]
  · simp [invoke, go_sem, eg]
  refine (hseq N J Jx W1 (hb0.trans (bW1.mono hb0.size)) ?_ ?_ ?_ ⟨hI _ _ _ h0 tW1, atN, atD⟩).mono ?_
  · rintro s A C ⟨hi, hl, hk⟩ hT
    exact ⟨hI s A C hi (hT.mono inI), hT.same _ _ hl (turn_no (by rw [sW1]; show w.heap.size + 1 < _; omega)), hT.same _ _ hk (turn_no (by rw [sW1]; omega))⟩
  · rintro s A C ⟨hi, hl, hk⟩ hT
    exact ⟨hIx s A C hi (hT.mono inI), hT.same _ _ hl (turn_no (by rw [sW1]; show w.heap.size + 1 < _; omega)), hT.same _ _ hk (turn_no (by rw [sW1]; omega))⟩
  · rintro pre x W ⟨hi, hl, hk⟩ hok
    have hND : w.heap.size ≠ N := by show w.heap.size ≠ w.heap.size + 1; omega
    have hy := run_yield (P := P) (args := encs x) hl (hps x)
    refine ⟨fn, _, assign, body, hy, roundIn_of_wpIn hfn (hassign _ x W _ ⟨_, run_beginRound hl rfl, ?_⟩)⟩
    have hl2 := World.putObj_heap_same (o := .loop (rc .busy none)) (lt_of_heap hl)
    have hk2 := (World.putObj_heap_other (w := W) (o := .loop (rc .busy none)) hND).trans hk
    have hw2 := ownT W N _ (.loop (rc .busy none)) (Nat.le_succ _) hl rfl
    refine wpIn_mono (hbody N pre x _ (hI _ _ _ hi (hw2 _ qI)) hok) ?_
    intro e a3 W3 hp
    have ends : ∀ (jump : Option Code), Tame pc (W.putObj N (.loop (rc .busy none))) W3 → ∃ st, (Instr.endRound N jump).run P W3 = .ok (.bool jump.isNone) (W3.putObj N (.loop (rc st jump))) ∧
        st = (if jump.isNone then LoopState.ready else LoopState.done) ∧ W3.heap[N]? = some (.loop (rc .busy none)) ∧ (W3.putObj N (.loop (rc st jump))).heap[N]? = some (.loop (rc st jump)) ∧ (W3.putObj N (.loop (rc st jump))).heap[w.heap.size]? = some (.deferred (some [])) := fun jump hT =>
      have h3 := hT.same _ _ hl2 (noPc _ _ rfl)
      ⟨_, run_endRound (P := P) jump h3, rfl, h3, World.putObj_heap_same (lt_of_heap h3), (World.putObj_heap_other hND).trans (hT.same _ _ hk2 (noPc _ _ rfl))⟩
    cases e with
    | normal =>
      obtain ⟨hT, hi3⟩ := hp
      obtain ⟨st, hr, rfl, hl3, hl4, hk4⟩ := ends none hT
      refine ⟨_, _, hr, .inl ⟨rfl, ⟨hI _ _ _ hi3 (ownT W3 N _ _ (Nat.le_succ _) hl3 rfl _ qI), hl4, hk4⟩, ?_⟩⟩
      exact ((toB W _ _ hl rfl).trans (hT.mono fun g o h => by rw [sW1]; exact hpb g o (by rw [h, Bool.true_or]))).trans (toB W3 _ _ hl3 rfl)
    | ret =>
      obtain ⟨hT, hi3⟩ := hp
      obtain ⟨st, hr, rfl, hl3, hl4, hk4⟩ := ends (some .ret) hT
      exact ⟨_, _, hr, .inr ⟨rfl, ⟨hIx _ _ _ hi3 (ownT W3 N _ _ (Nat.le_succ _) hl3 rfl _ qI), hl4, hk4⟩, ((toB W _ _ hl rfl).trans (hT.mono fun g o h => by rw [sW1]; exact hpb g o (by rw [h, Bool.true_or]))).trans (toB W3 _ _ hl3 rfl)⟩⟩
    | exit id => exact hp.elim
    | goto t => exact hp.elim
    | panic ch => exact hp.elim
    | outgrown => exact hp.elim
  · rintro e W2 ⟨⟨v, rfl⟩, ⟨xs, hS, hi, hl, hk⟩ | ⟨pre, hOk, hi, hl, hk⟩⟩
    · have hND : w.heap.size ≠ N := by show w.heap.size ≠ w.heap.size + 1; omega
      exact ⟨none, _, run_endLoop (P := P) hl (by simp [rc]), hdone _ xs _ (Nat.le_refl _) hS (hI _ _ _ hi (ownT W2 N _ _ (Nat.le_succ _) hl rfl _ qI)) ((World.putObj_heap_other hND).trans hk)⟩
    · have hND : w.heap.size ≠ N := by show w.heap.size ≠ w.heap.size + 1; omega
      exact ⟨some .ret, _, run_endLoop (P := P) hl (by simp [rc]), hstop _ pre _ (Nat.le_refl _) hOk (hIx _ _ _ hi (ownT W2 N _ _ (Nat.le_succ _) hl rfl _ qI)) ((World.putObj_heap_other hND).trans hk)⟩

end Go.Proofs.Ytmddffacjkkeiaa.Rf
