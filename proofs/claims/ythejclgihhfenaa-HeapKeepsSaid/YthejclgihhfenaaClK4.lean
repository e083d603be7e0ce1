import Derived.Test.YthejclgihhfenaaClK1
import Derived.Test.YthejclgihhfenaaClK3
/-
  Layer 14: going through the map of such a heap: what is left, and what it takes.
-/
namespace Go.Proofs.Ythejclgihhfenaa.Hp
open Go Go.Proofs.Ythejclgihhfenaa.Tb Go.Proofs.Ythejclgihhfenaa.Pl

/-- What those take that are left, from place i on. -/
def restL (left : Vl → Bool) : Nat → KS → Int
  | _, [] => 0
  | i, none :: S => restL left (i + 1) S
  | i, some o :: S => (if left (valK i o) then sizeK o else 0) + restL left (i + 1) S
theorem rest_eq {l1 l2 : Vl → Bool} : ∀ (i : Nat) (S : KS), (∀ j o, S[j]? = some (some o) → l1 (valK (i + j) o) = l2 (valK (i + j) o)) → restL l1 i S = restL l2 i S
  | _, [], _ => rfl
  | i, none :: S, h => by
    show restL l1 (i + 1) S = restL l2 (i + 1) S
    exact rest_eq (i + 1) S (fun j o hj => by rw [show i + 1 + j = i + (j + 1) by omega]; exact h (j + 1) o (by simpa using hj))
  | i, some o :: S, h => by
    show _ + restL l1 (i + 1) S = _ + restL l2 (i + 1) S
    rw [rest_eq (l1 := l1) (l2 := l2) (i + 1) S (fun j o hj => by rw [show i + 1 + j = i + (j + 1) by omega]; exact h (j + 1) o (by simpa using hj))]
    have := h 0 o rfl
    rw [Nat.add_zero] at this
    rw [this]
theorem rest_take {left : Vl → Bool} : ∀ (i : Nat) (S : KS) (j : Nat) (o : KO), S[j]? = some (some o) → left (valK (i + j) o) = true → restL (fun v => left v && !decide (v = valK (i + j) o)) i S + sizeK o = restL left i S
  | i, none :: S, 0, o, h, _ => by simp at h
  | i, some p :: S, 0, o, h, hl => by
    have h : p = o := by simpa using h
    subst h
    rw [Nat.add_zero] at hl ⊢
    show (if (left (valK i p) && !decide (valK i p = valK i p)) then sizeK p else 0) + restL _ (i + 1) S + sizeK p = (if left (valK i p) then sizeK p else 0) + restL left (i + 1) S
    rw [hl, decide_eq_true rfl, if_neg (by decide), if_pos rfl, rest_eq (l2 := left) (i + 1) S (fun j o _ => by
      rw [decide_eq_false (fun e => by have := val_n (congrArg Vl.n e); omega), Bool.not_false, Bool.and_true])]
    omega
  | i, none :: S, j + 1, o, h, hl => by
    show restL _ (i + 1) S + sizeK o = restL left (i + 1) S
    have := rest_take (left := left) (i + 1) S j o (by simpa using h) (by rw [show i + 1 + j = i + (j + 1) by omega]; exact hl)
    rw [show i + 1 + j = i + (j + 1) by omega] at this
    exact this
  | i, some p :: S, j + 1, o, h, hl => by
    have h1 := rest_take (left := left) (i + 1) S j o (by simpa using h) (by rw [show i + 1 + j = i + (j + 1) by omega]; exact hl)
    rw [show i + 1 + j = i + (j + 1) by omega] at h1
    show (if (left (valK i p) && !decide (valK i p = valK (i + (j + 1)) o)) then sizeK p else 0) + restL _ (i + 1) S + sizeK o = (if left (valK i p) then sizeK p else 0) + restL left (i + 1) S
    rw [decide_eq_false (fun e => by have := val_n (congrArg Vl.n e); omega), Bool.not_false, Bool.and_true]
    omega
theorem rest_none {left : Vl → Bool} : ∀ (i : Nat) (S : KS), (∀ j o, S[j]? = some (some o) → left (valK (i + j) o) = false) → restL left i S = 0
  | _, [], _ => rfl
  | i, none :: S, h => by
    show restL left (i + 1) S = 0
    exact rest_none (i + 1) S (fun j o hj => by rw [show i + 1 + j = i + (j + 1) by omega]; exact h (j + 1) o (by simpa using hj))
  | i, some o :: S, h => by
    show _ + restL left (i + 1) S = 0
    rw [rest_none (left := left) (i + 1) S (fun j o hj => by rw [show i + 1 + j = i + (j + 1) by omega]; exact h (j + 1) o (by simpa using hj))]
    have := h 0 o rfl
    rw [Nat.add_zero] at this
    rw [this]; rfl
theorem rest_all {left : Vl → Bool} : ∀ (i : Nat) (S : KS), (∀ j o, S[j]? = some (some o) → left (valK (i + j) o) = true) → restL left i S = usedS S
  | _, [], _ => rfl
  | i, none :: S, h => by
    have h1 := rest_all (left := left) (i + 1) S (fun j o hj => by rw [show i + 1 + j = i + (j + 1) by omega]; exact h (j + 1) o (by simpa using hj))
    unfold usedS obS at *
    rw [List.map_cons, used_cons]
    show restL left (i + 1) S = 0 + _
    rw [h1]; omega
  | i, some o :: S, h => by
    have h1 := rest_all (left := left) (i + 1) S (fun j o hj => by rw [show i + 1 + j = i + (j + 1) by omega]; exact h (j + 1) o (by simpa using hj))
    have h2 := h 0 o rfl
    rw [Nat.add_zero] at h2
    unfold usedS obS at *
    rw [List.map_cons, used_cons]
    show (if left (valK i o) then sizeK o else 0) + restL left (i + 1) S = sizeK o + _
    rw [h1, h2]; rfl
theorem rest_pos (left : Vl → Bool) : ∀ (i : Nat) (S : KS), 0 ≤ restL left i S
  | _, [] => Int.le_refl _
  | i, none :: S => rest_pos left (i + 1) S
  | i, some o :: S => by
    have h1 := rest_pos left (i + 1) S
    show 0 ≤ (if left (valK i o) then sizeK o else 0) + restL left (i + 1) S
    have : 0 ≤ sizeK o := by unfold sizeK; split <;> omega
    split <;> omega
/-- The heap as the law has it: what all takes is within the bound, numbers are small. -/
structure KOk (S : KS) (k : Nat) : Prop where
  used : usedS S ≤ 400
  len : S.length ≤ k
  small : ∀ (j : Nat) (o : KO), S[j]? = some (some o) → In64 o.n
theorem KOk.valIn {S : KS} {k : Nat} (h : KOk S k) (hk : k ≤ 1000) {j : Nat} {o : KO} (hj : S[j]? = some (some o)) : (valK j o).In := by
  have h1 := (List.getElem?_eq_some_iff.1 hj).1
  have h2 := h.len
  unfold valK Vl.In Pl.In64
  dsimp only
  refine ⟨?_, by omega, by omega⟩
  unfold kindK
  split <;> decide
theorem want_at {S : KS} {j : Nat} {o : KO} (h : S[j]? = some (some o)) : wantS S (valK j o) = some o.n := by
  unfold wantS
  rw [at_val h]; rfl
theorem KOk.put {S : KS} {k : Nat} (h : KOk S k) (o : KO) (hn : In64 o.n) (hu : usedS S + sizeK o ≤ 400) : KOk (putS S (leastS S) (some o)) (k + 1) where
  used := by
    have h1 := (sums_put S (leastS S) (some o) (least_spec S).1).1
    rw [(least_spec S).2] at h1
    rw [h1]
    show usedS S - 0 + sizeK o ≤ 400
    omega
  len := by
    have h1 := h.len
    unfold putS
    split
    · rw [List.length_set]; omega
    · rw [List.length_append, List.length_singleton]; omega
  small j p hj := by
    have h1 := put_get S (leastS S) j (some o) (least_spec S).1
    rw [hj] at h1
    by_cases e : j = leastS S
    · rw [if_pos e] at h1
      have : p = o := Option.some.inj h1
      rw [this]; exact hn
    · rw [if_neg e] at h1
      cases hx : S[j]? with
      | none => rw [hx] at h1; cases h1
      | some y => rw [hx] at h1; exact h.small j p (by rw [hx]; exact congrArg some h1.symm)
theorem KOk.gone {S : KS} {k : Nat} (h : KOk S k) (i : Nat) (hi : i ≤ S.length) : KOk (putS S i none) (k + 1) where
  used := by
    have h1 := (sums_put S i none hi).1
    rw [h1]
    have h2 := h.used
    have h3 : 0 ≤ (((S[i]?).join).map sizeK).getD 0 := by
      cases (S[i]?).join with
      | none => exact Int.le_refl _
      | some o => show 0 ≤ sizeK o; unfold sizeK; split <;> omega
    show usedS S - _ + 0 ≤ 400
    omega
  len := by
    have h1 := h.len
    unfold putS
    split
    · rw [List.length_set]; omega
    · rw [List.length_append, List.length_singleton]; omega
  small j p hj := by
    have h1 := put_get S i j none hi
    rw [hj] at h1
    by_cases e : j = i
    · rw [if_pos e] at h1; cases h1
    · rw [if_neg e] at h1
      cases hx : S[j]? with
      | none => rw [hx] at h1; cases h1
      | some y => rw [hx] at h1; exact h.small j p (by rw [hx]; exact congrArg some h1.symm)
theorem KOk.turn {S : KS} {k : Nat} (h : KOk S k) {i : Nat} {o : KO} (hi : S[i]? = some (some o)) (n : Int) (hn : In64 n) : KOk (putS S i (some { o with n := n })) (k + 1) where
  used := by
    have hl := (List.getElem?_eq_some_iff.1 hi).1
    have h1 := (sums_put S i (some { o with n := n }) (by omega)).1
    rw [hi] at h1
    rw [h1]
    show usedS S - sizeK o + sizeK { o with n := n } ≤ 400
    have : sizeK { o with n := n } = sizeK o := rfl
    rw [this]
    have := h.used
    omega
  len := by
    have h1 := h.len
    have hl := (List.getElem?_eq_some_iff.1 hi).1
    unfold putS
    rw [if_pos hl, List.length_set]; omega
  small j p hj := by
    have hl := (List.getElem?_eq_some_iff.1 hi).1
    have h1 := put_get S i j (some { o with n := n }) (by omega)
    rw [hj] at h1
    by_cases e : j = i
    · rw [if_pos e] at h1
      have : p = { o with n := n } := Option.some.inj h1
      rw [this]; exact hn
    · rw [if_neg e] at h1
      cases hx : S[j]? with
      | none => rw [hx] at h1; cases h1
      | some y => rw [hx] at h1; exact h.small j p (by rw [hx]; exact congrArg some h1.symm)
theorem KOk.mono {S : KS} {k j : Nat} (h : KOk S k) (hk : k ≤ j) : KOk S j := ⟨h.used, Nat.le_trans h.len hk, h.small⟩
theorem KOk.more {S : KS} {k : Nat} (h : KOk S k) : KOk S (k + 1) := ⟨h.used, Nat.le_succ_of_le h.len, h.small⟩
theorem want_fresh {S : KS} {k : Nat} (h : (S[k]?).join = none) (o : KO) : wantS S (valK k o) = none := by
  unfold wantS
  rw [at_get, if_pos (by show 1 ≤ (k : Int) + 1; omega), show ((valK k o).n - 1).toNat = k by show ((k : Int) + 1 - 1).toNat = k; omega, h]
  rfl
/-- An object more, at the least number that is free. -/
def addS (S : KS) (o : KO) : KS := putS S (leastS S) (some o)
theorem add_at (S : KS) (o : KO) : (addS S o)[leastS S]? = some (some o) := by
  have h := put_get S (leastS S) (leastS S) (some o) (least_spec S).1
  rw [if_pos rfl] at h
  unfold addS
  cases hx : (putS S (leastS S) (some o))[leastS S]? with
  | none => rw [hx] at h; cases h
  | some y => rw [hx] at h; exact congrArg some h
theorem add_want (S : KS) (o : KO) (v : Vl) : wantS (addS S o) v = if v = valK (leastS S) o then some o.n else wantS S v := want_put S _ o (least_spec S).1 (least_spec S).2 v
theorem add_cnt (S : KS) (o : KO) : cntS (addS S o) = cntS S + 1 := by
  have h := (sums_put S (leastS S) (some o) (least_spec S).1).2
  rw [(least_spec S).2] at h
  have h : cntS (addS S o) + 0 = cntS S + 1 := h
  omega
/-- It is taken away again. -/
def offS (S : KS) (o : KO) : KS := putS (addS S o) (leastS S) none
theorem off_len (S : KS) (o : KO) : leastS S ≤ (addS S o).length := by
  have := (List.getElem?_eq_some_iff.1 (add_at S o)).1
  omega
theorem off_want (S : KS) (o : KO) (v : Vl) : wantS (offS S o) v = wantS S v := by
  unfold offS
  rw [want_free (add_at S o), add_want]
  by_cases e : v = valK (leastS S) o
  · rw [if_pos e, e, want_fresh (least_spec S).2]
  · rw [if_neg e, if_neg e]
theorem off_cnt (S : KS) (o : KO) : cntS (offS S o) = cntS S := by
  have h := (sums_put (addS S o) (leastS S) none (off_len S o)).2
  rw [add_at, add_cnt] at h
  have h : cntS (offS S o) + 1 = cntS S + 1 + 0 := h
  omega
theorem off_ok {S : KS} {k : Nat} (h : KOk S k) (o : KO) (hn : In64 o.n) (hu : usedS S + sizeK o ≤ 400) : KOk (offS S o) (k + 2) := (h.put o hn hu).gone (leastS S) (off_len S o)
theorem gone_want (S : KS) (v : Vl) : wantS (putS S (leastS S) none) v = wantS S v := want_gone S _ (least_spec S).1 (least_spec S).2 v
theorem gone_cnt (S : KS) : cntS (putS S (leastS S) none) = cntS S := by
  have h := (sums_put S (leastS S) none (least_spec S).1).2
  rw [(least_spec S).2] at h
  simpa using h
theorem turn_cnt {S : KS} {i : Nat} {o : KO} (h : S[i]? = some (some o)) (n : Int) : cntS (putS S i (some { o with n := n })) = cntS S := by
  have hl := (List.getElem?_eq_some_iff.1 h).1
  have h1 := (sums_put S i (some { o with n := n }) (by omega)).2
  rw [h] at h1
  have h1 : cntS (putS S i (some { o with n := n })) + 1 = cntS S + 1 := h1
  omega
theorem free_cnt {S : KS} {i : Nat} {o : KO} (h : S[i]? = some (some o)) : cntS (putS S i none) = cntS S - 1 := by
  have hl := (List.getElem?_eq_some_iff.1 h).1
  have h1 := (sums_put S i none (by omega)).2
  rw [h] at h1
  have h1 : cntS (putS S i none) + 1 = cntS S + 0 := h1
  omega
end Go.Proofs.Ythejclgihhfenaa.Hp

/-
  Layer 14: going through the map of such a heap, with the set of numbers beside: what each step leaves.
-/
namespace Go.Proofs.Ythejclgihhfenaa.Hp
open Go Go.RowKit Go.Proofs.Ythejclgihhfenaa.Pl Go.Proofs.Ythejclgihhfenaa.Tb Go.Proofs.Ythejclgihhfenaa.Vm

/-- The map at block mb names the objects S; block r goes through it, left is still to come; at block nb stands the set fn of numbers, after at most Nn stores. -/
def KpN (HP : HeapP) (w0 : World) (b mb nb r : Nat) (S : KS) (m : Int) (N Nn : Nat) (fn : Int → Bool) (left : Vl → Bool) (cnt : Nat) (v : Value) (L : List Vl) (K : Own) (w : World) : Prop :=
  (nb ≠ mb ∧ r ≠ mb ∧ nb ≠ r) ∧ (w0.heap.size ≤ nb ∧ w0.heap.size ≤ r) ∧ (∀ p ∈ K, p.1 ≠ nb ∧ p.1 ≠ r) ∧
  (∀ n, fn n = true → ∃ u k o, u = valK k o ∧ S[k]? = some (some o) ∧ left u = false ∧ u.n = n) ∧ (∀ u, left u = true → (wantS S u).isSome = true) ∧
  ∃ Mn o, KpS HP w0 b mb (kpH S m) (wantS S) (cntS S) N v L ((nb, Mn) :: (r, o) :: K) w ∧ NMapIs 2 Mn Nn fn ∧ VRng 2 w mb r N (wantS S) left cnt
section
variable {HP : HeapP} {w0 w w' : World} {b mb nb r N Nn cnt : Nat} {S : KS} {m : Int} {fn : Int → Bool} {left : Vl → Bool} {v : Value} {L : List Vl} {K : Own}
theorem KpN.look (h : KpN HP w0 b mb nb r S m N Nn fn left cnt v L K w) (n : Int) (hn : In64 n) : (Instr.lookup 42 (.map (some nb)) (.int .i64 n) false).run Try.prog w = .ok (.bool (fn n)) w := by
  obtain ⟨_, _, _, _, _, Mn, o, h1, h3, _⟩ := h
  exact h3.look tyNV (h1.own (.head _)) n hn
theorem KpN.low (h : KpN HP w0 b mb nb r S m N Nn fn left cnt v L K w) : Below w0.heap.size w0 w := by
  obtain ⟨_, _, _, _, _, Mn, o, h1, _⟩ := h
  exact h1.low
theorem KpN.own (h : KpN HP w0 b mb nb r S m N Nn fn left cnt v L K w) {k : Nat} {o : Obj} (hm : (k, o) ∈ K) : w.heap[k]? = some o := by
  obtain ⟨_, _, _, _, _, Mn, o', h1, _⟩ := h
  exact h1.own (.tail _ (.tail _ hm))
theorem KpN.fewer {K' : Own} (h : KpN HP w0 b mb nb r S m N Nn fn left cnt v L K w) (hk : ∀ p ∈ K', p ∈ K) : KpN HP w0 b mb nb r S m N Nn fn left cnt v L K' w := by
  obtain ⟨e1, e2, e3, e4, e5, Mn, o, h1, h3, h4⟩ := h
  refine ⟨e1, e2, fun p hp => e3 p (hk p hp), e4, e5, Mn, o, h1.fewer (fun p hp => ?_), h3, h4⟩
  rcases List.mem_cons.1 hp with rfl | hp
  · exact .head _
  rcases List.mem_cons.1 hp with rfl | hp
  · exact .tail _ (.head _)
  · exact .tail _ (.tail _ (hk p hp))
/-- What is left when the going through is done. -/
theorem KpN.done (h : KpN HP w0 b mb nb r S m N Nn fn left cnt v L K w) : KpS HP w0 b mb (kpH S m) (wantS S) (cntS S) N v L K w := by
  obtain ⟨_, _, _, _, _, Mn, o, h1, _⟩ := h
  exact h1.fewer (fun p hp => .tail _ (.tail _ hp))
theorem KpN.alloc (H : HeapSays HP) (h : KpN HP w0 b mb nb r S m N Nn fn left cnt v L K w) (o : Obj) : KpN HP w0 b mb nb r S m N Nn fn left cnt v L ((w.heap.size, o) :: K) (w.alloc o) := by
  obtain ⟨e1, e2, e3, e4, e5, Mn, o', h1, h3, h4⟩ := h
  have n1 := lt_of_get (h1.own (.head _))
  have n2 := lt_of_get (h1.own (.tail _ (.head _)))
  refine ⟨e1, e2, fun p hp => ?_, e4, e5, Mn, o', (h1.alloc H o).fewer (fun p hp => ?_), h3, h4.kept (World.grownBy_alloc w o none) (by simp) (by simp)⟩
  · rcases List.mem_cons.1 hp with rfl | hp
    · exact ⟨by dsimp only; omega, by dsimp only; omega⟩
    · exact e3 p hp
  · rcases List.mem_cons.1 hp with rfl | hp
    · exact .tail _ (.head _)
    rcases List.mem_cons.1 hp with rfl | hp
    · exact .tail _ (.tail _ (.head _))
    rcases List.mem_cons.1 hp with rfl | hp
    · exact .head _
    · exact .tail _ (.tail _ (.tail _ hp))
theorem KpN.tell {f : Nat} {args : Array Value} {x : Value} (H : HeapSays HP) (hc : ∀ {F}, HP w b (kpH S m) F → Calls Try.prog f args w (TellSays x w)) (h : KpN HP w0 b mb nb r S m N Nn fn left cnt v L K w) :
    Calls Try.prog f args w (fun e w' => e = .returned x ∧ KpN HP w0 b mb nb r S m N Nn fn left cnt v L K w') := by
  obtain ⟨e1, e2, e3, e4, e5, Mn, o, ⟨M, Kl, h1, r1⟩, h3, h4⟩ := h
  obtain ⟨F, hp, hF, h0, hK⟩ := h1
  refine (hc hp).mono fun e w1 ⟨he, hb⟩ => ⟨he, e1, e2, e3, e4, e5, Mn, o, ⟨M, Kl, HpAt.below H ⟨F, hp, hF, h0, hK⟩ hb, r1⟩, h3, h4.kept (row := none) ⟨hb.os, hb.tape, hb.output, hb.size, fun k hk _ => hb.block k hk⟩ (by simp) (by simp)⟩
theorem KpN.below (H : HeapSays HP) (h : KpN HP w0 b mb nb r S m N Nn fn left cnt v L K w) (hb : Below w.heap.size w w') : KpN HP w0 b mb nb r S m N Nn fn left cnt v L K w' := by
  obtain ⟨e1, e2, e3, e4, e5, Mn, o, h1, h3, h4⟩ := h
  exact ⟨e1, e2, e3, e4, e5, Mn, o, h1.below H hb, h3, h4.kept (row := none) ⟨hb.os, hb.tape, hb.output, hb.size, fun k hk _ => hb.block k hk⟩ (by simp) (by simp)⟩
/-- A box of the law's own turned. -/
theorem KpN.box {x : Nat} {o : Obj} (H : HeapSays HP) (h : KpN HP w0 b mb nb r S m N Nn fn left cnt v L ((x, o) :: K) w) (hx : ∀ q ∈ K, q.1 ≠ x) (ht : Turns [x] w w') (o' : Obj) (ho : w'.heap[x]? = some o') : KpN HP w0 b mb nb r S m N Nn fn left cnt v L ((x, o') :: K) w' := by
  obtain ⟨e1, e2, e3, e4, e5, Mn, oo, h1, h3, h4⟩ := h
  have hx2 := e3 (x, o) (.head _)
  have h5 : KpS HP w0 b mb (kpH S m) (wantS S) (cntS S) N v L ((x, o) :: (nb, Mn) :: (r, oo) :: K) w := h1.fewer (fun p hp => by
    rcases List.mem_cons.1 hp with rfl | hp
    · exact .tail _ (.tail _ (.head _))
    rcases List.mem_cons.1 hp with rfl | hp
    · exact .head _
    rcases List.mem_cons.1 hp with rfl | hp
    · exact .tail _ (.head _)
    · exact .tail _ (.tail _ (.tail _ hp)))
  have hmx : mb ≠ x := by
    obtain ⟨M, Kl, _, _, _, _, _, a5⟩ := h5
    exact fun e => (a5 (x, o) (.head _)).1 e.symm
  have h6 := h5.box H (fun q hq => by
    rcases List.mem_cons.1 hq with rfl | hq
    · exact fun e => hx2.1 e.symm
    rcases List.mem_cons.1 hq with rfl | hq
    · exact fun e => hx2.2 e.symm
    · exact hx q hq) ht o' ho
  refine ⟨e1, e2, fun p hp => ?_, e4, e5, Mn, oo, h6.fewer (fun p hp => ?_), h3, h4.kept (row := some x) ⟨ht.os, ht.tape, ht.output, ht.size, fun k hk hn => ht.block k hk (fun hm => hn (by rw [List.mem_singleton.1 hm]))⟩ (fun e => hmx (Option.some.inj e)) (fun e => hx2.2 (Option.some.inj e).symm)⟩
  · rcases List.mem_cons.1 hp with rfl | hp
    · exact hx2
    · exact e3 p (.tail _ hp)
  · rcases List.mem_cons.1 hp with rfl | hp
    · exact .tail _ (.head _)
    rcases List.mem_cons.1 hp with rfl | hp
    · exact .tail _ (.tail _ (.head _))
    rcases List.mem_cons.1 hp with rfl | hp
    · exact .head _
    · exact .tail _ (.tail _ (.tail _ hp))
/-- A number more. -/
theorem KpN.store (H : HeapSays HP) (h : KpN HP w0 b mb nb r S m N Nn fn left cnt v L K w) (hN : Nn < 1000000) {k : Nat} {o : KO} (hk : S[k]? = some (some o)) (hi : (valK k o).In) (hl : left (valK k o) = false) :
    ∃ w', (Instr.mapUpdate 42 (.map (some nb)) (.int .i64 (valK k o).n) (.bool true)).run Try.prog w = .ok () w' ∧ KpN HP w0 b mb nb r S m N (Nn + 1) (fun j => if j = (valK k o).n then true else fn j) left cnt v L K w' := by
  obtain ⟨e1, e2, e3, e4, e5, Mn, oo, h1, h3, h4⟩ := h
  obtain ⟨w', hrun, M', hb', hm', hgr, hsz⟩ := h3.store tyNV (h1.own (.head _)) hN (valK k o).n true hi.2
  have hmx : mb ≠ nb := e1.1.symm
  refine ⟨w', hrun, e1, e2, e3, fun n hn => ?_, e5, M', oo, h1.box H (fun q hq => ?_) (turnsG hgr) M' hb', hm', h4.kept hgr (fun e => hmx (Option.some.inj e)) (fun e => e1.2.2 (Option.some.inj e).symm)⟩
  · dsimp only at hn
    by_cases e : n = (valK k o).n
    · exact ⟨valK k o, k, o, rfl, hk, hl, e.symm⟩
    · rw [if_neg e] at hn
      exact e4 n hn
  · rcases List.mem_cons.1 hq with rfl | hq
    · exact fun e => e1.2.2 e.symm
    · exact (e3 q hq).1
variable {o : Oper} {a : Act} {ops : Array Oper} {Q : Exit → Act → World → Prop} {rest : List Oper}
/-- The going through begins. -/
theorem wpList_range_kp (H : HeapSays HP) {Mn : Obj} (h : KpS HP w0 b mb (kpH S m) (wantS S) (cntS S) N v L ((nb, Mn) :: K) w) (hMn : NMapIs 2 Mn Nn (fun _ => false)) (hK : ∀ p ∈ K, p.1 ≠ nb)
    (hg : o.guard = none) (mo : Operand) (hop : o.op = Op.range 27 mo) (hm : a.eval mo = .map (some mb))
    (hQ : ∀ w', KpN HP w0 b mb nb w.heap.size S m N Nn (fun _ => false) (fun s => (wantS S s).isSome) (cntS S) v L K w' → w'.heap.size = w.heap.size + 1 → wpList Try.prog ops Q rest (a.put o.dst (.pointer (some ⟨w.heap.size, 0, none⟩))) w') : wpList Try.prog ops Q (o :: rest) a w := by
  obtain ⟨M, hM, hmap⟩ := h.mapBlock
  have hnb := lt_of_get (h.own (.head _))
  have hmb := lt_of_get hM
  have hnm : nb ≠ mb := by
    obtain ⟨_, _, _, _, _, _, _, a5⟩ := h
    exact (a5 (nb, Mn) (.head _)).1
  have hlow : w0.heap.size ≤ nb := by
    obtain ⟨_, _, _, _, _, ⟨_, _, a3⟩, _⟩ := h
    exact a3 (nb, Mn) (.head _)
  refine wpList_range_v tyV hg mo hop hm hmap hM (fun w' hr hgr hsz => hQ w' ?_ hsz)
  obtain ⟨o', ho'⟩ : ∃ o', w'.heap[w.heap.size]? = some o' := ⟨_, Array.getElem?_eq_getElem (by omega)⟩
  refine ⟨⟨hnm, fun e => by omega, fun e => by omega⟩, ⟨hlow, h.low.size⟩, fun p hp => ⟨hK p hp, fun e => by have := lt_of_get (h.own (k := p.1) (o := p.2) (.tail _ hp)); omega⟩, fun n hn => (by cases hn), fun u hu => hu, Mn, o', ?_, hMn, hr⟩
  have h2 := h
  obtain ⟨M, Kl, h1, q2, q3, ⟨a1, a2, a3⟩, a4, a5⟩ := h
  have keep : ∀ {k : Nat} {y : Obj}, (k, y) ∈ (mb, M) :: (Kl ++ (nb, Mn) :: K) → w'.heap[k]? = some y := fun hy => (hgr.block _ (lt_of_get (h1.own hy)) (fun e => by cases e)).trans (h1.own hy)
  refine ⟨M, Kl, h1.mine H (turnsG0 hgr) (fun k hk => by cases hk) (fun k hk => by cases hk) (fun p hp => ?_), q2, q3, ⟨a1, a2, fun p hp => ?_⟩, a4, fun q hq => ?_⟩
  · rcases List.mem_cons.1 hp with rfl | hp
    · exact ⟨keep (.head _), .inl ⟨M, .head _⟩⟩
    rcases List.mem_append.1 hp with hp | hp
    · exact ⟨keep (k := p.1) (y := p.2) (.tail _ (List.mem_append_left _ hp)), .inl ⟨p.2, .tail _ (List.mem_append_left _ hp)⟩⟩
    rcases List.mem_cons.1 hp with rfl | hp
    · exact ⟨keep (.tail _ (List.mem_append_right _ (.head _))), .inl ⟨Mn, .tail _ (List.mem_append_right _ (.head _))⟩⟩
    rcases List.mem_cons.1 hp with rfl | hp
    · exact ⟨ho', .inr (Nat.le_refl _)⟩
    · exact ⟨keep (k := p.1) (y := p.2) (.tail _ (List.mem_append_right _ (.tail _ hp))), .inl ⟨p.2, .tail _ (List.mem_append_right _ (.tail _ hp))⟩⟩
  · rcases List.mem_cons.1 hp with rfl | hp
    · exact a3 (nb, Mn) (.head _)
    rcases List.mem_cons.1 hp with rfl | hp
    · exact h2.low.size
    · exact a3 p (.tail _ hp)
  · rcases List.mem_cons.1 hq with rfl | hq
    · exact a5 (nb, Mn) (.head _)
    rcases List.mem_cons.1 hq with rfl | hq
    · refine ⟨fun e => ?_, fun p hp e => ?_⟩
      · dsimp only at e; omega
      · have := lt_of_get (h1.own (k := p.1) (o := p.2) (.tail _ (List.mem_append_left _ hp)))
        dsimp only at e
        omega
    · exact a5 q (.tail _ hq)
/-- An entry comes, or none is left. -/
theorem wpList_next_kp (H : HeapSays HP) (h : KpN HP w0 b mb nb r S m N Nn fn left cnt v L K w) (hg : o.guard = none) (it : Operand) (hop : o.op = Op.next it false) (hit : a.eval it = .pointer (some ⟨r, 0, none⟩))
    (hDone : (∀ u : Vl, u.In → left u = false) → wpList Try.prog ops Q rest (a.put o.dst (.tuple #[.bool false])) w)
    (hMore : ∀ (k : Nat) (p : KO) (w' : World) (cnt' : Nat), S[k]? = some (some p) → (valK k p).In → left (valK k p) = true → fn (valK k p).n = false → KpN HP w0 b mb nb r S m N Nn fn (fun j => left j && !decide (j = valK k p)) cnt' v L K w' → cnt' < cnt → w'.heap.size = w.heap.size →
      (Instr.entry (.pointer (some ⟨r, 0, none⟩))).run Try.prog w' = .ok (.tuple #[(valK k p).val, .int .i64 p.n]) w' → wpList Try.prog ops Q rest (a.put o.dst (.tuple #[.bool true, (valK k p).val, .int .i64 p.n])) w') : wpList Try.prog ops Q (o :: rest) a w := by
  obtain ⟨e1, e2, e3, e4, e5, Mn, oo, h1, h3, h4⟩ := h
  refine wpList_next_v tyV hg it hop hit h4 (fun _ hd => hDone hd) (fun u n w' cnt' hu hl hf hr hlt hgr hsz hen => ?_)
  obtain ⟨k, p, hat, hn⟩ := want_some hf
  subst hn
  obtain ⟨hk, rfl⟩ := at_some hat
  refine hMore k p w' cnt' hk hu hl ?_ ?_ hlt hsz hen
  · cases hx : fn (valK k p).n with
    | false => rfl
    | true =>
      obtain ⟨u', k', p', rfl, q1, q2, q3⟩ := e4 _ hx
      have hkk := val_n q3
      subst hkk
      rw [hk] at q1
      injection q1 with q1
      injection q1 with q1
      subst q1
      rw [hl] at q2
      cases q2
  · have hr' := lt_of_get (h1.own (.tail _ (.head _)))
    obtain ⟨o2, ho2⟩ : ∃ o2, w'.heap[r]? = some o2 := ⟨_, Array.getElem?_eq_getElem (by omega)⟩
    have h5 : KpS HP w0 b mb (kpH S m) (wantS S) (cntS S) N v L ((r, oo) :: (nb, Mn) :: K) w := h1.fewer (fun p hp => by
      rcases List.mem_cons.1 hp with rfl | hp
      · exact .tail _ (.head _)
      rcases List.mem_cons.1 hp with rfl | hp
      · exact .head _
      · exact .tail _ (.tail _ hp))
    have h6 := h5.box H (fun q hq => by
      rcases List.mem_cons.1 hq with rfl | hq
      · exact e1.2.2
      · exact (e3 q hq).2) (turnsG hgr) o2 ho2
    refine ⟨e1, e2, e3, fun n hn => ?_, fun u hu => ?_, Mn, o2, h6.fewer (fun p hp => ?_), h3, hr⟩
    · obtain ⟨u', k', p', q0, q1, q2, q3⟩ := e4 n hn
      exact ⟨u', k', p', q0, q1, by dsimp only; rw [q2]; rfl, q3⟩
    · dsimp only at hu
      rw [Bool.and_eq_true] at hu
      exact e5 u hu.1
    · rcases List.mem_cons.1 hp with rfl | hp
      · exact .tail _ (.head _)
      rcases List.mem_cons.1 hp with rfl | hp
      · exact .head _
      · exact .tail _ (.tail _ hp)
end
end Go.Proofs.Ythejclgihhfenaa.Hp
