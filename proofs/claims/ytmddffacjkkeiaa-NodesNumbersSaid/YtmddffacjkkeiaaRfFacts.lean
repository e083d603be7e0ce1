/-
  A region that draws its order and makes much memory: what each of its operations leaves is said once, whatever came before.
-/
import Derived.Orders
import Derived.Below
import Derived.Deep.RegionHeld
namespace Go.Proofs.Ytmddffacjkkeiaa.Rf
open Go Go.RowKit

/-- What is known of an operation's value, in a world; it stands when memory grows. -/
structure Fact where
  is : Value → World → Prop
  mono : ∀ v w w', is v w → Below w.heap.size w w' → is v w'

/-- The state of a region of which some operations have come up. -/
structure Sofar (ops : Array Oper) (F : Nat → Fact) (G : World → Prop) (a0 : Act) (listed : Array Bool) (a : Act) (w : World) : Prop where
  defers : a.defers = a0.defers
  size : a.tmps.size = a0.tmps.size
  old : ∀ t, (∀ (i : Nat) (o : Oper), ops[i]? = some o → o.dst ≠ some t) → a.tmps.getD t undef = a0.tmps.getD t undef
  new : ∀ (i : Nat) (o : Oper) (d : Tmp), ops[i]? = some o → o.dst = some d → listed.getD i false = true → (F i).is (a.tmps.getD d undef) w
  world : G w

/-- Each operation's place is its own, within the frame; and each waits for such as stand ahead of it alone. -/
def dstsOk (n : Nat) (ops : List Oper) : Bool := (ops.all fun o => match o.dst with | some d => decide (d < n) | none => false) && decide ((ops.map (·.dst)).Nodup)
def aheadOk (ops : List Oper) : Bool := (ops.mapIdx fun i o => o.after.all fun e => decide (e.on < i)).all id

theorem getD_put {a : Act} {d t : Tmp} {v : Value} (hd : d < a.tmps.size) : (a.put (some d) v).tmps.getD t undef = if d = t then v else a.tmps.getD t undef := by
  show (a.tmps.setIfInBounds d v).getD t undef = _
  rw [Array.getD_eq_getD_getElem?, Array.getD_eq_getD_getElem?, Array.getElem?_setIfInBounds]
  by_cases h : d = t
  · subst h; simp [hd]
  · simp [h]

def AllSteps (S : Nat → Oper → Prop) : Nat → List Oper → Prop
  | _, [] => True
  | i, o :: os => S i o ∧ AllSteps S (i + 1) os
theorem allSteps_at {S : Nat → Oper → Prop} : ∀ (l : List Oper) (k j : Nat) (o : Oper), AllSteps S k l → l[j]? = some o → S (k + j) o
  | [], _, _, _, _, h => by cases h
  | x :: l, k, 0, o, hs, h => by
    have : x = o := Option.some.inj h
    subst this
    exact hs.1
  | x :: l, k, j + 1, o, hs, h => by
    have := allSteps_at l (k + 1) j o hs.2 h
    rwa [show k + 1 + j = k + (j + 1) by omega] at this

/-- One operation, whatever came before. -/
def StepOk (P : Program) (ops : Array Oper) (F : Nat → Fact) (G : World → Prop) (a0 : Act) (i : Nat) (o : Oper) : Prop :=
  ∀ (listed : Array Bool) (a : Act) (w : World), Sofar ops F G a0 listed a w → (∀ e ∈ o.after, Region.binds .any e = true → listed.getD e.on false = true) →
    ∀ (K : Act → World → Prop) (Q : Exit → Act → World → Prop), (∀ v w', (F i).is v w' → Below w.heap.size w w' → K (a.put o.dst v) w') → o.wp P a w K Q

theorem cnt_lt {p q : Nat → Bool} {i : Nat} (h : ∀ j, q j = true → p j = true) (hp : p i = true) (hq : q i = false) : ∀ l : List Nat, i ∈ l → l.countP q < l.countP p
  | [], hi => by cases hi
  | x :: l, hi => by
    have hm : l.countP q ≤ l.countP p := List.countP_mono_left (fun j _ hj => h j hj)
    rw [List.countP_cons, List.countP_cons]
    by_cases e : i = x
    · subst e
      rw [hp, hq]
      simp
      omega
    · have hi' : i ∈ l := by
        rcases List.mem_cons.1 hi with h1 | h1
        · exact absurd h1 e
        · exact h1
      have ih := cnt_lt h hp hq l hi'
      cases hqx : q x with
      | false => simp; omega
      | true => rw [h x hqx]; simp; omega

theorem region_facts {P : Program} {ops : List Oper} {Q : Exit → Act → World → Prop} {id : Nat} {a0 : Act} {w0 : World} (F : Nat → Fact) (G : World → Prop) (hm : P.follows .mixedOrders = true)
    (hd : dstsOk a0.tmps.size ops = true) (ha : aheadOk ops = true) (hg : (ops.all fun o => o.guard.isNone) = true)
    (hGm : ∀ w w', G w → Below w.heap.size w w' → G w') (hG : G w0.drew)
    (hstep : AllSteps (StepOk P ops.toArray F G a0) 0 ops)
    (hend : ∀ (a : Act) (w : World), (∀ (i : Nat) (o : Oper) (d : Tmp), ops[i]? = some o → o.dst = some d → (F i).is (a.tmps.getD d undef) w) → a.defers = a0.defers → a.tmps.size = a0.tmps.size →
      (∀ t, (∀ (i : Nat) (o : Oper), ops[i]? = some o → o.dst ≠ some t) → a.tmps.getD t undef = a0.tmps.getD t undef) → G w → Below w0.heap.size w0.drew w → Q .normal a w) :
    (Code.region id ops.toArray true).wp P Q a0 w0 := by
  unfold dstsOk at hd
  rw [Bool.and_eq_true, decide_eq_true_iff, List.all_eq_true] at hd
  obtain ⟨hd1, hd2⟩ := hd
  have hdst : ∀ (i : Nat) (o : Oper), ops[i]? = some o → ∃ d, o.dst = some d ∧ d < a0.tmps.size := fun i o ho => by
    have h1 := hd1 o (List.mem_of_getElem? ho)
    cases hx : o.dst with
    | none => rw [hx] at h1; cases h1
    | some d => rw [hx] at h1; exact ⟨d, rfl, of_decide_eq_true h1⟩
  have hne : ∀ (i j : Nat) (o o' : Oper), ops[i]? = some o → ops[j]? = some o' → o.dst = o'.dst → i = j := fun i j o o' hi hj e => by
    have h1 : (ops.map (·.dst))[i]? = some o.dst := by rw [List.getElem?_map, hi]; rfl
    have h2 : (ops.map (·.dst))[j]? = some o.dst := by rw [List.getElem?_map, hj, e]; rfl
    exact (List.getElem?_inj (List.getElem?_eq_some_iff.1 h1).1 hd2).1 (h1.trans h2.symm)
  have hahead : ∀ (i : Nat) (o : Oper), ops[i]? = some o → ∀ e ∈ o.after, e.on < i := fun i o ho e he => by
    unfold aheadOk at ha
    rw [List.all_eq_true] at ha
    have h1 := ha _ (List.mem_mapIdx.2 ⟨i, (List.getElem?_eq_some_iff.1 ho).1, rfl⟩)
    rw [(List.getElem?_eq_some_iff.1 ho).2] at h1
    have h2 := Array.all_eq_true.1 h1
    obtain ⟨k, hk, rfl⟩ := Array.getElem_of_mem he
    exact of_decide_eq_true (h2 k hk)
  have hwant : ∀ (i : Nat) (o : Oper), ops[i]? = some o → ∀ y, Region.wanted o y = true := fun i o ho y => by
    have h1 := List.all_eq_true.1 hg o (List.mem_of_getElem? ho)
    unfold Region.wanted
    cases hx : o.guard with
    | none => rfl
    | some x => rw [hx] at h1; cases h1
  have key : ∀ (fuel : Nat) (listed : Array Bool) (a : Act) (w : World), listed.size = ops.length → (List.range ops.length).countP (fun i => !listed.getD i false) ≤ fuel → Sofar ops.toArray F G a0 listed a w → Below w0.heap.size w0.drew w → wpAny P .any ops.toArray Q fuel listed a w := by
    intro fuel
    have hall : ∀ (listed : Array Bool), listed.size = ops.length → Region.ready .any ops.toArray listed = [] → ∀ j, j < ops.length → listed.getD j false = true := by
      intro listed hs hr j
      induction j using Nat.strongRecOn with
      | _ j ih =>
        intro hj
        cases hx : listed.getD j false with
        | true => rfl
        | false =>
          exfalso
          have h1 : j ∈ Region.ready .any ops.toArray listed := by
            refine mem_ready.2 ⟨?_, ops[j], by simp [hj], fun e he _ => ?_⟩
            · rw [Array.getD_eq_getD_getElem?] at hx ⊢
              rw [Array.getElem?_eq_getElem (by omega)] at hx ⊢
              exact hx
            · have h2 := hahead j ops[j] (List.getElem?_eq_getElem hj) e he
              exact ih e.on h2 (by omega)
          rw [hr] at h1
          cases h1
    have hdone : ∀ (listed : Array Bool) (a : Act) (w : World), listed.size = ops.length → Sofar ops.toArray F G a0 listed a w → Below w0.heap.size w0.drew w → Region.ready .any ops.toArray listed = [] → Q .normal a w := fun listed a w hs hf hb hr =>
      hend a w (fun i o d ho hod => hf.new i o d (by simpa using ho) hod (hall listed hs hr i (List.getElem?_eq_some_iff.1 ho).1)) hf.defers hf.size (fun t ht => hf.old t (fun i o ho => ht i o (by simpa using ho))) hf.world hb
    have hone : ∀ (listed : Array Bool) (a : Act) (w : World), listed.size = ops.length → Sofar ops.toArray F G a0 listed a w → Below w0.heap.size w0.drew w → ∀ i ∈ Region.ready .any ops.toArray listed, ∀ K : Act → World → Prop,
        (∀ a' w', Sofar ops.toArray F G a0 (listed.setIfInBounds i true) a' w' → Below w0.heap.size w0.drew w' → K a' w') → wpOp P ops.toArray Q i K a w := by
      intro listed a w hs hf hb i hi K hK
      obtain ⟨hun, o, ho, haft⟩ := mem_ready.1 hi
      have ho' : ops[i]? = some o := by simpa using ho
      obtain ⟨d, hod, hdl⟩ := hdst i o ho'
      have hil := (List.getElem?_eq_some_iff.1 ho').1
      unfold wpOp
      simp only [ho]
      rw [if_pos (hwant i o ho' _)]
      have hs0 := allSteps_at ops 0 i o hstep ho'
      rw [Nat.zero_add] at hs0
      refine .inl (hs0 listed a w hf haft K Q (fun v w' hv hw => ?_))
      refine hK _ _ ?_ (hb.trans (hw.mono (by have := hb.size; exact this)))
      rw [hod]
      have hda : d < a.tmps.size := by rw [hf.size]; exact hdl
      refine ⟨hf.defers, ?_, fun t ht => ?_, fun j o' d' ho2 hd2' hl => ?_, hGm _ _ hf.world hw⟩
      · show (a.tmps.setIfInBounds d v).size = _
        rw [Array.size_setIfInBounds]; exact hf.size
      · rw [getD_put hda, if_neg (fun e => ht i o ho (by rw [hod, e]))]
        exact hf.old t ht
      · by_cases hij : j = i
        · subst hij
          have : o' = o := Option.some.inj (ho2.symm.trans ho)
          subst this
          have : d' = d := Option.some.inj (hd2'.symm.trans hod)
          subst this
          rw [getD_put hda, if_pos rfl]
          exact hv
        · have hdd : d ≠ d' := fun e => hij (hne j i o' o (by simpa using ho2) ho' (by rw [hd2', hod, e]))
          rw [getD_put hda, if_neg hdd]
          refine (F j).mono _ _ _ (hf.new j o' d' ho2 hd2' ?_) hw
          rw [Array.getD_eq_getD_getElem?, Array.getElem?_setIfInBounds, if_neg (fun e => hij e.symm)] at hl
          rw [Array.getD_eq_getD_getElem?]
          exact hl
    induction fuel with
    | zero =>
      intro listed a w hs hc hf hb
      have hr : Region.ready .any ops.toArray listed = [] := by
        cases hx : Region.ready .any ops.toArray listed with
        | nil => rfl
        | cons i l =>
          exfalso
          obtain ⟨hun, o, ho, _⟩ := mem_ready.1 (show i ∈ Region.ready .any ops.toArray listed by rw [hx]; exact List.mem_cons_self ..)
          have hil : i < ops.length := by simpa using (Array.getElem?_eq_some_iff.1 ho).1
          have h1 : 0 < (List.range ops.length).countP (fun i => !listed.getD i false) := List.countP_pos_iff.2 ⟨i, List.mem_range.2 hil, by
            rw [Array.getD_eq_getD_getElem?, Array.getElem?_eq_getElem (by omega)] at hun ⊢
            simpa using hun⟩
          omega
      exact ⟨hr, hdone listed a w hs hf hb hr⟩
    | succ fuel ih =>
      intro listed a w hs hc hf hb
      refine ⟨fun hr => hdone listed a w hs hf hb hr, fun i hi => hone listed a w hs hf hb i hi _ (fun a' w' hf' hb' => ?_)⟩
      refine ih _ _ _ (by rw [Array.size_setIfInBounds]; exact hs) ?_ hf' hb'
      obtain ⟨hun, o, ho, _⟩ := mem_ready.1 hi
      have hil : i < ops.length := by simpa using (Array.getElem?_eq_some_iff.1 ho).1
      have h1 := cnt_lt (p := fun j => !listed.getD j false) (q := fun j => !(listed.setIfInBounds i true).getD j false) (i := i) (fun j hj => by
        rw [Array.getD_eq_getD_getElem?, Array.getElem?_setIfInBounds] at hj
        rw [Array.getD_eq_getD_getElem?]
        by_cases e : i = j
        · subst e
          rw [if_pos rfl, if_pos (by omega)] at hj
          simp at hj
        · rw [if_neg e] at hj
          exact hj) (by
        rw [Array.getD_eq_getD_getElem?, Array.getElem?_eq_getElem (by omega)] at hun ⊢
        simpa using hun) (by
        rw [Array.getD_eq_getD_getElem?, Array.getElem?_setIfInBounds, if_pos rfl, if_pos (by omega)]
        rfl) (List.range ops.length) (List.mem_range.2 hil)
      omega
  refine wp_region_any hm (key _ _ _ _ (by simp) ?_ ⟨rfl, rfl, fun _ _ => rfl, fun i o d ho hod hl => ?_, hG⟩ (Below.refl _ _))
  · exact Nat.le_trans List.countP_le_length (by simp)
  · exfalso
    have : i < ops.length := by simpa using (Array.getElem?_eq_some_iff.1 ho).1
    rw [Array.getD_eq_getD_getElem?, Array.getElem?_replicate] at hl
    split at hl <;> simp at hl

/-- One operation: what it waits for is known, what the region leaves alone is as it was. -/
def StepO (P : Program) (ops : Array Oper) (F : Nat → Fact) (G : World → Prop) (O : Act → Prop) (i : Nat) (o : Oper) : Prop :=
  ∀ (a : Act) (w : World), (∀ e ∈ o.after, Region.binds .any e = true → ∀ d, (ops[e.on]?).bind (·.dst) = some d → (F e.on).is (a.tmps.getD d undef) w) → O a → G w →
    ∀ (K : Act → World → Prop) (Q : Exit → Act → World → Prop), (∀ v w', (F i).is v w' → Below w.heap.size w w' → K (a.put o.dst v) w') → o.wp P a w K Q
theorem allSteps_mono {S T : Nat → Oper → Prop} (h : ∀ i o, S i o → T i o) : ∀ (l : List Oper) (k : Nat), AllSteps S k l → AllSteps T k l
  | [], _, _ => trivial
  | _ :: l, k, hs => ⟨h _ _ hs.1, allSteps_mono h l (k + 1) hs.2⟩
theorem notDst {ops : List Oper} {t : Tmp} (h : (ops.all fun o => o.dst != some t) = true) : ∀ (i : Nat) (o : Oper), ops.toArray[i]? = some o → o.dst ≠ some t := fun i o ho => by
  have := List.all_eq_true.1 h o (List.mem_of_getElem? (by simpa using ho))
  simpa using this
theorem region_facts_old {P : Program} {ops : List Oper} {Q : Exit → Act → World → Prop} {id : Nat} {a0 : Act} {w0 : World} (F : Nat → Fact) (G : World → Prop) (O : Act → Prop) (hm : P.follows .mixedOrders = true)
    (hd : dstsOk a0.tmps.size ops = true) (ha : aheadOk ops = true) (hg : (ops.all fun o => o.guard.isNone) = true)
    (hGm : ∀ w w', G w → Below w.heap.size w w' → G w') (hG : G w0.drew)
    (hO : ∀ a : Act, (∀ t, (∀ (i : Nat) (o : Oper), ops.toArray[i]? = some o → o.dst ≠ some t) → a.tmps.getD t undef = a0.tmps.getD t undef) → O a)
    (hstep : AllSteps (StepO P ops.toArray F G O) 0 ops)
    (hend : ∀ (a : Act) (w : World), (∀ (i : Nat) (o : Oper) (d : Tmp), ops[i]? = some o → o.dst = some d → (F i).is (a.tmps.getD d undef) w) → a.defers = a0.defers → a.tmps.size = a0.tmps.size →
      (∀ t, (∀ (i : Nat) (o : Oper), ops[i]? = some o → o.dst ≠ some t) → a.tmps.getD t undef = a0.tmps.getD t undef) → G w → Below w0.heap.size w0.drew w → Q .normal a w) :
    (Code.region id ops.toArray true).wp P Q a0 w0 :=
  region_facts F G hm hd ha hg hGm hG (allSteps_mono (fun i o hs listed a w hf haft K Q hK => hs a w (fun e he hb d hd => by
    cases ho : ops.toArray[e.on]? with
    | none => rw [ho] at hd; cases hd
    | some o' => rw [ho] at hd; exact hf.new e.on o' d ho hd (haft e he hb)) (hO a hf.old) hf.world K Q hK) ops 0 hstep) hend

end Go.Proofs.Ytmddffacjkkeiaa.Rf
