/-
  Layer 5: what a right syntax is, and which two say the same, as mathematics; neither hangs on the order of the list.
-/
import Derived.IntWalk
namespace Go.Proofs.Ytmddffacjkkeiaa.Nd

structure Nd where
  k : Nat
  n : Int
  name : ByteArray
  names : List ByteArray
  kids : List Int
  line : Int
instance : Inhabited Nd := ⟨⟨0, 0, ⟨#[]⟩, [], [], 0⟩⟩
def at' (l : List Nd) (i : Int) : Nd := l.getD i.toNat default
def inR (l : List Nd) (i : Int) : Prop := 0 ≤ i ∧ i < l.length
/-- Does the level grow from a node to its kid p? -/
def up (k : Nat) (p : Nat) : Nat := if k = 1 ∨ k = 35 ∨ p = 0 ∧ (k = 28 ∨ k = 29 ∨ k = 30 ∨ k = 31 ∨ k = 32 ∨ k = 33) then 0 else 1
/-- What a node's row asks of it and its kids' kinds and numbers. -/
abbrev Row := Nd → List (Nat × Int) → Bool
def kinds (l : List Nd) (n : Nd) : List (Nat × Int) := n.kids.map fun c => ((at' l c).k, (at' l c).n)
def bare (n : Nd) : Nd := { n with kids := [] }

inductive Lev (l : List Nd) (root : Int) : Int → Nat → Prop
  | top : Lev l root root 0
  | kid {i : Int} {v p : Nat} {c : Int} : Lev l root i v → (at' l i).kids[p]? = some c → Lev l root c (v + up (at' l i).k p)

structure RightP (row : Row) (l : List Nd) (root : Int) : Prop where
  few : l.length ≤ 4096
  top : inR l root
  kids : ∀ i, inR l i → ∀ c ∈ (at' l i).kids, inR l c
  once : ∀ (i j : Int) (p q : Nat) (c : Int), inR l i → inR l j → (at' l i).kids[p]? = some c → (at' l j).kids[q]? = some c → i = j ∧ p = q
  free : ∀ i, inR l i → root ∉ (at' l i).kids
  all : ∀ i, inR l i → ∃ v, Lev l root i v
  rows : ∀ i, inR l i → row (bare (at' l i)) (kinds l (at' l i)) = true
  deep : ∀ i v, Lev l root i v → v ≤ 100
  head : (at' l root).k = 26 ∧ (at' l root).n = 1 ∧ (at' l root).names = []

theorem lev_in {l : List Nd} {root : Int} (hk : ∀ i, inR l i → ∀ c ∈ (at' l i).kids, inR l c) (hr : inR l root) {i : Int} {v : Nat} (h : Lev l root i v) : inR l i := by
  induction h with
  | top => exact hr
  | kid _ hc ih => exact hk _ ih _ (List.mem_of_getElem? hc)

/-- The same list in another order: π says where each node is now. -/
structure Moved (π : Int → Int) (l m : List Nd) : Prop where
  len : m.length = l.length
  inj : ∀ i j, π i = π j → i = j
  fwd : ∀ i, inR l i → inR m (π i)
  bwd : ∀ i, inR m (π i) → inR l i
  onto : ∀ j, inR m j → ∃ i, inR l i ∧ j = π i
  is : ∀ i, inR l i → (at' m (π i)).k = (at' l i).k ∧ (at' m (π i)).n = (at' l i).n ∧ (at' m (π i)).name = (at' l i).name ∧ (at' m (π i)).names = (at' l i).names ∧ (at' m (π i)).kids = (at' l i).kids.map π ∧ (at' m (π i)).line = (at' l i).line

theorem Moved.kid {π : Int → Int} {l m : List Nd} (h : Moved π l m) {i : Int} (hi : inR l i) {p : Nat} {c : Int} (hc : (at' l i).kids[p]? = some c) : (at' m (π i)).kids[p]? = some (π c) := by
  rw [(h.is i hi).2.2.2.2.1, List.getElem?_map, hc]; rfl
theorem Moved.kid' {π : Int → Int} {l m : List Nd} (h : Moved π l m) {i : Int} (hi : inR l i) {p : Nat} {d : Int} (hd : (at' m (π i)).kids[p]? = some d) : ∃ c, (at' l i).kids[p]? = some c ∧ d = π c := by
  rw [(h.is i hi).2.2.2.2.1, List.getElem?_map] at hd
  cases hc : (at' l i).kids[p]? with
  | none => rw [hc] at hd; cases hd
  | some c => rw [hc] at hd; exact ⟨c, rfl, (Option.some.inj hd).symm⟩
theorem Moved.bare {π : Int → Int} {l m : List Nd} (h : Moved π l m) {i : Int} (hi : inR l i) : Nd.bare (at' m (π i)) = Nd.bare (at' l i) := by
  obtain ⟨h1, h2, h3, h4, _, h6⟩ := h.is i hi
  unfold Nd.bare
  rw [h1, h2, h3, h4, h6]
theorem Moved.kinds {π : Int → Int} {l m : List Nd} (h : Moved π l m) {i : Int} (hi : inR l i) (hk : ∀ c ∈ (at' l i).kids, inR l c) : Nd.kinds m (at' m (π i)) = Nd.kinds l (at' l i) := by
  unfold Nd.kinds
  rw [(h.is i hi).2.2.2.2.1, List.map_map]
  refine List.map_congr_left fun c hc => ?_
  have := h.is c (hk c hc)
  show ((at' m (π c)).k, (at' m (π c)).n) = _
  rw [this.1, this.2.1]
theorem Moved.kidsIn {π : Int → Int} {l m : List Nd} (h : Moved π l m) : (∀ i, inR l i → ∀ c ∈ (at' l i).kids, inR l c) ↔ (∀ i, inR m i → ∀ c ∈ (at' m i).kids, inR m c) := by
  constructor
  · intro hk j hj d hd
    obtain ⟨i, hi, rfl⟩ := h.onto j hj
    rw [(h.is i hi).2.2.2.2.1] at hd
    obtain ⟨c, hc, rfl⟩ := List.mem_map.1 hd
    exact h.fwd _ (hk i hi c hc)
  · intro hk i hi c hc
    refine h.bwd c (hk (π i) (h.fwd i hi) (π c) ?_)
    rw [(h.is i hi).2.2.2.2.1]
    exact List.mem_map_of_mem hc
theorem Moved.lev {π : Int → Int} {l m : List Nd} (h : Moved π l m) {r : Int} (hr : inR l r) (hk : ∀ i, inR l i → ∀ c ∈ (at' l i).kids, inR l c) {i : Int} {v : Nat} (hL : Lev l r i v) : Lev m (π r) (π i) v := by
  induction hL with
  | top => exact .top
  | @kid i v p c hi hc ih =>
    have hin := lev_in hk hr hi
    have := Lev.kid ih (h.kid hin hc)
    rwa [(h.is i hin).1] at this
theorem Moved.lev' {π : Int → Int} {l m : List Nd} (h : Moved π l m) {r : Int} (hr : inR l r) (hk : ∀ i, inR l i → ∀ c ∈ (at' l i).kids, inR l c) {j : Int} {v : Nat} (hL : Lev m (π r) j v) : ∃ i, j = π i ∧ Lev l r i v := by
  induction hL with
  | top => exact ⟨r, rfl, .top⟩
  | @kid j v p d hj hd ih =>
    obtain ⟨i, rfl, hi⟩ := ih
    have hin := lev_in hk hr hi
    obtain ⟨c, hc, rfl⟩ := h.kid' hin hd
    refine ⟨c, rfl, ?_⟩
    rw [(h.is i hin).1]
    exact .kid hi hc

theorem right_moved {row : Row} {π : Int → Int} {l m : List Nd} (h : Moved π l m) (r : Int) : RightP row m (π r) ↔ RightP row l r := by
  constructor
  · intro H
    have hk := h.kidsIn.2 H.kids
    have hr := h.bwd r H.top
    refine ⟨by have := H.few; rw [h.len] at this; exact this, hr, hk, ?_, ?_, ?_, ?_, ?_, ?_⟩
    · intro i j p q c hi hj hp hq
      obtain ⟨e1, e2⟩ := H.once (π i) (π j) p q (π c) (h.fwd i hi) (h.fwd j hj) (h.kid hi hp) (h.kid hj hq)
      exact ⟨h.inj _ _ e1, e2⟩
    · intro i hi hc
      refine H.free (π i) (h.fwd i hi) ?_
      rw [(h.is i hi).2.2.2.2.1]
      exact List.mem_map_of_mem hc
    · intro i hi
      obtain ⟨v, hv⟩ := H.all (π i) (h.fwd i hi)
      obtain ⟨i', e, hL⟩ := h.lev' hr hk hv
      rw [h.inj _ _ e]
      exact ⟨v, hL⟩
    · intro i hi
      have := H.rows (π i) (h.fwd i hi)
      rwa [h.bare hi, h.kinds hi (hk i hi)] at this
    · intro i v hL
      exact H.deep (π i) v (h.lev hr hk hL)
    · have := H.head
      rw [(h.is r hr).1, (h.is r hr).2.1, (h.is r hr).2.2.2.1] at this
      exact this
  · intro H
    have hk := H.kids
    have hr := H.top
    refine ⟨by rw [h.len]; exact H.few, h.fwd r hr, h.kidsIn.1 hk, ?_, ?_, ?_, ?_, ?_, ?_⟩
    · intro i' j' p q c' hi' hj' hp hq
      obtain ⟨i, hi, rfl⟩ := h.onto i' hi'
      obtain ⟨j, hj, rfl⟩ := h.onto j' hj'
      obtain ⟨c, hc, rfl⟩ := h.kid' hi hp
      obtain ⟨d, hd, e⟩ := h.kid' hj hq
      rw [← h.inj _ _ e] at hd
      obtain ⟨rfl, e2⟩ := H.once i j p q c hi hj hc hd
      exact ⟨rfl, e2⟩
    · intro i' hi' hc
      obtain ⟨i, hi, rfl⟩ := h.onto i' hi'
      rw [(h.is i hi).2.2.2.2.1] at hc
      obtain ⟨c, hc2, e⟩ := List.mem_map.1 hc
      rw [h.inj _ _ e] at hc2
      exact H.free i hi hc2
    · intro i' hi'
      obtain ⟨i, hi, rfl⟩ := h.onto i' hi'
      obtain ⟨v, hv⟩ := H.all i hi
      exact ⟨v, h.lev hr hk hv⟩
    · intro i' hi'
      obtain ⟨i, hi, rfl⟩ := h.onto i' hi'
      rw [h.bare hi, h.kinds hi (hk i hi)]
      exact H.rows i hi
    · intro j v hL
      obtain ⟨i, _, hi⟩ := h.lev' hr hk hL
      exact H.deep i v hi
    · rw [(h.is r hr).1, (h.is r hr).2.1, (h.is r hr).2.2.2.1]
      exact H.head

/-- Two places that are come upon together from the roots on. -/
inductive Two (a b : List Nd) (x y : Int) : Int → Int → Prop
  | top : Two a b x y x y
  | kid {i j : Int} {p : Nat} {c d : Int} : Two a b x y i j → (at' a i).kids[p]? = some c → (at' b j).kids[p]? = some d → Two a b x y c d
def Like (n m : Nd) : Prop := n.k = m.k ∧ n.n = m.n ∧ n.name = m.name ∧ n.names = m.names ∧ n.kids.length = m.kids.length
structure SameP (row : Row) (a : List Nd) (x : Int) (b : List Nd) (y : Int) : Prop where
  one : RightP row a x
  two : RightP row b y
  like : ∀ i j, Two a b x y i j → Like (at' a i) (at' b j)

/-- The same, but for lines. -/
def NoLine (l m : List Nd) : Prop := m.length = l.length ∧ ∀ i, inR l i → (at' m i).k = (at' l i).k ∧ (at' m i).n = (at' l i).n ∧ (at' m i).name = (at' l i).name ∧ (at' m i).names = (at' l i).names ∧ (at' m i).kids = (at' l i).kids

theorem two_sym {a b : List Nd} {x y i j : Int} (h : Two a b x y i j) : Two b a y x j i := by
  induction h with
  | top => exact .top
  | kid _ hc hd ih => exact .kid ih hd hc
theorem Like.sym {n m : Nd} (h : Like n m) : Like m n := ⟨h.1.symm, h.2.1.symm, h.2.2.1.symm, h.2.2.2.1.symm, h.2.2.2.2.symm⟩
theorem same_sym {row : Row} {a b : List Nd} {x y : Int} (h : SameP row a x b y) : SameP row b y a x :=
  ⟨h.two, h.one, fun i j ht => (h.like j i (two_sym ht)).sym⟩
theorem same_moved {row : Row} {π : Int → Int} {l m m' : List Nd} (h : Moved π l m) (hl : NoLine m m') {r : Int} (hR : RightP row l r) (hR' : RightP row m' (π r)) : SameP row l r m' (π r) := by
  have hm : ∀ i, inR l i → (at' m' (π i)).k = (at' l i).k ∧ (at' m' (π i)).n = (at' l i).n ∧ (at' m' (π i)).name = (at' l i).name ∧ (at' m' (π i)).names = (at' l i).names ∧ (at' m' (π i)).kids = (at' l i).kids.map π := by
    intro i hi
    obtain ⟨a1, a2, a3, a4, a5, _⟩ := h.is i hi
    obtain ⟨b1, b2, b3, b4, b5⟩ := hl.2 (π i) (h.fwd i hi)
    exact ⟨b1.trans a1, b2.trans a2, b3.trans a3, b4.trans a4, b5.trans a5⟩
  have key : ∀ i j, Two l m' r (π r) i j → j = π i ∧ inR l i := by
    intro i j ht
    induction ht with
    | top => exact ⟨rfl, hR.top⟩
    | @kid i j p c d ht hc hd ih =>
      obtain ⟨rfl, hi⟩ := ih
      rw [(hm i hi).2.2.2.2, List.getElem?_map, hc] at hd
      exact ⟨(Option.some.inj hd).symm, hR.kids i hi c (List.mem_of_getElem? hc)⟩
  refine ⟨hR, hR', fun i j ht => ?_⟩
  obtain ⟨rfl, hi⟩ := key i j ht
  obtain ⟨c1, c2, c3, c4, c5⟩ := hm i hi
  exact ⟨c1.symm, c2.symm, c3.symm, c4.symm, by rw [c5, List.length_map]⟩
/-- Other lines: as right as before, where each line is one. -/
theorem right_lines {row : Row} {l m : List Nd} {r : Int} (hl : NoLine l m) (hrow : ∀ i, inR l i → ∀ ks, row (bare (at' l i)) ks = true → row (bare (at' m i)) ks = true) (H : RightP row l r) : RightP row m r := by
  have hin : ∀ i, inR m i ↔ inR l i := fun i => by unfold inR; rw [hl.1]
  have hlev : ∀ i v, Lev m r i v → Lev l r i v := by
    intro i v h
    induction h with
    | top => exact .top
    | @kid i v p c hi hc ih =>
      have hI := lev_in H.kids H.top ih
      rw [(hl.2 i hI).2.2.2.2] at hc
      rw [(hl.2 i hI).1]
      exact .kid ih hc
  have hlev' : ∀ i v, Lev l r i v → Lev m r i v := by
    intro i v h
    induction h with
    | top => exact .top
    | @kid i v p c hi hc ih =>
      have hI := lev_in H.kids H.top hi
      rw [← (hl.2 i hI).2.2.2.2] at hc
      rw [← (hl.2 i hI).1]
      exact .kid ih hc
  refine ⟨by rw [hl.1]; exact H.few, (hin r).2 H.top, ?_, ?_, ?_, ?_, ?_, ?_, ?_⟩
  · intro i hi c hc
    rw [(hl.2 i ((hin i).1 hi)).2.2.2.2] at hc
    exact (hin c).2 (H.kids i ((hin i).1 hi) c hc)
  · intro i j p q c hi hj hp hq
    rw [(hl.2 i ((hin i).1 hi)).2.2.2.2] at hp
    rw [(hl.2 j ((hin j).1 hj)).2.2.2.2] at hq
    exact H.once i j p q c ((hin i).1 hi) ((hin j).1 hj) hp hq
  · intro i hi hc
    rw [(hl.2 i ((hin i).1 hi)).2.2.2.2] at hc
    exact H.free i ((hin i).1 hi) hc
  · intro i hi
    obtain ⟨v, hv⟩ := H.all i ((hin i).1 hi)
    exact ⟨v, hlev' i v hv⟩
  · intro i hi
    have hI := (hin i).1 hi
    have e : kinds m (at' m i) = kinds l (at' l i) := by
      unfold kinds
      rw [(hl.2 i hI).2.2.2.2]
      refine List.map_congr_left fun c hc => ?_
      have := hl.2 c (H.kids i hI c hc)
      rw [this.1, this.2.1]
    rw [e]
    exact hrow i hI _ (H.rows i hI)
  · intro i v h
    exact H.deep i v (hlev i v h)
  · have := hl.2 r H.top
    rw [this.1, this.2.1, this.2.2.2.1]
    exact H.head

end Go.Proofs.Ytmddffacjkkeiaa.Nd
