/-
  Layers 5 and 6: a list whose nodes stand behind their kids, made node by node: what waits for a parent is a stack.
-/
import Derived.Test.YtmddffacjkkeiaaNdMath
namespace Go.Proofs.Ytmddffacjkkeiaa.Nd

/-- A list made node by node; the places that are nobody's kid yet, each with the levels below it (at most). -/
inductive Post (row : Row) : List Nd → List (Int × Nat) → Prop
  | nil : Post row [] []
  | push {l : List Nd} {S K : List (Int × Nat)} {nd : Nd} {h : Nat} : Post row l (S ++ K) → nd.kids = K.map (·.1) → (∀ (p : Nat) (x : Int × Nat), K[p]? = some x → x.2 + up nd.k p ≤ h) →
      row (bare nd) (kinds l nd) = true → Post row (l ++ [nd]) (S ++ [((l.length : Int), h)])

theorem at_old {l : List Nd} {nd : Nd} {i : Int} (h : inR l i) : at' (l ++ [nd]) i = at' l i := by
  unfold at'
  have : i.toNat < l.length := by have := h.1; have := h.2; omega
  rw [List.getD_eq_getElem?_getD, List.getD_eq_getElem?_getD, List.getElem?_append_left this]
theorem at_new {l : List Nd} {nd : Nd} : at' (l ++ [nd]) (l.length : Int) = nd := by
  unfold at'
  rw [List.getD_eq_getElem?_getD, Int.toNat_natCast, List.getElem?_append_right (Nat.le_refl _), Nat.sub_self]
  rfl
theorem inR_new {l : List Nd} {nd : Nd} {i : Int} (h : inR (l ++ [nd]) i) : inR l i ∨ i = l.length := by
  obtain ⟨h1, h2⟩ := h
  rw [List.length_append, List.length_singleton] at h2
  by_cases e : i = l.length
  · exact .inr e
  · exact .inl ⟨h1, by omega⟩
theorem inR_more {l : List Nd} {nd : Nd} {i : Int} (h : inR l i) : inR (l ++ [nd]) i := ⟨h.1, by have := h.2; rw [List.length_append, List.length_singleton]; omega⟩

structure PostI (row : Row) (l : List Nd) (S : List (Int × Nat)) : Prop where
  asc : (S.map (·.1)).Pairwise (· < ·)
  ins : ∀ x ∈ S, inR l x.1
  less : ∀ i, inR l i → ∀ c ∈ (at' l i).kids, 0 ≤ c ∧ c < i
  sorted : ∀ i, inR l i → (at' l i).kids.Pairwise (· < ·)
  once : ∀ (i j : Int) (p q : Nat) (c : Int), inR l i → inR l j → (at' l i).kids[p]? = some c → (at' l j).kids[q]? = some c → i = j ∧ p = q
  free : ∀ x ∈ S, ∀ i, inR l i → x.1 ∉ (at' l i).kids
  all : ∀ j, inR l j → (∃ x ∈ S, x.1 = j) ∨ ∃ (i : Int) (p : Nat), inR l i ∧ (at' l i).kids[p]? = some j
  rows : ∀ i, inR l i → row (bare (at' l i)) (kinds l (at' l i)) = true
  high : ∃ h : Int → Nat, (∀ x ∈ S, h x.1 = x.2) ∧ ∀ i, inR l i → ∀ (p : Nat) (c : Int), (at' l i).kids[p]? = some c → h c + up (at' l i).k p ≤ h i

theorem kinds_more {l : List Nd} {nd : Nd} {n : Nd} (h : ∀ c ∈ n.kids, inR l c) : kinds (l ++ [nd]) n = kinds l n := by
  unfold kinds
  refine List.map_congr_left fun c hc => ?_
  rw [at_old (h c hc)]
theorem pair_nodup {K : List Int} (h : K.Pairwise (· < ·)) {p q : Nat} {c : Int} (hp : K[p]? = some c) (hq : K[q]? = some c) : p = q := by
  rw [List.pairwise_iff_getElem] at h
  obtain ⟨hp1, hp2⟩ := List.getElem?_eq_some_iff.1 hp
  obtain ⟨hq1, hq2⟩ := List.getElem?_eq_some_iff.1 hq
  rcases Nat.lt_trichotomy p q with e | e | e
  · have := h p q hp1 hq1 e; omega
  · exact e
  · have := h q p hq1 hp1 e; omega

theorem Post.inv {row : Row} {l : List Nd} {S : List (Int × Nat)} (hP : Post row l S) : PostI row l S := by
  induction hP with
  | nil =>
    have no : ∀ i, ¬ inR ([] : List Nd) i := fun i h => by have := h.1; have := h.2; simp at this; omega
    exact ⟨List.Pairwise.nil, (fun x h => by cases h), (fun i h => absurd h (no i)), (fun i h => absurd h (no i)), (fun i j p q c h => absurd h (no i)), (fun x h => by cases h), (fun j h => absurd h (no j)), (fun i h => absurd h (no i)), fun _ => 0, (fun x h => by cases h), (fun i h => absurd h (no i))⟩
  | @push l S K nd h hP hk hh hr ih =>
    have hasc := ih.asc
    rw [List.map_append, List.pairwise_append] at hasc
    obtain ⟨a1, a2, a3⟩ := hasc
    have inS : ∀ x ∈ S, inR l x.1 := fun x hx => ih.ins x (List.mem_append_left _ hx)
    have inK : ∀ c ∈ nd.kids, inR l c := fun c hc => by
      rw [hk] at hc
      obtain ⟨x, hx, rfl⟩ := List.mem_map.1 hc
      exact ih.ins x (List.mem_append_right _ hx)
    have notK : ∀ c ∈ nd.kids, ∀ i, inR l i → c ∉ (at' l i).kids := fun c hc => by
      rw [hk] at hc
      obtain ⟨x, hx, rfl⟩ := List.mem_map.1 hc
      exact ih.free x (List.mem_append_right _ hx)
    have less : ∀ i, inR (l ++ [nd]) i → ∀ c ∈ (at' (l ++ [nd]) i).kids, 0 ≤ c ∧ c < i := by
      intro i hi c hc
      rcases inR_new hi with h1 | rfl
      · rw [at_old h1] at hc
        exact ih.less i h1 c hc
      · rw [at_new] at hc
        exact inK c hc
    refine ⟨?_, ?_, less, ?_, ?_, ?_, ?_, ?_, ?_⟩
    · rw [List.map_append, List.pairwise_append]
      refine ⟨a1, List.pairwise_singleton _ _, fun x hx y hy => ?_⟩
      obtain ⟨x', hx', rfl⟩ := List.mem_map.1 hx
      simp only [List.map_cons, List.map_nil, List.mem_singleton] at hy
      subst hy
      exact (inS x' hx').2
    · intro x hx
      rcases List.mem_append.1 hx with h1 | h1
      · exact inR_more (inS x h1)
      · rw [List.mem_singleton] at h1
        subst h1
        exact ⟨Int.natCast_nonneg _, by rw [List.length_append, List.length_singleton]; show (l.length : Int) < _; omega⟩
    · intro i hi
      rcases inR_new hi with h1 | rfl
      · rw [at_old h1]; exact ih.sorted i h1
      · rw [at_new, hk]; exact a2
    · intro i j p q c hi hj hp hq
      rcases inR_new hi with h1 | rfl <;> rcases inR_new hj with h2 | rfl
      · rw [at_old h1] at hp
        rw [at_old h2] at hq
        exact ih.once i j p q c h1 h2 hp hq
      · rw [at_old h1] at hp
        rw [at_new] at hq
        exact absurd (List.mem_of_getElem? hp) (notK c (List.mem_of_getElem? hq) i h1)
      · rw [at_new] at hp
        rw [at_old h2] at hq
        exact absurd (List.mem_of_getElem? hq) (notK c (List.mem_of_getElem? hp) j h2)
      · rw [at_new] at hp hq
        refine ⟨rfl, pair_nodup (K := nd.kids) ?_ hp hq⟩
        rw [hk]; exact a2
    · intro x hx i hi hc
      rcases List.mem_append.1 hx with h1 | h1
      · rcases inR_new hi with h2 | rfl
        · rw [at_old h2] at hc
          exact ih.free x (List.mem_append_left _ h1) i h2 hc
        · rw [at_new, hk] at hc
          have := a3 x.1 (List.mem_map_of_mem h1) x.1 hc
          omega
      · rw [List.mem_singleton] at h1
        subst h1
        have := less i hi _ hc
        have := hi.2
        rw [List.length_append, List.length_singleton] at this
        dsimp only at *
        omega
    · intro j hj
      rcases inR_new hj with h1 | rfl
      · rcases ih.all j h1 with ⟨x, hx, rfl⟩ | ⟨i, p, hi, hp⟩
        · rcases List.mem_append.1 hx with h2 | h2
          · exact .inl ⟨x, List.mem_append_left _ h2, rfl⟩
          · obtain ⟨p, hp⟩ := List.getElem?_of_mem h2
            refine .inr ⟨l.length, p, ⟨Int.natCast_nonneg _, by rw [List.length_append, List.length_singleton]; omega⟩, ?_⟩
            rw [at_new, hk, List.getElem?_map, hp]
            rfl
        · exact .inr ⟨i, p, inR_more hi, by rw [at_old hi]; exact hp⟩
      · exact .inl ⟨_, List.mem_append_right _ (List.mem_singleton.2 rfl), rfl⟩
    · intro i hi
      rcases inR_new hi with h1 | rfl
      · rw [at_old h1, kinds_more (fun c hc => ⟨(ih.less i h1 c hc).1, by have := (ih.less i h1 c hc).2; have := h1.2; omega⟩)]
        exact ih.rows i h1
      · rw [at_new, kinds_more inK]
        exact hr
    · obtain ⟨f, f1, f2⟩ := ih.high
      refine ⟨fun i => if i = l.length then h else f i, fun x hx => ?_, fun i hi p c hc => ?_⟩
      · rcases List.mem_append.1 hx with h1 | h1
        · have := (inS x h1).2
          show (if x.1 = (l.length : Int) then h else f x.1) = x.2
          rw [if_neg (by omega)]
          exact f1 x (List.mem_append_left _ h1)
        · rw [List.mem_singleton] at h1
          subst h1
          show (if (l.length : Int) = (l.length : Int) then h else _) = h
          rw [if_pos rfl]
      · have hl := less i hi c (List.mem_of_getElem? hc)
        show (if c = (l.length : Int) then h else f c) + _ ≤ if i = (l.length : Int) then h else f i
        rcases inR_new hi with h1 | rfl
        · have := h1.2
          rw [if_neg (by omega), if_neg (by omega)]
          rw [at_old h1] at hc ⊢
          exact f2 i h1 p c hc
        · rw [if_neg (by omega), if_pos rfl]
          rw [at_new] at hc ⊢
          rw [hk, List.getElem?_map] at hc
          cases hx : K[p]? with
          | none => rw [hx] at hc; cases hc
          | some x =>
            rw [hx] at hc
            cases hc
            have := hh p x hx
            show f x.1 + _ ≤ h
            rw [f1 x (List.mem_append_right _ (List.mem_of_getElem? hx))]
            exact this

theorem Post.ne {row : Row} {l : List Nd} {S : List (Int × Nat)} (hP : Post row l S) (h : S ≠ []) : ∃ l' nd T y, l = l' ++ [nd] ∧ S = T ++ [((l'.length : Int), y)] := by
  cases hP with
  | nil => exact absurd rfl h
  | push _ _ _ _ => exact ⟨_, _, _, _, rfl, rfl⟩
/-- One place is left over: the last one, and all is right. -/
theorem Post.right {row : Row} {l : List Nd} {root : Int} {h : Nat} (hP : Post row l [(root, h)]) (hn : l.length ≤ 4096) (hh : h ≤ 100) (head : (at' l root).k = 26 ∧ (at' l root).n = 1 ∧ (at' l root).names = []) : RightP row l root := by
  have H := hP.inv
  have top := H.ins (root, h) (List.mem_singleton.2 rfl)
  have inK : ∀ i, inR l i → ∀ c ∈ (at' l i).kids, inR l c := fun i hi c hc => ⟨(H.less i hi c hc).1, by have := (H.less i hi c hc).2; have := hi.2; omega⟩
  refine ⟨hn, top, inK, H.once, fun i hi => H.free (root, h) (List.mem_singleton.2 rfl) i hi, ?_, H.rows, ?_, head⟩
  · have key : ∀ (k : Nat) (i : Int), inR l i → (l.length : Int) - i ≤ k → ∃ v, Lev l root i v := by
      intro k
      induction k with
      | zero => intro i hi hk; have := hi.2; omega
      | succ k ih =>
        intro i hi hk
        rcases H.all i hi with ⟨x, hx, rfl⟩ | ⟨j, p, hj, hp⟩
        · rw [List.mem_singleton] at hx
          subst hx
          exact ⟨0, .top⟩
        · have := H.less j hj i (List.mem_of_getElem? hp)
          obtain ⟨v, hv⟩ := ih j hj (by omega)
          exact ⟨_, .kid hv hp⟩
    exact fun i hi => key l.length i hi (by have := hi.1; omega)
  · obtain ⟨f, f1, f2⟩ := H.high
    have f0 := f1 (root, h) (List.mem_singleton.2 rfl)
    have key : ∀ (i : Int) (v : Nat), Lev l root i v → v + f i ≤ h := by
      intro i v hL
      induction hL with
      | top => rw [show f root = h from f0]; omega
      | @kid i v p c hL hc ih =>
        have := f2 i (lev_in inK top hL) p c hc
        omega
    intro i v hL
    have := key i v hL
    omega
theorem Post.root {row : Row} {l : List Nd} {root : Int} {h : Nat} (hP : Post row l [(root, h)]) : root = (l.length : Int) - 1 := by
  obtain ⟨l', nd, T, y, rfl, e⟩ := hP.ne (by simp)
  cases T with
  | nil =>
    simp only [List.nil_append, List.cons.injEq, Prod.mk.injEq, and_true] at e
    rw [e.1, List.length_append, List.length_singleton]
    omega
  | cons a T => have := congrArg List.length e; simp at this

end Go.Proofs.Ytmddffacjkkeiaa.Nd
