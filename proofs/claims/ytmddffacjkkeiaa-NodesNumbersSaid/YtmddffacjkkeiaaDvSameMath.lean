/-
  Layer 5: two walks side by side.
-/
import Derived.Test.YtmddffacjkkeiaaDvMath
namespace Go.Proofs.Ytmddffacjkkeiaa.Nd

/-- Two rows of places, one beside the other. -/
def Pr (a b : List Nd) (x y : Int) (T U : List PV) : Prop := T.length = U.length ∧ ∀ (j : Nat) (p q : PV), T[j]? = some p → U[j]? = some q → Two a b x y p.1 q.1
theorem Pr.nil {a b : List Nd} {x y : Int} : Pr a b x y [] [] := ⟨rfl, fun j p q h => by cases h⟩
theorem Pr.cons {a b : List Nd} {x y : Int} {T U : List PV} {p q : PV} (h : Two a b x y p.1 q.1) (k : Pr a b x y T U) : Pr a b x y (p :: T) (q :: U) := by
  refine ⟨by rw [List.length_cons, List.length_cons, k.1], fun j p' q' hp hq => ?_⟩
  cases j with
  | zero => cases hp; cases hq; exact h
  | succ j => exact k.2 j p' q' hp hq
theorem Pr.head {a b : List Nd} {x y : Int} {T U : List PV} {p q : PV} (h : Pr a b x y (p :: T) (q :: U)) : Two a b x y p.1 q.1 ∧ Pr a b x y T U :=
  ⟨h.2 0 p q rfl rfl, by have := h.1; rw [List.length_cons, List.length_cons] at this; omega, fun j p' q' hp hq => h.2 (j + 1) p' q' hp hq⟩
theorem Pr.append {a b : List Nd} {x y : Int} : ∀ {T U T' U' : List PV}, Pr a b x y T U → Pr a b x y T' U' → Pr a b x y (T ++ T') (U ++ U')
  | [], [], _, _, _, k => k
  | [], _ :: _, _, _, h, _ => by cases h.1
  | _ :: _, [], _, _, h, _ => by cases h.1
  | _ :: _, _ :: _, _, _, h, k => Pr.cons h.head.1 (Pr.append h.head.2 k)
theorem Pr.kids {a b : List Nd} {x y : Int} {p q : PV} (h : Two a b x y p.1 q.1) (hl : Like (at' a p.1) (at' b q.1)) : Pr a b x y (kidsLev a p) (kidsLev b q) := by
  refine ⟨by unfold kidsLev; rw [List.length_mapIdx, List.length_mapIdx]; exact hl.2.2.2.2, fun j p' q' hp hq => ?_⟩
  unfold kidsLev at hp hq
  rw [List.getElem?_mapIdx] at hp hq
  cases hc : (at' a p.1).kids[j]? with
  | none => rw [hc] at hp; cases hp
  | some c =>
    cases hd : (at' b q.1).kids[j]? with
    | none => rw [hd] at hq; cases hq
    | some d =>
      rw [hc] at hp
      rw [hd] at hq
      cases hp
      cases hq
      exact .kid h hc hd
theorem Pr.walk {a b : List Nd} {x y : Int} (hl : ∀ i j, Two a b x y i j → Like (at' a i) (at' b j)) : ∀ (k : Nat) (T U : List PV), Pr a b x y T U → Pr a b x y (vis a k T) (vis b k U) ∧ Pr a b x y (todo a k T) (todo b k U)
  | 0, _, _, h => ⟨.nil, h⟩
  | _ + 1, [], [], _ => ⟨.nil, .nil⟩
  | _ + 1, [], _ :: _, h => by cases h.1
  | _ + 1, _ :: _, [], h => by cases h.1
  | k + 1, p :: T, q :: U, h => by
    obtain ⟨h1, h2⟩ := Pr.walk hl k _ _ ((Pr.kids h.head.1 (hl _ _ h.head.1)).append h.head.2)
    exact ⟨h1.cons h.head.1, h2⟩

/-- What the code of Same finds out. -/
structure SameC (row : Row) (a : List Nd) (x : Int) (b : List Nd) (y : Int) : Prop where
  one : RightC row a x
  two : RightC row b y
  len : a.length = b.length
  like : ∀ (j : Nat) (p q : PV), (allV a x)[j]? = some p → (allV b y)[j]? = some q → Like (at' a p.1) (at' b q.1)

theorem SameP.sameC {row : Row} {a b : List Nd} {x y : Int} (H : SameP row a x b y) : SameC row a x b y := by
  have h1 := (right_iff row a x).2 H.one
  have h2 := (right_iff row b y).2 H.two
  have hp := Pr.walk H.like (a.length + b.length) [(x, 0)] [(y, 0)] (Pr.cons .top .nil)
  have e1 : vis a (a.length + b.length) [(x, 0)] = allV a x := (walk_done _ _ (by omega) (walk_ends h1.tied)).1
  have e2 : vis b (a.length + b.length) [(y, 0)] = allV b y := (walk_done _ _ (by omega) (walk_ends h2.tied)).1
  rw [e1, e2] at hp
  refine ⟨h1, h2, ?_, fun j p q hp' hq' => H.like _ _ (hp.1.2 j p q hp' hq')⟩
  rw [← h1.all, ← h2.all]
  exact hp.1.1

end Go.Proofs.Ytmddffacjkkeiaa.Nd
