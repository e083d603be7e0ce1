/-
  Layer 5: the walk's iterator.
-/
import Derived.Test.YtmddffacjkkeiaaDvIter
import Derived.Maps.AppendAt
namespace Go.Proofs.Ytmddffacjkkeiaa.Nd
open Go Go.RowKit Go.ChangeShapes Go.WideShapes Go.Shelf
open Go.Proofs.Ytmddffacjkkeiaa.Rf

attribute [local go_sem] Oper.semAt_some

/-! ### Places still to be looked at, in memory -/
def spotC (x : PV) : List Value := [.int .i64 x.1, .int .i64 (x.2 : Int)]
def spots (T : List PV) : List Value := T.reverse.flatMap spotC
theorem spots_cons (x : PV) (T : List PV) : spots (x :: T) = spots T ++ spotC x := by unfold spots; rw [List.reverse_cons, List.flatMap_append]; simp
theorem spots_length : ∀ T : List PV, (spots T).length = T.length * 2
  | [] => rfl
  | x :: T => by rw [spots_cons, List.length_append, spots_length T, List.length_cons]; simp [spotC]; omega
abbrev TY : List Nat := [76, 75, 30]

/-- The last one taken off. -/
theorem own_pop {w : World} {b : Nat} {e : TypeId} {ao : Option Addr} {n cap : Nat} {xs ys : List Value} (h : w.ownsRow b e 2 (.slice ao (n + 1) cap) (n + 1) (xs ++ ys)) (hx : xs.length = n * 2) : w.ownsRow b e 2 (.slice ao n cap) n xs := by
  refine ⟨hx, .inr ?_⟩
  rcases h.2 with ⟨_, h0⟩ | ⟨g, cap', cur, hv, hg, hh, hc, hm, hs, ht⟩
  · omega
  · cases hv
    refine ⟨g, cap, cur, rfl, hg, hh, by omega, hm, hs, ?_⟩
    have h1 : cur.toList.take (n * 2) = (cur.toList.take ((n + 1) * 2)).take (n * 2) := by rw [List.take_take, Nat.min_eq_left (by omega)]
    rw [h1, ht, List.take_append_of_le_length (by omega), List.take_of_length_le (by omega)]
/-- The last one's cells. -/
theorem own_top {w : World} {b : Nat} {e : TypeId} {ao : Option Addr} {n cap : Nat} {xs : List Value} {u v : Value} (h : w.ownsRow b e 2 (.slice ao (n + 1) cap) (n + 1) (xs ++ [u, v])) (hx : xs.length = n * 2) : ∃ g, ao = some ⟨g, 0, none⟩ ∧ b ≤ g ∧ n + 1 ≤ cap ∧ w.cell? ⟨g, n * 2, none⟩ = some u ∧ w.cell? ⟨g, n * 2 + 1, none⟩ = some v := by
  rcases h.2 with ⟨_, h0⟩ | ⟨g, cap', cur, hv, hg, hh, hc, hm, hs, ht⟩
  · omega
  · cases hv
    have at' : ∀ j (z : Value), (xs ++ [u, v])[j]? = some z → j < (n + 1) * 2 → w.cell? ⟨g, j, none⟩ = some z := by
      intro j z hz hj
      refine cell_of hh j z ?_
      rw [← ht, List.getElem?_take, if_pos hj, Array.getElem?_toList] at hz
      exact hz
    refine ⟨g, rfl, hg, hc, at' _ _ ?_ (by omega), at' _ _ ?_ (by omega)⟩
    · rw [List.getElem?_append_right (by omega), hx, Nat.sub_self]; rfl
    · rw [List.getElem?_append_right (by omega), hx, show n * 2 + 1 - n * 2 = 1 by omega]; rfl
theorem own_tame {A C : World} {p : Nat → Obj → Bool} {b : Nat} {e : TypeId} {size n : Nat} {v : Value} {xs : List Value} (h : A.ownsRow b e size v n xs) (hT : Tame p A C) (hp : ∀ g cs, p g (.cells cs e (0, 0)) = false) : C.ownsRow b e size v n xs := by
  refine ⟨h.1, ?_⟩
  rcases h.2 with h2 | ⟨g, cap, cur, hv, hg, hh, r⟩
  · exact .inl h2
  · exact .inr ⟨g, cap, cur, hv, hg, hT.same _ _ hh (hp _ _), r⟩
theorem infoSpot : (Try.prog.info? 75).map (fun i => (i.zero, i.size, i.bytes)) = some (some (.agg #[.int .i64 0, .int .i64 0]), 2, 16) := by kernel_rfl

theorem turn_nil {B g : Nat} {cs : Array Value} {t : TypeId} {fr : Nat × Nat} : turn [] B g (.cells cs t fr) = false := turn_ty rfl

/-- Kids of x still to be put behind, from the p-th on, ahead of r. -/
def left (L : List Nd) (x : PV) (r : List PV) (j : Nat) : List PV := (kidsLev L x).drop ((at' L x.1).kids.length - j) ++ r
theorem kidsLev_length (L : List Nd) (x : PV) : (kidsLev L x).length = (at' L x.1).kids.length := by unfold kidsLev; rw [List.length_mapIdx]
theorem left_zero (L : List Nd) (x : PV) (r : List PV) : left L x r 0 = r := by
  unfold left
  rw [Nat.sub_zero, List.drop_of_length_le (by rw [kidsLev_length]; exact Nat.le_refl _)]; rfl
theorem left_all (L : List Nd) (x : PV) (r : List PV) : left L x r (at' L x.1).kids.length = kidsLev L x ++ r := by
  unfold left
  rw [Nat.sub_self]; rfl
theorem left_succ (L : List Nd) (x : PV) (r : List PV) (j : Nat) (h : j < (at' L x.1).kids.length) : left L x r (j + 1) = ((at' L x.1).kids.getD ((at' L x.1).kids.length - 1 - j) 0, x.2 + up (at' L x.1).k ((at' L x.1).kids.length - 1 - j)) :: left L x r j := by
  unfold left
  obtain ⟨m, hm⟩ : ∃ m, (at' L x.1).kids.length = m := ⟨_, rfl⟩
  have hl := kidsLev_length L x
  rw [hm] at h hl ⊢
  obtain ⟨q, hq⟩ : ∃ q, m - 1 - j = q := ⟨_, rfl⟩
  rw [hq, show m - (j + 1) = q by omega]
  have hi : q < (kidsLev L x).length := by omega
  rw [List.drop_eq_getElem_cons hi, show q + 1 = m - j by omega, List.cons_append]
  congr 1
  have hi2 : q < (at' L x.1).kids.length := by omega
  rw [List.getD_eq_getElem?_getD, List.getElem?_eq_getElem hi2]
  simp [kidsLev]
theorem left_length (L : List Nd) (x : PV) (r : List PV) (j : Nat) (h : j ≤ (at' L x.1).kids.length) : (left L x r j).length = j + r.length := by
  unfold left
  rw [List.length_append, List.length_drop, kidsLev_length]; omega

/-- 'todo = append(todo, spot{k, ..})', within a round: where the two cells of what is new lie. -/
theorem cell_two_new (W : World) (u v : Value) (T : TypeId) : ∀ (j : Nat) (z : Value), [u, v][j]? = some z → (W.alloc (.cells #[u, v] T)).cell? ((⟨W.heap.size, 0, none⟩ : Addr).add j) = some z := by
  intro j z hz
  rw [show (⟨W.heap.size, 0, none⟩ : Addr).add j = ⟨W.heap.size, j, none⟩ from by simp [Addr.add]; omega, World.cell?_alloc_mark, ← hz]
  simp

end Go.Proofs.Ytmddffacjkkeiaa.Nd
