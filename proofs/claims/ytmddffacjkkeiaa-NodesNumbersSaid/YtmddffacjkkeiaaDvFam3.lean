/-
  Layer 5: rows of places that grow beside nodes that hold places.
-/
import Derived.Test.YtmddffacjkkeiaaDvFam2
namespace Go.Proofs.Ytmddffacjkkeiaa.Nd
open Go Go.RowKit Go.ChangeShapes Go.WideShapes Go.Shelf
open Go.Proofs.Ytmddffacjkkeiaa.Rf

set_option maxHeartbeats 1000000 in
theorem leaf_is (w : World) : Calls Try.prog 6 #[] w fun e w' => e = .returned (.agg #[.int .u8 23, .int .i64 5, .string ⟨#[]⟩, .slice none 0 0, .slice none 0 0, .int .i64 2]) ∧ Below w.heap.size w w' := by
  go_enter Try.func6, Try.ntmps6
  go_wp2_with fail
  obtain ⟨W, hW⟩ : ∃ W, w.alloc (.cells #[.int .u8 23, .int .i64 5, .string ⟨#[]⟩, .slice none 0 0, .slice none 0 0, .int .i64 2] 30) = W := ⟨_, rfl⟩
  have hb : Below w.heap.size w W := by rw [← hW]; exact (Below.refl _ _).alloc (Nat.le_refl _) _
  have h0 : W.heap[w.heap.size]? = some (.cells #[.int .u8 23, .int .i64 5, .string ⟨#[]⟩, .slice none 0 0, .slice none 0 0, .int .i64 2] 30 (0, 0)) := by rw [← hW]; exact hit rfl
  rw [hW]
  have x0 := cell_of h0 0 _ rfl
  have x1 := cell_of h0 1 _ rfl
  have x2 := cell_of h0 2 _ rfl
  have x3 := cell_of h0 3 _ rfl
  have x4 := cell_of h0 4 _ rfl
  have x5 := cell_of h0 5 _ rfl
  refine bodyPost_ret (v := .agg #[.int .u8 23, .int .i64 5, .string ⟨#[]⟩, .slice none 0 0, .slice none 0 0, .int .i64 2]) (by simp [results, Try.results6, go_sem, x0, x1, x2, x3, x4, x5]) rfl ?_
  exact ⟨rfl, hb⟩

/-- A node without kids, or with one that is even, in a block of its own. -/
def Kid (r : R3) : Prop := r.2.2 = .slice none 0 0 ∨ ∃ (g i : Nat), r.2.2 = .slice (some ⟨g, 0, none⟩) 1 1 ∧ r.1.kids = [((2 * i : Nat) : Int)]
theorem items_zero : ∀ n, 0 < n → (items n)[0]? = some 1
  | 1, _ => rfl
  | n + 2, _ => by
    have h := items_zero (n + 1) (by omega)
    have e : items (n + 2) = items (n + 1) ++ [((2 * (n + 1) + 1 : Nat) : Int)] := by unfold items; rw [show itemsS (n + 2) = itemsS (n + 1) ++ [(((2 * (n + 1) + 1 : Nat) : Int), 1)] from rfl, List.map_append]; rfl
    rw [e, List.getElem?_append_left (by rw [items_len]; omega)]
    exact h
theorem kid_ne {w : World} {r : R3} {b n : Nat} {v : Value} (hs : Sub w r) (hk : Kid r) (hn : 0 < n) (h : w.ownsRow b 3 1 v n ((items n).map (.int .i64))) : r.2.2.ownBlock = none ∨ r.2.2.ownBlock ≠ v.ownBlock := by
  rcases hk with e | ⟨g, i, e, hr⟩
  · left; rw [e]; rfl
  · right
    obtain ⟨g', c', rfl⟩ := own_ne h hn
    rw [e]
    intro he
    have he2 : g = g' := by simpa [Value.ownBlock] using he
    subst he2
    have h2 := hs.2
    rw [e, hr] at h2
    obtain ⟨_, _, _, cur, hc, ha⟩ := own_at h2
    obtain ⟨_, _, _, cur', hc', ha'⟩ := own_at h
    rw [hc] at hc'
    cases hc'
    have a1 := ha 0 (.int .i64 ((2 * i : Nat) : Int)) rfl
    have a2 := ha' 0 (.int .i64 1) (by rw [List.getElem?_map, items_zero n hn]; rfl)
    rw [a1] at a2
    have := Option.some.inj a2
    simp only [Value.int.injEq, true_and] at this
    omega
theorem Sub.keptI {w w' : World} {r : R3} {b n : Nat} {v : Value} {xs : List Value} (h : Sub w r) (hv : w.ownsRow b 3 1 v n xs) (hg : w.grownBy w' v.ownBlock) (hk : r.2.2.ownBlock = none ∨ r.2.2.ownBlock ≠ v.ownBlock) : Sub w' r :=
  ⟨h.1.kept hg (ownBlock_ne h.1 hv (by decide)), h.2.kept hg hk⟩
theorem OwnNd.keptI {w w' : World} {base : Nat} {u : Value} {rs : List R3} {b n : Nat} {v : Value} {xs : List Value} (h : OwnNd w base u rs) (hv : w.ownsRow b 3 1 v n xs) (hg : w.grownBy w' v.ownBlock) (hk : ∀ r ∈ rs, r.2.2.ownBlock = none ∨ r.2.2.ownBlock ≠ v.ownBlock) : OwnNd w' base u rs :=
  ⟨h.1.kept hg (ownBlock_ne h.1 hv (by decide)), fun r hr => (h.2 r hr).keptI hv hg (hk r hr)⟩
/-- Of a place that lies below, and a row that lies above. -/
theorem kid_below {w : World} {r : R3} {g : Nat} (hs : Sub w r) (hg : w.heap.size ≤ g) : r.2.2.ownBlock = none ∨ r.2.2.ownBlock ≠ some g := by
  rcases hs.2.2 with ⟨e, _⟩ | ⟨g', cap, cur, e, _, hh, _⟩
  · left; rw [e]; rfl
  · right
    rw [e]
    intro he
    have : g' = g := by simpa [Value.ownBlock] using he
    have := lt_of_heap hh
    omega

/-- 'append(own, others...)' of places. -/
theorem wpList_append_ints {w : World} {ops : Array Oper} {rest : List Oper} {o : Oper} {a : Act} {Q : Exit → Act → World → Prop} (hgd : o.guard = none) (s x : Operand)
    (ho : o.op = .call { callee := .builtin .append, args := #[s, x], argTypes := #[28, 28] })
    (base : Nat) (v : Value) (xs ys : List Int) (hs : a.eval s = v) (hown : w.ownsRow base 3 1 v xs.length (xs.map (.int .i64))) (g c n : Nat) (hn : ys.length = n) (hx : a.eval x = .slice (some ⟨g, 0, none⟩) n c)
    (hc : ∀ (j : Nat) (u : Value), (ys.map (Value.int .i64))[j]? = some u → w.cell? ⟨g, j, none⟩ = some u) (hl : xs.length + ys.length ≤ 1000000000) (hbase : base ≤ w.heap.size)
    (h : ∀ v' w', w'.ownsRow base 3 1 v' (xs ++ ys).length ((xs ++ ys).map (.int .i64)) → w.grownBy w' v.ownBlock → wpList Try.prog ops Q rest (a.put o.dst v') w') :
    wpList Try.prog ops Q (o :: rest) a w := by
  subst hn
  obtain ⟨i, hi, hz, hsize, hby⟩ := info_parts infoInt
  refine wpList_append_own (w := w) hgd s x 28 ho base 3 i _ 1 8 Try.underlying28 hi hz hsize hby rfl (by decide) v xs.length (xs.map (.int .i64)) hs hown ⟨g, 0, none⟩ ys.length c (ys.map (.int .i64)) hx (by rw [List.length_map, Nat.mul_one]) (fun j u hj => ?_) (fun u hu => ?_) (by unfold maxLen; omega) (by omega) hbase (fun v' w' h1 h2 _ => h v' w' ?_ h2)
  · rw [add_plain, Nat.zero_add]
    exact hc j u hj
  · obtain ⟨z, _, rfl⟩ := List.mem_map.1 hu
    rfl
  · rw [List.length_append, List.map_append]; exact h1
theorem below_own {w w' : World} {base n size : Nat} {e : TypeId} {v : Value} {xs : List Value} (hv : w.ownsRow base e size v n xs) (hg : w.grownBy w' v.ownBlock) (hb : base ≤ w.heap.size) : Below base w w' :=
  (Below.refl _ _).grown hg hb (fun k hk => (hv.lt k hk).1)

theorem big_succ (n : Nat) : big (n + 1) = big n ++ [leafN, nItem ((2 * n : Nat) : Int)] := rfl
theorem items_succ (n : Nat) : items (n + 1) = items n ++ [((2 * n + 1 : Nat) : Int)] := by
  unfold items
  rw [show itemsS (n + 1) = itemsS n ++ [(((2 * n + 1 : Nat) : Int), 1)] from rfl, List.map_append]
  rfl
theorem over_eq : over = big 2046 ++ [leafN, nItem 4092, nTable (items 2046 ++ [4093])] := by
  show big (2046 + 1) ++ [nTable (items (2046 + 1))] = _
  rw [big_succ, items_succ, List.append_assoc]
  rfl

/-- The pieces of a function's text. -/
def findR (n : Nat) : Code → Option Code
  | .region k ops b => if k = n then some (.region k ops b) else none
  | .seq a b => match findR n a with
    | some c => some c
    | none => findR n b
  | .block _ c => findR n c
  | .loop c => findR n c
  | .scope c => findR n c
  | .cond _ a b => match findR n a with
    | some c => some c
    | none => findR n b
  | _ => none
def findB (n : Nat) : Code → Option Code
  | .block k c => if k = n then some (.block k c) else findB n c
  | .seq a b => match findB n a with
    | some c => some c
    | none => findB n b
  | .loop c => findB n c
  | .scope c => findB n c
  | .cond _ a b => match findB n a with
    | some c => some c
    | none => findB n b
  | _ => none
noncomputable def rg (n : Nat) : Code := (Try.f3.body.bind (findR n)).getD .skip
noncomputable def bk (n : Nat) : Code := (Try.f3.body.bind (findB n)).getD .skip

end Go.Proofs.Ytmddffacjkkeiaa.Nd
