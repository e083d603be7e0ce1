/-
  Layer 5: rows of nodes of the call's own: put behind one another, a cell turned, read as a syntax.
-/
import Derived.Test.YtmddffacjkkeiaaDvNode
namespace Go.Proofs.Ytmddffacjkkeiaa.Nd
open Go Go.RowKit Go.ChangeShapes Go.WideShapes

theorem own_at {w : World} {b g n cap size : Nat} {o : Nat} {e : TypeId} {xs : List Value} (h : w.ownsRow b e size (.slice (some ⟨g, o, none⟩) n cap) n xs) : o = 0 ∧ b ≤ g ∧ n ≤ cap ∧ ∃ cur, w.heap[g]? = some (.cells cur e (0, 0)) ∧ ∀ (j : Nat) (u : Value), xs[j]? = some u → cur[j]? = some u := by
  rcases h.2 with ⟨h1, _⟩ | ⟨g', cap', cur, hv, hg, hh, hc, hm, hs, ht⟩
  · cases h1
  · cases hv
    refine ⟨rfl, hg, hc, cur, hh, fun j u hj => ?_⟩
    rw [← ht] at hj
    have h2 := (List.getElem?_eq_some_iff.1 hj).1
    rw [List.length_take] at h2
    rw [List.getElem?_take, if_pos (by omega), Array.getElem?_toList] at hj
    exact hj
theorem own_ne {w : World} {b n size : Nat} {e : TypeId} {v : Value} {xs : List Value} (h : w.ownsRow b e size v n xs) (hn : 0 < n) : ∃ g cap, v = .slice (some ⟨g, 0, none⟩) n cap := by
  rcases h.2 with ⟨_, h1⟩ | ⟨g, cap, cur, hv, _⟩
  · omega
  · exact ⟨g, cap, hv⟩
theorem lst_of {w : World} {b n : Nat} {e : TypeId} {v : Value} {xs : List Value} (h : w.ownsRow b e 1 v n xs) (hl : n ≤ 9223372036854775807) : Lst w v xs := by
  have hn : xs.length = n := by have := h.1; omega
  rcases h.2 with ⟨rfl, h1⟩ | ⟨g, cap, cur, rfl, hg, hh, hc, hm, hs, ht⟩
  · subst h1
    exact ⟨none, 0, by rw [hn], by omega, fun h => absurd (List.length_eq_zero_iff.1 hn) h⟩
  · refine ⟨some ⟨g, 0, none⟩, cap, by rw [hn], by omega, fun _ => ⟨g, 0, (Array.getElem?_eq_some_iff.1 hh).1, rfl, fun j hj => ?_⟩⟩
    obtain ⟨_, _, _, cur', hh', hx⟩ := own_at h
    rw [hh] at hh'
    cases hh'
    rw [Nat.zero_add]
    exact cell_of hh j _ (hx j _ (List.getElem?_eq_getElem hj))

/-- The cells of node j. -/
theorem row_at : ∀ (rs : List R3) (j i : Nat) (r : R3), rs[j]? = some r → i < 6 → (rowCells rs)[j * 6 + i]? = (cells6 r)[i]?
  | [], j, i, r, h, _ => by cases h
  | t :: l, 0, i, r, h, hi => by
    cases h
    show (cells6 t ++ rowCells l)[0 * 6 + i]? = _
    rw [Nat.zero_mul, Nat.zero_add, List.getElem?_append_left hi]
  | t :: l, j + 1, i, r, h, hi => by
    show (cells6 t ++ rowCells l)[(j + 1) * 6 + i]? = _
    rw [List.getElem?_append_right (by show 6 ≤ _; omega), show (j + 1) * 6 + i - (cells6 t).length = j * 6 + i by show (j + 1) * 6 + i - 6 = _; omega]
    exact row_at l j i r h hi
theorem row_append (a b : List R3) : rowCells (a ++ b) = rowCells a ++ rowCells b := by unfold rowCells; rw [List.flatMap_append]
theorem row_take (rs : List R3) (k : Nat) (j : Nat) (u : Value) (h : (rowCells (rs.take k))[j]? = some u) : (rowCells rs)[j]? = some u := by
  have e : rowCells rs = rowCells (rs.take k) ++ rowCells (rs.drop k) := by rw [← row_append, List.take_append_drop]
  rw [e, List.getElem?_append_left (List.getElem?_eq_some_iff.1 h).1, h]
theorem row_drop (rs : List R3) (k : Nat) (hk : k ≤ rs.length) (j : Nat) (u : Value) (h : (rowCells (rs.drop k))[j]? = some u) : (rowCells rs)[k * 6 + j]? = some u := by
  have e : rowCells rs = rowCells (rs.take k) ++ rowCells (rs.drop k) := by rw [← row_append, List.take_append_drop]
  have hl : (rowCells (rs.take k)).length = k * 6 := by rw [row_length, List.length_take]; omega
  rw [e, List.getElem?_append_right (by omega), hl, show k * 6 + j - k * 6 = j by omega, h]
theorem row_set : ∀ (rs : List R3) (j i : Nat) (r r' : R3) (v : Value), rs[j]? = some r → i < 6 → (cells6 r).set i v = cells6 r' → (rowCells rs).set (j * 6 + i) v = rowCells (rs.set j r')
  | [], j, i, r, r', v, h, _, _ => by cases h
  | t :: l, 0, i, r, r', v, h, hi, he => by
    cases h
    show (cells6 t ++ rowCells l).set (0 * 6 + i) v = cells6 r' ++ rowCells l
    rw [Nat.zero_mul, Nat.zero_add, List.set_append_left _ _ hi, he]
  | t :: l, j + 1, i, r, r', v, h, hi, he => by
    show (cells6 t ++ rowCells l).set ((j + 1) * 6 + i) v = cells6 t ++ rowCells (l.set j r')
    rw [List.set_append_right _ _ (by show 6 ≤ _; omega), show (j + 1) * 6 + i - (cells6 t).length = j * 6 + i by show (j + 1) * 6 + i - 6 = _; omega, row_set l j i r r' v h hi he]

theorem sub_one {w : World} {r : R3} (h : Sub w r) : ∀ u ∈ cells6 r, u.oneCell' = true := by
  obtain ⟨_, _, e1⟩ := own_slice h.1
  obtain ⟨_, _, e2⟩ := own_slice h.2
  intro u hu
  simp [cells6, e1, e2] at hu
  rcases hu with rfl | rfl | rfl | rfl | rfl | rfl <;> rfl
theorem subs_one {w : World} {rs : List R3} (h : ∀ r ∈ rs, Sub w r) : ∀ u ∈ rowCells rs, u.oneCell' = true := by
  intro u hu
  obtain ⟨r, hr, hu⟩ := List.mem_flatMap.1 hu
  exact sub_one (h r hr) u hu

/-- 'append(own, others[..]...)'. -/
theorem own_append_rows {w : World} {base : Nat} {v : Value} {rs qs : List R3} (hown : OwnNd w base v rs) (hq : ∀ r ∈ qs, Sub w r) (g o c : Nat) (hc : ∀ (j : Nat) (u : Value), (rowCells qs)[j]? = some u → w.cell? ⟨g, o + j, none⟩ = some u)
    (hl : rs.length + qs.length ≤ 1000000000) (hbase : base ≤ w.heap.size) :
    ∃ v' w', (Builtin.append_ #[22, 22] 22 #[v, .slice (some ⟨g, o, none⟩) qs.length c]).run Try.prog w = .ok v' w' ∧ OwnNd w' base v' (rs ++ qs) ∧ Below base w w' ∧ w.grownBy w' v.ownBlock := by
  obtain ⟨i, hi, hz, hsize, hby⟩ := info_parts infoNode
  obtain ⟨v', w', hrun, ho, hg, _⟩ := run_append_own (P := Try.prog) w base 22 22 30 i _ 6 88 Try.underlying22 hi hz hsize hby rfl (by decide) v rs.length (rowCells rs) hown.1 ⟨g, o, none⟩ qs.length c (rowCells qs) (row_length qs) (fun j u hj => by
    rw [show (⟨g, o, none⟩ : Addr).add j = ⟨g, o + j, none⟩ from by rw [add_plain]]
    exact hc j u hj) (subs_one hq) (by unfold maxLen; omega) (by omega) hbase
  refine ⟨v', w', hrun, ⟨by rw [row_append, List.length_append]; exact ho, fun r hr => ?_⟩, (Below.refl _ _).grown hg hbase (fun k hk => ?_), hg⟩
  · rcases List.mem_append.1 hr with hr | hr
    · exact (hown.2 r hr).kept hown.1 hg
    · exact (hq r hr).kept hown.1 hg
  · rcases hown.1.2 with ⟨rfl, _⟩ | ⟨g, cap, cur, rfl, hg, _⟩
    · cases hk
    · cases hk; exact hg

/-- A cell of a node in the own row is turned. -/
theorem own_set {w : World} {b g n c j i : Nat} {us : List R3} {r r' : R3} {v : Value} (h : OwnNd w b (.slice (some ⟨g, 0, none⟩) n c) us) (hn : us.length = n) (hj : us[j]? = some r) (hi : i < 6) (he : (cells6 r).set i v = cells6 r') (hr : Sub w r') : OwnNd (w.setCell ⟨g, j * 6 + i, none⟩ v) b (.slice (some ⟨g, 0, none⟩) n c) (us.set j r') := by
  obtain ⟨h1, h2⟩ := h
  rcases h1.2 with ⟨h3, _⟩ | ⟨g', cap', cur, hv, hg, hh, hc, hm, hs, ht⟩
  · cases h3
  cases hv
  have hu := Joins.block_setCell (i := j * 6 + i) hh v
  refine ⟨⟨by rw [row_length, List.length_set], .inr ⟨g, c, _, by rw [List.length_set, hn], hg, hu, by rw [List.length_set]; exact hc, hm, by rw [Array.size_setIfInBounds]; exact hs, ?_⟩⟩, fun q hq => ?_⟩
  · rw [List.length_set, Array.toList_setIfInBounds, List.take_set, ht]
    exact row_set us j i r r' v hj hi he
  · have hS : Sub w q := by
      rcases List.mem_or_eq_of_mem_set hq with hq | rfl
      · exact h2 q hq
      · exact hr
    exact hS.set hh (by decide) (by decide)

/-- An own row, read as a syntax. -/
theorem own_syn {w : World} {b : Nat} {v : Value} {rs : List R3} {root : Int} (h : OwnNd w b v rs) (hf : ∀ r ∈ rs, Fine r.1) (hr : In64 root) (hl : rs.length ≤ 1000000) : SynAt w (.agg #[v, .int .i64 root]) (rs.map (·.1)) root := by
  refine ⟨v, rfl, ?_, hr⟩
  rcases h.1.2 with ⟨h3, h4⟩ | ⟨g, cap, cur, rfl, hg, hh, hc, hm, hs, ht⟩
  · have : rs = [] := List.length_eq_zero_iff.1 h4
    subst this
    exact ⟨none, 0, h3, Nat.zero_le _, fun h => absurd rfl h⟩
  · obtain ⟨_, _, _, cur', hh', hx⟩ := own_at h.1
    rw [hh] at hh'
    cases hh'
    refine ⟨some ⟨g, 0, none⟩, cap, by rw [List.length_map], by rw [List.length_map]; omega, fun _ => ⟨g, 0, (Array.getElem?_eq_some_iff.1 hh).1, rfl, fun i hi => ?_⟩⟩
    rw [List.length_map] at hi
    have hri := List.getElem?_eq_getElem hi
    have hS := h.2 _ (List.getElem_mem hi)
    have hF := hf _ (List.getElem_mem hi)
    have at6 : ∀ k, k < 6 → ∀ u, (cells6 rs[i])[k]? = some u → w.cell? ⟨g, 0 + i * 6 + k, none⟩ = some u := fun k hk u hu => by
      rw [Nat.zero_add]
      exact cell_of hh _ _ (hx _ _ (by rw [row_at rs i k _ hri hk, hu]))
    rw [List.getElem_map]
    have f6 := hF.2.2.2.2.2.1
    have f7 := hF.2.2.2.2.2.2.1
    exact ⟨rs[i].2.1, rs[i].2.2, at6 0 (by omega) _ rfl, at6 1 (by omega) _ rfl, at6 2 (by omega) _ rfl, at6 3 (by omega) _ rfl, at6 4 (by omega) _ rfl, at6 5 (by omega) _ rfl, lst_of hS.1 (by omega), lst_of hS.2 (by omega), hF⟩

theorem rows_same : ∀ (us : List R3) (j : Nat) (a b : R3), cells6 a = cells6 b → rowCells (us.set j a) = rowCells (us.set j b)
  | [], _, _, _, _ => rfl
  | _ :: _, 0, a, b, h => by
    show cells6 a ++ _ = cells6 b ++ _
    rw [h]
  | t :: l, j + 1, a, b, h => by
    show cells6 t ++ rowCells (l.set j a) = cells6 t ++ rowCells (l.set j b)
    rw [rows_same l j a b h]
/-- A cell of an own row of one-cell elements is turned. -/
theorem own_set1 {w : World} {b g n c j : Nat} {e : TypeId} {xs : List Value} {v : Value} (h : w.ownsRow b e 1 (.slice (some ⟨g, 0, none⟩) n c) n xs) : (w.setCell ⟨g, j, none⟩ v).ownsRow b e 1 (.slice (some ⟨g, 0, none⟩) n c) n (xs.set j v) := by
  rcases h.2 with ⟨h3, _⟩ | ⟨g', cap', cur, hv, hg, hh, hc, hm, hs, ht⟩
  · cases h3
  cases hv
  refine ⟨by rw [List.length_set]; exact h.1, .inr ⟨g, c, _, rfl, hg, Joins.block_setCell (i := j) hh v, hc, hm, by rw [Array.size_setIfInBounds]; exact hs, ?_⟩⟩
  rw [Array.toList_setIfInBounds, List.take_set, ht]
theorem set_part {α β : Type} (f : α → α) (g : α → β) (l : List α) (k : Nat) (x : α) (h : l[k]? = some x) : (((l.take k).map f ++ l.drop k).map g).set k (g (f x)) = ((l.take (k + 1)).map f ++ l.drop (k + 1)).map g := by
  have hk := (List.getElem?_eq_some_iff.1 h).1
  have hl : (((l.take k).map f).map g).length = k := by rw [List.length_map, List.length_map, List.length_take]; omega
  rw [List.map_append, List.set_append_right _ _ (by omega), hl, Nat.sub_self, List.take_succ_eq_append_getElem hk, List.drop_eq_getElem_cons hk, (List.getElem?_eq_some_iff.1 h).2]
  simp
theorem part_at {α : Type} (f : α → α) (l : List α) (k : Nat) : ((l.take k).map f ++ l.drop k)[k]? = l[k]? := by
  rcases Nat.lt_or_ge k l.length with h | h
  · rw [List.getElem?_append_right (by rw [List.length_map, List.length_take]; omega), List.length_map, List.length_take, List.getElem?_drop]
    congr 1; omega
  · rw [List.getElem?_eq_none h, List.getElem?_eq_none (by rw [List.length_append, List.length_map, List.length_take, List.length_drop]; omega)]
theorem own_kids_kept {wx : World} {b : Nat} {v : Value} {us : List R3} {j : Nat} {a r : R3} (hrow : wx.ownsRow b 30 6 v us.length (rowCells (us.set j a))) (he : cells6 a = cells6 r) (h : ∀ q ∈ us, Sub wx q) (hr : Sub wx r) : OwnNd wx b v (us.set j r) := by
  refine ⟨by rw [List.length_set, ← rows_same us j a r he]; exact hrow, fun q hq => ?_⟩
  rcases List.mem_or_eq_of_mem_set hq with hq | rfl
  · exact h q hq
  · exact hr

theorem fine_place {k : Nat} (hk : k ≤ 1000000) {n : Nd} (h : Fine n) : Fine (mapK (placeZ k) n) := by
  obtain ⟨a1, a2, a3, a4, a5, a6, a7, a8⟩ := h
  refine ⟨a1, a2, a3, fun c hc => ?_, a5, a6, by show ((n.kids.map _).length) * 8 ≤ _; rw [List.length_map]; exact a7, a8⟩
  obtain ⟨d, hd, rfl⟩ := List.mem_map.1 hc
  obtain ⟨h1, h2⟩ := a4 d hd
  unfold placeZ In64
  split
  · omega
  · split <;> omega
theorem fine_pull {k : Nat} {l : List Nd} (hk : k < l.length) (h : ∀ n ∈ l, Fine n) : ∀ n ∈ pull k l, Fine n := by
  intro n hn
  unfold pull at hn
  rcases List.mem_cons.1 hn with rfl | hn
  · rw [at_nat hk]; exact h _ (List.getElem_mem hk)
  · rcases List.mem_append.1 hn with hn | hn
    · exact h n (List.mem_of_mem_take hn)
    · exact h n (List.mem_of_mem_drop hn)

end Go.Proofs.Ytmddffacjkkeiaa.Nd
