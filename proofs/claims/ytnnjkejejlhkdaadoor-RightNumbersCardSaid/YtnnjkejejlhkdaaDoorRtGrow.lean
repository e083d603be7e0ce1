/-
  Layer 9: a row of expressions that grows.
-/
import Derived.Test.YtnnjkejejlhkdaaDoorRtSpoil2
namespace Go.Proofs.YtnnjkejejlhkdaaDoor.Rt
open Go Go.RowKit

/-- The pair, block 5 apart. -/
structure PairNo5 (q : Nat) (c1 c4 c7 c9 c10 c11 : Array Value) (w : World) : Prop where
  b1 : w.heap[q + 1]? = some (.cells c1 4 (0, 0))
  b2 : w.heap[q + 2]? = some (.cells #[.int .i64 1] 3 (0, 0))
  b3 : w.heap[q + 3]? = some (.cells #[.int .i64 0] 3 (0, 0))
  b4 : w.heap[q + 4]? = some (.cells c4 44 (0, 0))
  b6 : w.heap[q + 6]? = some (.cells #[.bool false] 4 (0, 0))
  b7 : w.heap[q + 7]? = some (.cells c7 37 (0, 0))
  b8 : w.heap[q + 8]? = some (.cells #[.int .i64 0] 3 (0, 0))
  b9 : w.heap[q + 9]? = some (.cells c9 44 (0, 0))
  b10 : w.heap[q + 10]? = some (.cells c10 41 (0, 0))
  b11 : w.heap[q + 11]? = some (.cells c11 35 (0, 0))
theorem PairAt.no5 {q : Nat} {c1 c4 c5 c7 c9 c10 c11 : Array Value} {w w1 : World} (h : PairAt q c1 c4 c5 c7 c9 c10 c11 w) (hg : w.grownBy w1 (some (q + 5))) : PairNo5 q c1 c4 c7 c9 c10 c11 w1 :=
  have t : ∀ {k : Nat} {x : Obj}, k ≠ q + 5 → w.heap[k]? = some x → w1.heap[k]? = some x := fun hn hx => (hg.block _ (lt_of_get hx) (fun e => hn (Option.some.inj e))).trans hx
  ⟨t (by omega) h.b1, t (by omega) h.b2, t (by omega) h.b3, t (by omega) h.b4, t (by omega) h.b6, t (by omega) h.b7, t (by omega) h.b8, t (by omega) h.b9, t (by omega) h.b10, t (by omega) h.b11⟩
theorem PairNo5.stays {q : Nat} {o : Option Nat} {c1 c4 c7 c9 c10 c11 : Array Value} {w w1 : World} (h : PairNo5 q c1 c4 c7 c9 c10 c11 w) (ho : ∀ k, o = some k → k ≤ q) (hb : ∀ k, k < w.heap.size → some k ≠ o → w1.heap[k]? = w.heap[k]?) : PairNo5 q c1 c4 c7 c9 c10 c11 w1 :=
  ⟨Rt.stays ho hb (by omega) h.b1, Rt.stays ho hb (by omega) h.b2, Rt.stays ho hb (by omega) h.b3, Rt.stays ho hb (by omega) h.b4, Rt.stays ho hb (by omega) h.b6, Rt.stays ho hb (by omega) h.b7, Rt.stays ho hb (by omega) h.b8, Rt.stays ho hb (by omega) h.b9, Rt.stays ho hb (by omega) h.b10, Rt.stays ho hb (by omega) h.b11⟩
theorem PairNo5.grow {q : Nat} {c1 c4 c7 c9 c10 c11 : Array Value} {w : World} (h : PairNo5 q c1 c4 c7 c9 c10 c11 w) (y : Obj) : PairNo5 q c1 c4 c7 c9 c10 c11 (w.alloc y) :=
  ⟨grow_at y h.b1, grow_at y h.b2, grow_at y h.b3, grow_at y h.b4, grow_at y h.b6, grow_at y h.b7, grow_at y h.b8, grow_at y h.b9, grow_at y h.b10, grow_at y h.b11⟩
theorem PairNo5.set4 {q : Nat} {c1 c4 c7 c9 c10 c11 : Array Value} {w : World} (h : PairNo5 q c1 c4 c7 c9 c10 c11 w) (j : Nat) (v : Value) : PairNo5 q c1 (c4.setIfInBounds j v) c7 c9 c10 c11 (w.setCell ⟨q + 4, j, none⟩ v) :=
  ⟨at_set h.b1 (by omega), at_set h.b2 (by omega), at_set h.b3 (by omega), heap_setCell_same w _ j _ _ _ h.b4, at_set h.b6 (by omega), at_set h.b7 (by omega), at_set h.b8 (by omega), at_set h.b9 (by omega), at_set h.b10 (by omega), at_set h.b11 (by omega)⟩
theorem PairNo5.set9 {q : Nat} {c1 c4 c7 c9 c10 c11 : Array Value} {w : World} (h : PairNo5 q c1 c4 c7 c9 c10 c11 w) (j : Nat) (v : Value) : PairNo5 q c1 c4 c7 (c9.setIfInBounds j v) c10 c11 (w.setCell ⟨q + 9, j, none⟩ v) :=
  ⟨at_set h.b1 (by omega), at_set h.b2 (by omega), at_set h.b3 (by omega), at_set h.b4 (by omega), at_set h.b6 (by omega), at_set h.b7 (by omega), at_set h.b8 (by omega), heap_setCell_same w _ j _ _ _ h.b9, at_set h.b10 (by omega), at_set h.b11 (by omega)⟩
theorem PairNo5.set11 {q : Nat} {c1 c4 c7 c9 c10 c11 : Array Value} {w : World} (h : PairNo5 q c1 c4 c7 c9 c10 c11 w) (j : Nat) (v : Value) : PairNo5 q c1 c4 c7 c9 c10 (c11.setIfInBounds j v) (w.setCell ⟨q + 11, j, none⟩ v) :=
  ⟨at_set h.b1 (by omega), at_set h.b2 (by omega), at_set h.b3 (by omega), at_set h.b4 (by omega), at_set h.b6 (by omega), at_set h.b7 (by omega), at_set h.b8 (by omega), at_set h.b9 (by omega), at_set h.b10 (by omega), heap_setCell_same w _ j _ _ _ h.b11⟩
/-- The pair, block 10 apart. -/
structure PairNo10 (q : Nat) (c1 c4 c5 c7 c9 c11 : Array Value) (w : World) : Prop where
  b1 : w.heap[q + 1]? = some (.cells c1 4 (0, 0))
  b2 : w.heap[q + 2]? = some (.cells #[.int .i64 1] 3 (0, 0))
  b3 : w.heap[q + 3]? = some (.cells #[.int .i64 0] 3 (0, 0))
  b4 : w.heap[q + 4]? = some (.cells c4 44 (0, 0))
  b5 : w.heap[q + 5]? = some (.cells c5 41 (0, 0))
  b6 : w.heap[q + 6]? = some (.cells #[.bool false] 4 (0, 0))
  b7 : w.heap[q + 7]? = some (.cells c7 37 (0, 0))
  b8 : w.heap[q + 8]? = some (.cells #[.int .i64 0] 3 (0, 0))
  b9 : w.heap[q + 9]? = some (.cells c9 44 (0, 0))
  b11 : w.heap[q + 11]? = some (.cells c11 35 (0, 0))
theorem PairAt.no10 {q : Nat} {c1 c4 c5 c7 c9 c10 c11 : Array Value} {w w1 : World} (h : PairAt q c1 c4 c5 c7 c9 c10 c11 w) (hg : w.grownBy w1 (some (q + 10))) : PairNo10 q c1 c4 c5 c7 c9 c11 w1 :=
  have t : ∀ {k : Nat} {x : Obj}, k ≠ q + 10 → w.heap[k]? = some x → w1.heap[k]? = some x := fun hn hx => (hg.block _ (lt_of_get hx) (fun e => hn (Option.some.inj e))).trans hx
  ⟨t (by omega) h.b1, t (by omega) h.b2, t (by omega) h.b3, t (by omega) h.b4, t (by omega) h.b5, t (by omega) h.b6, t (by omega) h.b7, t (by omega) h.b8, t (by omega) h.b9, t (by omega) h.b11⟩
theorem PairNo10.stays {q : Nat} {o : Option Nat} {c1 c4 c5 c7 c9 c11 : Array Value} {w w1 : World} (h : PairNo10 q c1 c4 c5 c7 c9 c11 w) (ho : ∀ k, o = some k → k ≤ q) (hb : ∀ k, k < w.heap.size → some k ≠ o → w1.heap[k]? = w.heap[k]?) : PairNo10 q c1 c4 c5 c7 c9 c11 w1 :=
  ⟨Rt.stays ho hb (by omega) h.b1, Rt.stays ho hb (by omega) h.b2, Rt.stays ho hb (by omega) h.b3, Rt.stays ho hb (by omega) h.b4, Rt.stays ho hb (by omega) h.b5, Rt.stays ho hb (by omega) h.b6, Rt.stays ho hb (by omega) h.b7, Rt.stays ho hb (by omega) h.b8, Rt.stays ho hb (by omega) h.b9, Rt.stays ho hb (by omega) h.b11⟩
theorem PairNo10.grow {q : Nat} {c1 c4 c5 c7 c9 c11 : Array Value} {w : World} (h : PairNo10 q c1 c4 c5 c7 c9 c11 w) (y : Obj) : PairNo10 q c1 c4 c5 c7 c9 c11 (w.alloc y) :=
  ⟨grow_at y h.b1, grow_at y h.b2, grow_at y h.b3, grow_at y h.b4, grow_at y h.b5, grow_at y h.b6, grow_at y h.b7, grow_at y h.b8, grow_at y h.b9, grow_at y h.b11⟩
theorem PairNo10.set4 {q : Nat} {c1 c4 c5 c7 c9 c11 : Array Value} {w : World} (h : PairNo10 q c1 c4 c5 c7 c9 c11 w) (j : Nat) (v : Value) : PairNo10 q c1 (c4.setIfInBounds j v) c5 c7 c9 c11 (w.setCell ⟨q + 4, j, none⟩ v) :=
  ⟨at_set h.b1 (by omega), at_set h.b2 (by omega), at_set h.b3 (by omega), heap_setCell_same w _ j _ _ _ h.b4, at_set h.b5 (by omega), at_set h.b6 (by omega), at_set h.b7 (by omega), at_set h.b8 (by omega), at_set h.b9 (by omega), at_set h.b11 (by omega)⟩
theorem PairNo10.set9 {q : Nat} {c1 c4 c5 c7 c9 c11 : Array Value} {w : World} (h : PairNo10 q c1 c4 c5 c7 c9 c11 w) (j : Nat) (v : Value) : PairNo10 q c1 c4 c5 c7 (c9.setIfInBounds j v) c11 (w.setCell ⟨q + 9, j, none⟩ v) :=
  ⟨at_set h.b1 (by omega), at_set h.b2 (by omega), at_set h.b3 (by omega), at_set h.b4 (by omega), at_set h.b5 (by omega), at_set h.b6 (by omega), at_set h.b7 (by omega), at_set h.b8 (by omega), heap_setCell_same w _ j _ _ _ h.b9, at_set h.b11 (by omega)⟩
theorem PairNo10.set11 {q : Nat} {c1 c4 c5 c7 c9 c11 : Array Value} {w : World} (h : PairNo10 q c1 c4 c5 c7 c9 c11 w) (j : Nat) (v : Value) : PairNo10 q c1 c4 c5 c7 c9 (c11.setIfInBounds j v) (w.setCell ⟨q + 11, j, none⟩ v) :=
  ⟨at_set h.b1 (by omega), at_set h.b2 (by omega), at_set h.b3 (by omega), at_set h.b4 (by omega), at_set h.b5 (by omega), at_set h.b6 (by omega), at_set h.b7 (by omega), at_set h.b8 (by omega), at_set h.b9 (by omega), heap_setCell_same w _ j _ _ _ h.b11⟩

theorem infoEx : (Tryd.prog.info? 41).map (fun i => (i.zero, i.size, i.bytes)) = some (some (.agg #[.int .u8 0, .int .i64 0, .slice none 0 0]), 3, 40) := by kernel_rfl
/-- A row of expressions grows. -/
theorem wpList_append_ex {q g0 g m : Nat} {w : World} {ops : Array Go.Oper} {rest : List Go.Oper} {o : Go.Oper} {a : Act} {Q : Exit → Act → World → Prop} (hgd : o.guard = none) (x y : Operand)
    (ho : o.op = .call { callee := .builtin .append, args := #[x, y], argTypes := #[33, 33] })
    (hs : a.eval x = .slice (some ⟨g0, 0, none⟩) 1 1) {xs news : List Value} (hrow : w.ownsRow (q + 1) 41 3 (.slice (some ⟨g0, 0, none⟩) 1 1) 1 xs)
    (hx : a.eval y = .slice (some ⟨g, 0, none⟩) m m) (hn : w.heap[g]? = some (.cells news.toArray 41 (0, 0))) (hl : news.length = m * 3) (hm : m ≤ 2) (h1 : ∀ u ∈ news, u.oneCell' = true) (hB : q + 1 ≤ w.heap.size)
    (hq : ∀ v' w', w'.ownsRow (q + 1) 41 3 v' (1 + m) (xs ++ news) → w.grownBy w' (some g0) → wpList Tryd.prog ops Q rest (a.put o.dst v') w') :
    wpList Tryd.prog ops Q (o :: rest) a w := by
  obtain ⟨i, hi, hz, hsize, hby⟩ := info_parts infoEx
  refine wpList_append_own_at (w := w) hgd x y 33 ho (q + 1) 41 i _ 3 40 Tryd.underlying33 hi hz hsize hby rfl (by decide) _ 1 xs hs hrow ⟨g, 0, none⟩ m m news hx hl (fun j u hj => ?_) h1 (by unfold maxLen; omega) (by omega) hB (fun v' w' a1 a2 _ _ => hq v' w' a1 a2)
  have := cell_of hn j u (by simpa using hj)
  match j with
  | 0 => simpa [Addr.add] using this
  | j + 1 => simpa [Addr.add] using this
theorem row_of_pair {q g : Nat} {cs : Array Value} {w : World} (hg : q + 1 ≤ g) (h : w.heap[g]? = some (.cells cs 41 (0, 0))) (hs : cs.size = 3) : w.ownsRow (q + 1) 41 3 (.slice (some ⟨g, 0, none⟩) 1 1) 1 cs.toList :=
  ⟨by simpa using hs, .inr ⟨g, 1, cs, rfl, hg, h, Nat.le_refl _, by decide, by omega, List.take_of_length_le (by simp [hs])⟩⟩
theorem own_stays {q : Nat} {o : Option Nat} {w w1 : World} {e : TypeId} {size n : Nat} {v : Value} {xs : List Value} (ho : ∀ k, o = some k → k ≤ q) (hb : ∀ k, k < w.heap.size → some k ≠ o → w1.heap[k]? = w.heap[k]?) (h : w.ownsRow (q + 1) e size v n xs) : w1.ownsRow (q + 1) e size v n xs := by
  refine ⟨h.1, ?_⟩
  rcases h.2 with h2 | ⟨g, cap, cur, hv, hg, hh, r⟩
  · exact .inl h2
  · exact .inr ⟨g, cap, cur, hv, hg, Rt.stays ho hb (by omega) hh, r⟩
theorem own_other {b k j n size : Nat} {w : World} {e e' : TypeId} {v x : Value} {xs : List Value} {cs : Array Value} {fr : Nat × Nat} (h : w.ownsRow b e size v n xs) (hk : w.heap[k]? = some (.cells cs e' fr)) (he : e ≠ e') : (w.setCell ⟨k, j, none⟩ x).ownsRow b e size v n xs := by
  refine ⟨h.1, ?_⟩
  rcases h.2 with h2 | ⟨g, cap, cur, hv, hg, hh, r⟩
  · exact .inl h2
  · exact .inr ⟨g, cap, cur, hv, hg, at_set hh (fun e1 => by
      subst e1
      rw [hk] at hh
      injection hh with h1
      injection h1 with _ h2 _
      exact he h2.symm), r⟩
theorem own_grow {b n size : Nat} {w : World} {e : TypeId} {v : Value} {xs : List Value} (y : Obj) (h : w.ownsRow b e size v n xs) : (w.alloc y).ownsRow b e size v n xs := own_keeps h ((Below.refl _ _).alloc (Nat.le_refl _) y)
/-- Expressions as a row that one owns holds them. -/
theorem rows_own {q : Nat} {w : World} {v : Value} {css : List (Array Value)} {l : List Ex} {xs : List Value} {n : Nat} (h : w.ownsRow (q + 1) 41 3 v n xs) (hn : n = l.length) (hx : xs = css.flatMap (·.toList)) (hC : ∀ cs ∈ css, cs.size = 3) (hl : css.length = l.length) (h0 : 0 < l.length) (hlen : Len l.length) (hV : ∀ i (h1 : i < css.length) (h2 : i < l.length), ExC w.heap.size w css[i] l[i]) : RowsB 3 (ExC w.heap.size w) w.heap.size w v l := by
  subst hn
  rcases h.2 with ⟨_, hz⟩ | ⟨g, cap, cur, rfl, hg, hh, h5, h6, h7, h8⟩
  · omega
  · refine ⟨_, _, rfl, hlen, fun _ => ⟨g, 0, lt_of_get hh, rfl, fun i hi => ⟨css[i]'(by omega), hV i (by omega) hi, fun j hj => ?_⟩⟩⟩
    have hs : j < (css[i]'(by omega)).size := by rw [hC _ (List.getElem_mem _)]; exact hj
    refine ⟨hs, cell_of hh _ _ ?_⟩
    have hf := flat_at css hC i (by omega) j hj
    rw [← hx, ← h8, List.getElem?_take_of_lt (by omega)] at hf
    rw [Nat.zero_add]
    simpa [Array.getElem?_eq_getElem hs] using hf

end Go.Proofs.YtnnjkejejlhkdaaDoor.Rt
