/-
  Layer 9: the row of spoilt pairs, as it grows.
-/
import Derived.Test.YtnnjkejejlhkdaaDoorRtSpoil
import Derived.Maps.AppendAt
namespace Go.Proofs.YtnnjkejejlhkdaaDoor.Rt
open Go Go.RowKit

/-- A program that lies so, whatever becomes of one block. -/
def Firm (o : Option Nat) (w : World) (v : Value) (p : Pg) : Prop :=
  ∀ w' : World, w.heap.size ≤ w'.heap.size → (∀ k, k < w.heap.size → some k ≠ o → w'.heap[k]? = w.heap[k]?) → PgV w'.heap.size w' v p
theorem Firm.grown {o o' : Option Nat} {w w' : World} {v : Value} {p : Pg} (h : Firm o w v p) (hg : w.grownBy w' o) (ho : o' = o ∨ o' = some w.heap.size) : Firm o' w' v p := by
  intro w2 hs hb
  refine h w2 (Nat.le_trans hg.size hs) fun k hk hn => ?_
  rw [hb k (Nat.lt_of_lt_of_le hk hg.size) ?_, hg.block k hk hn]
  rcases ho with rfl | rfl
  · exact hn
  · intro e
    have := Option.some.inj e
    omega
theorem Firm.below {o : Option Nat} {w w' : World} {v : Value} {p : Pg} (h : Firm o w v p) (hb : Below w.heap.size w w') : Firm o w' v p :=
  fun w2 hs hk => h w2 (Nat.le_trans hb.size hs) fun k h1 h2 => (hk k (Nat.lt_of_lt_of_le h1 hb.size) h2).trans (hb.block k h1)
theorem Firm.get {o : Option Nat} {w : World} {v : Value} {p : Pg} (h : Firm o w v p) : PgV w.heap.size w v p := h w (Nat.le_refl _) fun _ _ _ => rfl

/-- What lies behind q stands where one block ahead of it turns. -/
theorem stays {q b : Nat} {o : Option Nat} {w w' : World} {x : Obj} (ho : ∀ k, o = some k → k ≤ q) (hb : ∀ k, k < w.heap.size → some k ≠ o → w'.heap[k]? = w.heap[k]?) (hq : q < b) (h : w.heap[b]? = some x) : w'.heap[b]? = some x :=
  (hb b (lt_of_get h) (fun e => by have := ho _ e.symm; omega)).trans h
theorem PairAt.stays {q : Nat} {o : Option Nat} {c1 c4 c5 c7 c9 c10 c11 : Array Value} {w w' : World} (h : PairAt q c1 c4 c5 c7 c9 c10 c11 w) (ho : ∀ k, o = some k → k ≤ q) (hb : ∀ k, k < w.heap.size → some k ≠ o → w'.heap[k]? = w.heap[k]?) : PairAt q c1 c4 c5 c7 c9 c10 c11 w' :=
  ⟨Rt.stays ho hb (by omega) h.b1, Rt.stays ho hb (by omega) h.b2, Rt.stays ho hb (by omega) h.b3, Rt.stays ho hb (by omega) h.b4, Rt.stays ho hb (by omega) h.b5, Rt.stays ho hb (by omega) h.b6, Rt.stays ho hb (by omega) h.b7, Rt.stays ho hb (by omega) h.b8, Rt.stays ho hb (by omega) h.b9, Rt.stays ho hb (by omega) h.b10, Rt.stays ho hb (by omega) h.b11⟩
theorem PairAt.firm {q : Nat} {o : Option Nat} {c1 c4 c5 c7 c9 c10 c11 : Array Value} {w : World} {v : Value} {p : Pg} (h : PairAt q c1 c4 c5 c7 c9 c10 c11 w) (ho : ∀ k, o = some k → k ≤ q) (pg : ∀ {w'}, PairAt q c1 c4 c5 c7 c9 c10 c11 w' → PgV w'.heap.size w' v p) : Firm o w v p :=
  fun _ _ hb => pg (h.stays ho hb)

/-- The row of the programs l. -/
def SpAt (B : Nat) (w : World) (v : Value) (l : List Pg) : Prop :=
  ∃ xs : List Value, w.ownsRow B 26 2 v l.length xs ∧ ∀ (j : Nat) (h : j < l.length), ∃ vs vp, xs[2 * j]? = some vs ∧ xs[2 * j + 1]? = some vp ∧ Firm v.ownBlock w (.agg #[vs, vp]) l[j]
theorem own_keeps {w w' : World} {b : Nat} {e : TypeId} {size : Nat} {v : Value} {n : Nat} {xs : List Value} (h : w.ownsRow b e size v n xs) (hb : Below w.heap.size w w') : w'.ownsRow b e size v n xs := by
  refine ⟨h.1, ?_⟩
  rcases h.2 with h2 | ⟨g, cap, cur, hv, hg, hh, r⟩
  · exact .inl h2
  · exact .inr ⟨g, cap, cur, hv, hg, at_below hh hb, r⟩
theorem SpAt.below {B : Nat} {w w' : World} {v : Value} {l : List Pg} (h : SpAt B w v l) (hb : Below w.heap.size w w') : SpAt B w' v l := by
  obtain ⟨xs, ho, hx⟩ := h
  refine ⟨xs, own_keeps ho hb, fun j hj => ?_⟩
  obtain ⟨vs, vp, h1, h2, h3⟩ := hx j hj
  exact ⟨vs, vp, h1, h2, h3.below hb⟩
theorem SpAt.nil {B : Nat} {w : World} {g : Nat} (h : w.heap[g]? = some (.cells #[] 26 (0, 0))) (hg : B ≤ g) : SpAt B w (.slice (some ⟨g, 0, none⟩) 0 0) [] :=
  ⟨[], ⟨rfl, .inr ⟨g, 0, #[], rfl, hg, h, Nat.le_refl _, Nat.zero_le _, rfl, rfl⟩⟩, fun j hj => absurd hj (Nat.not_lt_zero j)⟩
theorem SpAt.block {B : Nat} {w : World} {v : Value} {l : List Pg} (h : SpAt B w v l) : ∀ k, v.ownBlock = some k → B ≤ k ∧ k < w.heap.size := by
  obtain ⟨xs, ho, _⟩ := h
  exact fun k hk => ho.lt k hk
/-- One of them, as it is read. -/
theorem SpAt.read {B : Nat} {w : World} {v : Value} {l : List Pg} (h : SpAt B w v l) (j : Nat) (hj : j < l.length) : ∃ g cap vs vp, v = .slice (some ⟨g, 0, none⟩) l.length cap ∧ w.cell? ⟨g, 2 * j, none⟩ = some vs ∧ w.cell? ⟨g, 2 * j + 1, none⟩ = some vp ∧ PgV w.heap.size w (.agg #[vs, vp]) l[j] := by
  obtain ⟨xs, ho, hx⟩ := h
  obtain ⟨vs, vp, h1, h2, h3⟩ := hx j hj
  rcases ho.2 with ⟨_, h0⟩ | ⟨g, cap, cur, hv, hg, hh, h5, h6, h7, h8⟩
  · omega
  · have get : ∀ (i : Nat) (y : Value), i < l.length * 2 → xs[i]? = some y → cur[i]? = some y := by
      intro i y hi hy
      rw [← h8, List.getElem?_take_of_lt hi] at hy
      simpa using hy
    exact ⟨g, cap, vs, vp, hv, cell_of hh _ _ (get _ _ (by omega) h1), cell_of hh _ _ (get _ _ (by omega) h2), h3.get⟩

theorem infoP : (Tryd.prog.info? 26).map (fun i => (i.zero, i.size, i.bytes)) = some (some (.agg #[.slice none 0 0, .slice none 0 0]), 2, 48) := by kernel_rfl

/-- 'spoilt = append(spoilt, p)'. -/
theorem wpList_append_pg {B : Nat} {w : World} {ops : Array Go.Oper} {rest : List Go.Oper} {o : Go.Oper} {a : Act} {Q : Exit → Act → World → Prop} (hgd : o.guard = none) (x y : Operand)
    (ho : o.op = .call { callee := .builtin .append, args := #[x, y], argTypes := #[28, 28] })
    {v : Value} {l : List Pg} (hs : a.eval x = v) (S : SpAt B w v l) {vs vp : Value} {p : Pg} (F : Firm v.ownBlock w (.agg #[vs, vp]) p) (o1 : vs.oneCell' = true) (o2 : vp.oneCell' = true)
    (g : Nat) (hx : a.eval y = .slice (some ⟨g, 0, none⟩) 1 1) (hgw : g = w.heap.size) (hl : l.length ≤ 1000) (hB : B ≤ w.heap.size)
    (hq : ∀ v' w', SpAt B w' v' (l ++ [p]) → Below B w w' → wpList Tryd.prog ops Q rest (a.put o.dst v') w') :
    wpList Tryd.prog ops Q (o :: rest) a (w.alloc (.cells #[vs, vp] 26)) := by
  subst hgw
  obtain ⟨i, hi, hz, hsize, hby⟩ := info_parts infoP
  have hal : Below w.heap.size w (w.alloc (.cells #[vs, vp] 26)) := (Below.refl _ _).alloc (Nat.le_refl _) _
  have S1 := S.below hal
  obtain ⟨xs, hown, hfs⟩ := S1
  refine wpList_append_own_at (w := w.alloc (.cells #[vs, vp] 26)) hgd x y 28 ho B 26 i _ 2 48 Tryd.underlying28 hi hz hsize hby rfl (by decide) v l.length xs hs hown ⟨w.heap.size, 0, none⟩ 1 1 [vs, vp] hx rfl (fun j u hj => ?_) (fun u hu => ?_) (by unfold maxLen; omega) (by omega) (by simp; omega) (fun v' w' h1 h2 _ h4 => ?_)
  · match j, hj with
    | 0, hj => simp at hj; subst hj; simp [Addr.add]
    | 1, hj => simp at hj; subst hj; simp [Addr.add]
  · simp only [List.mem_cons, List.not_mem_nil, or_false] at hu
    rcases hu with rfl | rfl
    · exact o1
    · exact o2
  · refine hq v' w' ⟨xs ++ [vs, vp], by simpa using h1, fun j hj => ?_⟩ ?_
    · have hxl := hown.1
      rcases Nat.lt_or_ge j l.length with hlt | hge
      · obtain ⟨us, up, u1, u2, u3⟩ := hfs j hlt
        rw [List.getElem_append_left hlt]
        exact ⟨us, up, by rw [List.getElem?_append_left (by omega)]; exact u1, by rw [List.getElem?_append_left (by omega)]; exact u2, u3.grown h2 h4⟩
      · have : j = l.length := by simp at hj; omega
        subst this
        rw [List.getElem_append_right (Nat.le_refl _)]
        refine ⟨vs, vp, by rw [List.getElem?_append_right (by omega), show 2 * l.length - xs.length = 0 by omega]; rfl, by rw [List.getElem?_append_right (by omega), show 2 * l.length + 1 - xs.length = 1 by omega]; rfl, ?_⟩
        simpa using (F.below hal).grown h2 h4
    · exact (hal.mono hB).grown h2 (by simp; omega) (fun k hk => (S.block k hk).1)

end Go.Proofs.YtnnjkejejlhkdaaDoor.Rt
