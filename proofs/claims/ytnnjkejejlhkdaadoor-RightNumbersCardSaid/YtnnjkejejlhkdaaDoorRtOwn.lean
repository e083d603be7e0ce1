/-
  Layer 9: programs in memory of the call's own; lists copied.
-/
import Derived.Test.YtnnjkejejlhkdaaDoorRtText
import Derived.Test.YtnnjkejejlhkdaaDoorRunesKit
import Derived.Deep.AppendSrc
import Derived.Deep.Upon
import Derived.WideShapes
import Derived.Maps.AppendAt
import Derived.WalkSpells
import Derived.WalkLawsBesides
namespace Go.Proofs.YtnnjkejejlhkdaaDoor.Rt
open Go Go.RowKit

/-- Only blocks of one type may have turned. -/
def Same (T : TypeId) (w w' : World) : Prop := w.heap.size ≤ w'.heap.size ∧ ∀ k, k < w.heap.size → (∀ cs fr, w.heap[k]? ≠ some (.cells cs T fr)) → w'.heap[k]? = w.heap[k]?
theorem Same.of_below {T : TypeId} {w w' : World} (h : Below w.heap.size w w') : Same T w w' := ⟨h.size, fun k hk _ => h.block k hk⟩
theorem Same.refl (T : TypeId) (w : World) : Same T w w := ⟨Nat.le_refl _, fun _ _ _ => rfl⟩
theorem Same.set {T : TypeId} {w : World} {b j : Nat} {cs : Array Value} {fr : Nat × Nat} (h : w.heap[b]? = some (.cells cs T fr)) (v : Value) : Same T w (w.setCell ⟨b, j, none⟩ v) :=
  ⟨by simp, fun k _ hn => heap_setCell_other w ⟨b, j, none⟩ k v (fun e => hn cs fr (by rw [show k = b from e]; exact h))⟩
theorem own_same {T : TypeId} {w w' : World} {b : Nat} {e : TypeId} {size : Nat} {v : Value} {n : Nat} {xs : List Value} (h : w.ownsRow b e size v n xs) (hs : Same T w w') (hne : e ≠ T) : w'.ownsRow b e size v n xs := by
  refine ⟨h.1, ?_⟩
  rcases h.2 with h2 | ⟨g, cap, cur, hv, hg, hh, r⟩
  · exact .inl h2
  · exact .inr ⟨g, cap, cur, hv, hg, (hs.2 g (lt_of_get hh) (fun cs fr e1 => hne (by rw [hh] at e1; injection e1 with e1; injection e1))).trans hh, r⟩
theorem Same.grown {T : TypeId} {w w' : World} {b size n : Nat} {v : Value} {xs : List Value} (h : w.ownsRow b T size v n xs) (hg : w.grownBy w' v.ownBlock) : Same T w w' := by
  refine ⟨hg.size, fun k hk hn => hg.block k hk fun e => ?_⟩
  rcases h.2 with ⟨rfl, _⟩ | ⟨g, cap, cur, rfl, _, hh, _⟩
  · cases e
  · obtain rfl : k = g := by injection e
    exact hn _ _ hh
theorem Same.trans {T : TypeId} {a b c : World} (h : Below a.heap.size a b) (k : Same T b c) : Same T a c :=
  ⟨Nat.le_trans h.size k.1, fun j hj hn => (k.2 j (Nat.lt_of_lt_of_le hj h.size) (fun cs fr e => hn cs fr ((h.block j hj).symm.trans e))).trans (h.block j hj)⟩
theorem own_lift {w : World} {b b' : Nat} {e : TypeId} {size : Nat} {v : Value} {n : Nat} {xs : List Value} (h : w.ownsRow b e size v n xs) (hb : b' ≤ b) : w.ownsRow b' e size v n xs := ownsRow_base h hb
theorem own_slice {w : World} {b : Nat} {e : TypeId} {size : Nat} {v : Value} {n : Nat} {xs : List Value} (h : w.ownsRow b e size v n xs) : ∃ ao c, v = .slice ao n c := by
  rcases h.2 with ⟨rfl, rfl⟩ | ⟨g, cap, cur, rfl, _⟩
  · exact ⟨_, _, rfl⟩
  · exact ⟨_, _, rfl⟩

/-- What a slice's items hold, of any size. -/
def SrcAt (w : World) (v : Value) (n size : Nat) (cs : List Value) : Prop :=
  ∃ ao cap, v = .slice ao n cap ∧ cs.length = n * size ∧ (n ≠ 0 → ∃ g off, ao = some ⟨g, off, none⟩ ∧ ∀ j u, cs[j]? = some u → w.cell? ⟨g, off + j, none⟩ = some u)
theorem LstB.src {B : Nat} {w : World} {v : Value} {vs : List Value} (h : LstB B w v vs) : SrcAt w v vs.length 1 vs := by
  obtain ⟨ao, cap, rfl, _, hc⟩ := h
  refine ⟨ao, cap, rfl, (Nat.mul_one _).symm, fun hne => ?_⟩
  obtain ⟨g, off, _, rfl, hx⟩ := hc (fun e => hne (by rw [e]; rfl))
  refine ⟨g, off, rfl, fun j u hj => ?_⟩
  obtain ⟨hl, he⟩ := List.getElem?_eq_some_iff.1 hj
  rw [hx j hl, he]
theorem flat_len {α : Type} (C : Nat) (f : α → List Value) (hf : ∀ x, (f x).length = C) : ∀ l : List α, (l.flatMap f).length = l.length * C
  | [] => by simp
  | a :: r => by rw [List.flatMap_cons, List.length_append, hf, flat_len C f hf r, List.length_cons, Nat.succ_mul]; omega
theorem flat_get {α : Type} (C : Nat) (f : α → List Value) (hf : ∀ x, (f x).length = C) : ∀ (l : List α) (i : Nat) (hi : i < l.length) (j : Nat) (_ : j < C), (l.flatMap f)[i * C + j]? = (f l[i])[j]?
  | a :: r, 0, _, j, hj => by
    rw [List.flatMap_cons, Nat.zero_mul, Nat.zero_add, List.getElem?_append_left (by rw [hf]; exact hj)]
    rfl
  | a :: r, i + 1, hi, j, hj => by
    rw [List.flatMap_cons, List.getElem?_append_right (by rw [hf, Nat.succ_mul]; omega), hf, show (i + 1) * C + j - C = i * C + j from by rw [Nat.succ_mul]; omega]
    exact flat_get C f hf r i (by simpa using hi) j hj
theorem RowsB.src {α : Type} {C B : Nat} {V : Array Value → α → Prop} {w : World} {v : Value} {l : List α} (hC : 0 < C) (f : α → List Value) (hf : ∀ x, (f x).length = C) (hV : ∀ cs x, V cs x → cs.toList = f x) (h : RowsB C V B w v l) : SrcAt w v l.length C (l.flatMap f) := by
  obtain ⟨ao, cap, rfl, _, hc⟩ := h
  refine ⟨ao, cap, rfl, flat_len C f hf l, fun hne => ?_⟩
  obtain ⟨g, off, _, rfl, hx⟩ := hc (fun e => hne (by rw [e]; rfl))
  refine ⟨g, off, rfl, fun j u hj => ?_⟩
  have hjl : j < l.length * C := by
    rw [← flat_len C f hf l]
    exact (List.getElem?_eq_some_iff.1 hj).1
  have hq : j / C < l.length := Nat.div_lt_of_lt_mul (by rw [Nat.mul_comm]; exact hjl)
  have hr : j % C < C := Nat.mod_lt _ hC
  have hsum : j / C * C + j % C = j := by rw [Nat.mul_comm]; exact Nat.div_add_mod j C
  obtain ⟨cs, hv, hcell⟩ := hx (j / C) hq
  obtain ⟨hs, he⟩ := hcell (j % C) hr
  rw [← hsum, flat_get C f hf l _ hq _ hr, ← hV cs _ hv, Array.getElem?_toList, Array.getElem?_eq_getElem hs] at hj
  rw [show off + j = off + j / C * C + j % C from by omega, he]
  exact hj

/-- 'append(nil, l...)'. -/
theorem wpList_append_src {P : Program} {w : World} {ops : Array Oper} {rest : List Oper} {o : Oper} {a : Act} {Q : Exit → Act → World → Prop} (hgd : o.guard = none) (s x : Operand) (t : TypeId)
    (ho : o.op = .call { callee := .builtin .append, args := #[s, x], argTypes := #[t, t] })
    (e : TypeId) (z : Value) (size bytes : Nat) (ht : P.underlying t = some (.slice e)) (hi : (P.info? e).map (fun i => (i.zero, i.size, i.bytes)) = some (some z, size, bytes)) (hzs : z.cells.size = size) (hsz : 0 < size)
    (hs : a.eval s = .slice none 0 0) (xv : Value) (n : Nat) (cs : List Value) (hx : a.eval x = xv) (hL : SrcAt w xv n size cs) (h1 : ∀ u ∈ cs, u.oneCell' = true) (h63 : n ≤ maxLen) (hbytes : n * bytes ≤ 140737488355328)
    (h : ∀ v' w', w'.ownsRow w.heap.size e size v' n cs → Below w.heap.size w w' → wpList P ops Q rest (a.put o.dst v') w') : wpList P ops Q (o :: rest) a w := by
  obtain ⟨i, hi, hz, hsize, hby⟩ := info_parts hi
  obtain ⟨ao, cap, rfl, hl, hc⟩ := hL
  by_cases hne : n = 0
  · subst hne
    have hcs : cs = [] := List.length_eq_zero_iff.1 (by rw [hl, Nat.zero_mul])
    subst hcs
    have hsrc : Src P i.size t (.slice ao 0 cap) 0 [] w := by
      cases ao with
      | none => exact Src.ofNil w ht cap
      | some ad => exact Src.ofSlice w ht ad 0 cap [] (by simp) (fun j u hj => by simp at hj) (fun u hu => by cases hu)
    have hrun := run_append_nothing w t t o.type e i ht hi none 0 0 (Nat.le_refl _) _ hsrc
    refine wpList_plain hgd fun K hK' => ?_
    unfold Oper.wp
    simp [execOp, ho, resolve, invoke, builtin, hs, hx, hrun, Result.andThen]
    exact hK' _ _ (h _ _ (World.ownsRow_nil w _ e size) (Below.refl _ _))
  · obtain ⟨g, off, rfl, hcell⟩ := hc hne
    refine wpList_append_own (w := w) hgd s x t ho w.heap.size e i z size bytes ht hi hz hsize hby hzs hsz (.slice none 0 0) 0 [] hs (World.ownsRow_nil w _ e size) ⟨g, off, none⟩ n cap cs hx hl (fun j u hj => ?_) h1 (by omega) (by rw [Nat.zero_add]; exact hbytes) (Nat.le_refl _) (fun v' w' h2 h3 _ => h v' w' ?_ ?_)
    · rw [Go.WideShapes.add_plain]; exact hcell j u hj
    · rw [Nat.zero_add, List.nil_append] at h2; exact h2
    · exact (Below.refl _ _).grown h3 (Nat.le_refl _) (fun k hk => by simp [Value.ownBlock] at hk)

/-- 'l = append(l, x)', x of several cells. -/
theorem wpList_append_item {P : Program} {w : World} {ops : Array Oper} {rest : List Oper} {o : Oper} {a : Act} {Q : Exit → Act → World → Prop} (hgd : o.guard = none) (s x : Operand) (t : TypeId)
    (ho : o.op = .call { callee := .builtin .append, args := #[s, x], argTypes := #[t, t] })
    (e : TypeId) (z : Value) (size bytes : Nat) (ht : P.underlying t = some (.slice e)) (hi : (P.info? e).map (fun i => (i.zero, i.size, i.bytes)) = some (some z, size, bytes)) (hzs : z.cells.size = size) (hsz : 0 < size) (hb : bytes ≤ 1000)
    (base : Nat) (v : Value) (n : Nat) (xs : List Value) (hs : a.eval s = v) (hown : w.ownsRow base e size v n xs)
    (g : Nat) (hx : a.eval x = .slice (some ⟨g, 0, none⟩) 1 1) (hg : g = w.heap.size) (cs : List Value) (hcs : cs.length = size) (h1 : ∀ u ∈ cs, u.oneCell' = true) (hn : n ≤ 1000000) (hbase : base ≤ w.heap.size)
    (h : ∀ v' w', w'.ownsRow base e size v' (n + 1) (xs ++ cs) → Same e w w' → Below base w w' → wpList P ops Q rest (a.put o.dst v') w') : wpList P ops Q (o :: rest) a (w.alloc (.cells cs.toArray e)) := by
  subst hg
  obtain ⟨i, hi, hz, hsize, hby⟩ := info_parts hi
  have hal : Below w.heap.size w (w.alloc (.cells cs.toArray e)) := (Below.refl _ _).alloc (Nat.le_refl _) _
  have hO := hown.alloc (.cells cs.toArray e)
  have hbb : (n + 1) * bytes ≤ 140737488355328 := Nat.le_trans (Nat.mul_le_mul_left _ hb) (by omega)
  refine wpList_append_own (w := w.alloc (.cells cs.toArray e)) hgd s x t ho base e i z size bytes ht hi hz hsize hby hzs hsz v n xs hs hO ⟨w.heap.size, 0, none⟩ 1 1 cs hx (by rw [hcs, Nat.one_mul]) (fun j u hj => ?_) h1 (by unfold maxLen; omega) hbb (by simp; omega) (fun v' w' h1 h2 _ => h v' w' h1 ?_ ?_)
  · rw [show (⟨w.heap.size, 0, none⟩ : Addr).add j = ⟨w.heap.size, j, none⟩ from by simp [Addr.add]; omega, World.cell?_alloc_mark, List.getElem?_toArray]
    exact hj
  · exact Same.trans hal (Same.grown hO h2)
  · refine (hal.mono hbase).grown h2 (by simp; omega) (fun k hk => ?_)
    rcases hown.2 with ⟨rfl, _⟩ | ⟨g, cap, cur, rfl, hg, _⟩
    · cases hk
    · cases hk; exact hg

/-- Expressions, statements, functions with the values of their lists. -/
abbrev E3 := Ex × Value
abbrev S4 := St × Value × Value × Value
abbrev P5 := Pr × Value × Value × Value × Value
def cellsE (r : E3) : List Value := [.int .u8 r.1.k, .int .i64 r.1.n, r.2]
def cellsS (r : S4) : List Value := [.int .u8 r.1.k, r.2.1, r.2.2.1, r.2.2.2, .int .i64 r.1.next, .int .i64 r.1.els, .int .i64 r.1.line]
def cellsU (u : Up) : List Value := [.bool u.loc, .int .i64 u.pos]
def cellsP (r : P5) : List Value := [.int .i64 r.1.params, .bool r.1.more, .int .i64 r.1.slots, r.2.1, r.2.2.1, r.2.2.2.1, r.2.2.2.2, .int .i64 r.1.start]
def IntsO (β : Nat) (w : World) (v : Value) (l : List Int) : Prop := w.ownsRow β 3 1 v l.length (ints l)
def SubE (β : Nat) (w : World) (r : E3) : Prop := IntsO β w r.2 r.1.kids
def SubS (β : Nat) (w : World) (r : S4) : Prop := IntsO β w r.2.1 r.1.slots ∧ IntsO β w r.2.2.1 r.1.targets ∧ IntsO β w r.2.2.2 r.1.exprs
def OwnE (β : Nat) (w : World) (base : Nat) (v : Value) (rs : List E3) : Prop := w.ownsRow base 41 3 v rs.length (rs.flatMap cellsE) ∧ ∀ r ∈ rs, SubE β w r
def OwnS (β : Nat) (w : World) (base : Nat) (v : Value) (rs : List S4) : Prop := w.ownsRow base 44 7 v rs.length (rs.flatMap cellsS) ∧ ∀ r ∈ rs, SubS β w r
def SubP (β : Nat) (w : World) (r : P5) : Prop :=
  w.ownsRow β 4 1 r.2.1 r.1.boxed.length (bools r.1.boxed) ∧ w.ownsRow β 37 2 r.2.2.1 r.1.ups.length (r.1.ups.flatMap cellsU) ∧ (∃ ss, OwnS β w β r.2.2.2.1 ss ∧ ss.map (·.1) = r.1.stmts) ∧ ∃ es, OwnE β w β r.2.2.2.2 es ∧ es.map (·.1) = r.1.exprs
def OwnP (β : Nat) (w : World) (base : Nat) (v : Value) (rs : List P5) : Prop := w.ownsRow base 35 8 v rs.length (rs.flatMap cellsP) ∧ ∀ r ∈ rs, SubP β w r
def TextsO (w : World) (v : Value) (l : List ByteArray) : Prop := w.ownsRow 0 9 1 v l.length (texts l)

section
variable {β : Nat} {T : TypeId} {w w' : World}
theorem IntsO.same {v : Value} {l : List Int} (h : IntsO β w v l) (hs : Same T w w') (h1 : 3 ≠ T) : IntsO β w' v l := own_same h hs h1
theorem SubS.same {r : S4} (h : SubS β w r) (hs : Same T w w') (h1 : 3 ≠ T) : SubS β w' r := ⟨h.1.same hs h1, h.2.1.same hs h1, h.2.2.same hs h1⟩
theorem OwnE.same {b : Nat} {v : Value} {rs : List E3} (h : OwnE β w b v rs) (hs : Same T w w') (h1 : 3 ≠ T) (h2 : 41 ≠ T) : OwnE β w' b v rs := ⟨own_same h.1 hs h2, fun r hr => (h.2 r hr).same hs h1⟩
theorem OwnS.same {b : Nat} {v : Value} {rs : List S4} (h : OwnS β w b v rs) (hs : Same T w w') (h1 : 3 ≠ T) (h2 : 44 ≠ T) : OwnS β w' b v rs := ⟨own_same h.1 hs h2, fun r hr => (h.2 r hr).same hs h1⟩
theorem OwnE.lift {b b' : Nat} {v : Value} {rs : List E3} (h : OwnE β w b v rs) (hb : b' ≤ b) : OwnE β w b' v rs := ⟨own_lift h.1 hb, h.2⟩
theorem OwnS.lift {b b' : Nat} {v : Value} {rs : List S4} (h : OwnS β w b v rs) (hb : b' ≤ b) : OwnS β w b' v rs := ⟨own_lift h.1 hb, h.2⟩
theorem OwnP.lift {b b' : Nat} {v : Value} {rs : List P5} (h : OwnP β w b v rs) (hb : b' ≤ b) : OwnP β w b' v rs := ⟨own_lift h.1 hb, h.2⟩
theorem SubP.same {r : P5} (h : SubP β w r) (hs : Same T w w') (h1 : 3 ≠ T) (h2 : 41 ≠ T) (h3 : 44 ≠ T) (h4 : 4 ≠ T) (h5 : 37 ≠ T) : SubP β w' r := by
  obtain ⟨a, b, ⟨ss, c, d⟩, es, e, f⟩ := h
  exact ⟨own_same a hs h4, own_same b hs h5, ⟨ss, c.same hs h1 h3, d⟩, es, e.same hs h1 h2, f⟩
theorem OwnP.same {b : Nat} {v : Value} {rs : List P5} (h : OwnP β w b v rs) (hs : Same T w w') (h1 : 3 ≠ T) (h2 : 41 ≠ T) (h3 : 44 ≠ T) (h4 : 4 ≠ T) (h5 : 37 ≠ T) (h6 : 35 ≠ T) : OwnP β w' b v rs := ⟨own_same h.1 hs h6, fun r hr => (h.2 r hr).same hs h1 h2 h3 h4 h5⟩
theorem IntsO.lift {β' : Nat} {v : Value} {l : List Int} (h : IntsO β w v l) (hb : β' ≤ β) : IntsO β' w v l := own_lift h hb
theorem IntsO.below {v : Value} {l : List Int} (h : IntsO β w v l) (hb : Below w.heap.size w w') : IntsO β w' v l := h.same (T := 1000000) (Same.of_below hb) (by decide)
theorem SubS.below {r : S4} (h : SubS β w r) (hb : Below w.heap.size w w') : SubS β w' r := h.same (T := 1000000) (Same.of_below hb) (by decide)
theorem SubE.below {r : E3} (h : SubE β w r) (hb : Below w.heap.size w w') : SubE β w' r := IntsO.below h hb
theorem OwnE.below {b : Nat} {v : Value} {rs : List E3} (h : OwnE β w b v rs) (hb : Below w.heap.size w w') : OwnE β w' b v rs := h.same (T := 1000000) (Same.of_below hb) (by decide) (by decide)
theorem OwnS.below {b : Nat} {v : Value} {rs : List S4} (h : OwnS β w b v rs) (hb : Below w.heap.size w w') : OwnS β w' b v rs := h.same (T := 1000000) (Same.of_below hb) (by decide) (by decide)
theorem SubP.below {r : P5} (h : SubP β w r) (hb : Below w.heap.size w w') : SubP β w' r := h.same (T := 1000000) (Same.of_below hb) (by decide) (by decide) (by decide) (by decide) (by decide)
theorem OwnP.below {b : Nat} {v : Value} {rs : List P5} (h : OwnP β w b v rs) (hb : Below w.heap.size w w') : OwnP β w' b v rs := h.same (T := 1000000) (Same.of_below hb) (by decide) (by decide) (by decide) (by decide) (by decide) (by decide)
end

theorem infoInts : (Tryd.prog.info? 3).map (fun i => (i.zero, i.size, i.bytes)) = some (some (.int .i64 0), 1, 8) := by kernel_rfl
theorem infoText : (Tryd.prog.info? 9).map (fun i => (i.zero, i.size, i.bytes)) = some (some (.string ByteArray.empty), 1, 16) := by kernel_rfl
theorem infoBools : (Tryd.prog.info? 4).map (fun i => (i.zero, i.size, i.bytes)) = some (some (.bool false), 1, 1) := by kernel_rfl
theorem infoUp : (Tryd.prog.info? 37).map (fun i => (i.zero, i.size, i.bytes)) = some (some (.agg #[.bool false, .int .i64 0]), 2, 16) := by kernel_rfl
theorem infoExpr : (Tryd.prog.info? 41).map (fun i => (i.zero, i.size, i.bytes)) = some (some (.agg #[.int .u8 0, .int .i64 0, .slice none 0 0]), 3, 40) := by kernel_rfl
theorem infoStmt : (Tryd.prog.info? 44).map (fun i => (i.zero, i.size, i.bytes)) = some (some (.agg #[.int .u8 0, .slice none 0 0, .slice none 0 0, .slice none 0 0, .int .i64 0, .int .i64 0, .int .i64 0]), 7, 104) := by kernel_rfl
theorem infoProto : (Tryd.prog.info? 35).map (fun i => (i.zero, i.size, i.bytes)) = some (some (.agg #[.int .i64 0, .bool false, .int .i64 0, .slice none 0 0, .slice none 0 0, .slice none 0 0, .slice none 0 0, .int .i64 0]), 8, 128) := by kernel_rfl

theorem copy_ints {B : Nat} (v : Value) (zs : List Int) (w : World) (hL : LstB B w v (ints zs)) (hl : zs.length * 8 ≤ 140737488351232) :
    Calls Tryd.prog 15 #[v] w fun e w' => ∃ v', e = .returned v' ∧ IntsO w.heap.size w' v' zs ∧ Below w.heap.size w w' := by
  have HL := Lib.hid hL.src
  obtain ⟨ao, cap, rfl, _, _⟩ := hL
  rw [ints_len] at *
  have HX := Lib.hid hl
  clear hl
  go_enter Tryd.func15, Tryd.ntmps15
  go_wp2_with (at_builtin; refine wpList_append_src rfl (.tmp 4) (.tmp 5) 39 rfl 3 (.int .i64 0) 1 8 Tryd.underlying39 infoInts rfl (by decide) rfl (.slice ao zs.length cap) zs.length (ints zs) rfl HL.out ?g1 ?g2 ?g3 ?_)
  case g1 => intro u hu; obtain ⟨c, _, rfl⟩ := List.mem_map.1 hu; rfl
  case g2 => have := HX.out; unfold maxLen; omega
  case g3 => have := HX.out; omega
  intro v' w' ho hb
  have HO := Lib.hid (show IntsO w.heap.size w' v' zs from ho)
  have HB := Lib.hid hb
  clear ho hb
  go_wp2_with fail
  go_ret
  exact ⟨_, rfl, HO.out, HB.out⟩

theorem copy_texts {B : Nat} (v : Value) (zs : List ByteArray) (w : World) (hL : LstB B w v (texts zs)) (hl : zs.length * 16 ≤ 140737488351232) :
    Calls Tryd.prog 14 #[v] w fun e w' => ∃ v', e = .returned v' ∧ TextsO w' v' zs ∧ Below w.heap.size w w' := by
  have HL := Lib.hid hL.src
  obtain ⟨ao, cap, rfl, _, _⟩ := hL
  rw [texts_len] at *
  have HX := Lib.hid hl
  clear hl
  go_enter Tryd.func14, Tryd.ntmps14
  go_wp2_with (at_builtin; refine wpList_append_src rfl (.tmp 4) (.tmp 5) 23 rfl 9 (.string ByteArray.empty) 1 16 Tryd.underlying23 infoText rfl (by decide) rfl (.slice ao zs.length cap) zs.length (texts zs) rfl HL.out ?g1 ?g2 ?g3 ?_)
  case g1 => intro u hu; obtain ⟨c, _, rfl⟩ := List.mem_map.1 hu; rfl
  case g2 => have := HX.out; unfold maxLen; omega
  case g3 => have := HX.out; omega
  intro v' w' ho hb
  have HO := Lib.hid (show TextsO w' v' zs from own_lift ho (Nat.zero_le _))
  have HB := Lib.hid hb
  clear ho hb
  go_wp2_with fail
  go_ret
  exact ⟨_, rfl, HO.out, HB.out⟩

end Go.Proofs.YtnnjkejejlhkdaaDoor.Rt
