import Derived.Test.YthejclgihhfenaaCm1
import Derived.Lib.SmallJoins
import Derived.SizedLaws
import Derived.ChangeArms
import Derived.Test.YthejclgihhfenaaCm3
/-
  Layer 14: that any argument of the laws' types is a list in memory.
-/
namespace Go.Proofs.Ythejclgihhfenaa.Hp
open Go.ChangeShapes Go.WideShapes Go.RowKit Go.Deep Go.Joins Go.Proofs.Ythejclgihhfenaa.Pl

/-- A list whose items take C cells each. -/
def RowsP {α : Type} (C : Nat) (V : Array Value → α → Prop) (P : Nat → Prop) (w : World) (v : Value) (l : List α) : Prop :=
  ∃ ao cap, v = .slice ao l.length cap ∧ (l.length ≤ cap ∧ Len l.length) ∧ (l ≠ [] → ∃ g off, P g ∧ g < w.heap.size ∧ ao = some ⟨g, off, none⟩ ∧ ∀ (i : Nat) (h : i < l.length), ∃ cs : Array Value, V cs l[i] ∧ ∀ (j : Nat) (hj : j < C), ∃ h : j < cs.size, w.cell? ⟨g, off + i * C + j, none⟩ = some cs[j])
theorem RowsP.item {α : Type} {C : Nat} {V : Array Value → α → Prop} {P : Nat → Prop} {w : World} {v : Value} {l : List α} (h : RowsP C V P w v l) {i : Nat} (hi : i < l.length) : ∃ g off cap cs, P g ∧ g < w.heap.size ∧ v = .slice (some ⟨g, off, none⟩) l.length cap ∧ V cs l[i] ∧ ∀ (j : Nat), j < C → ∃ h : j < cs.size, w.cell? ⟨g, off + i * C + j, none⟩ = some cs[j] := by
  obtain ⟨ao, cap, rfl, hl, hc⟩ := h
  obtain ⟨g, off, hg, hg2, rfl, hx⟩ := hc (by rintro rfl; exact absurd hi (Nat.not_lt_zero _))
  obtain ⟨cs, h1, h2⟩ := hx i hi
  exact ⟨g, off, cap, cs, hg, hg2, rfl, h1, h2⟩
theorem RowsP.slice {α : Type} {C : Nat} {V : Array Value → α → Prop} {P : Nat → Prop} {w : World} {v : Value} {l : List α} (h : RowsP C V P w v l) : ∃ ao cap, v = .slice ao l.length cap ∧ l.length ≤ cap ∧ Len l.length := by
  obtain ⟨ao, cap, hv, hl, _⟩ := h
  exact ⟨ao, cap, hv, hl⟩

section
variable {H : Type} {enc : TypeId × Value → H} {w : World} {base : Nat} {spare : Nat → Bool} {held : Bool}

/-- What an item of a list must give. -/
def Each {α : Type} (enc : TypeId × Value → H) (w : World) (base : Nat) (spare : Nat → Bool) (held : Bool) (e : TypeId) (C : Nat) (V : Array Value → α → Prop) : Prop :=
  ∀ fuel b o cs x, w.cells? base ⟨b, o, none⟩ (Try.prog.cellsOf e) = some cs → DataW.trod enc Try.prog w base spare held fuel e cs = some x → ∃ (a : α) (cv : Array Value), V cv a ∧ ∀ (j : Nat), j < C → ∃ h : j < cv.size, w.cell? ⟨b, o + j, none⟩ = some cv[j]
theorem rows_lie {α : Type} [Inhabited α] {ts e : TypeId} {C : Nat} {V : Array Value → α → Prop} (hu : Try.prog.underlying ts = some (.slice e)) (hC : Try.prog.cellsOf e = C) (h0C : 0 < C) (he : Each enc w base spare held e C V) {fuel : Nat} {v : Value} {x : DataW H × List MemPlace}
    (h : DataW.trod enc Try.prog w base spare held fuel ts [v] = some x) : ∃ l : List α, RowsP C V (fun _ => True) w v l := by
  rcases open_slice hu h with ⟨hcs, _⟩ | ⟨a, len, cap, m, n, D, Pl, hcs, _, hl, hm, hmm, hx, hi⟩
  · simp at hcs
    exact ⟨[], none, 0, hcs, ⟨Nat.le_refl _, Nat.zero_le _⟩, fun h => absurd rfl h⟩
  · simp at hcs
    subst hcs
    have hge : len ≤ m := by rw [hmm]; split <;> omega
    rcases Nat.eq_zero_or_pos len with h0 | hpos
    · subst h0
      exact ⟨[], some a, cap, rfl, ⟨Nat.zero_le _, Nat.zero_le _⟩, fun h => absurd rfl h⟩
    obtain ⟨b, off, spot⟩ := a
    have hspot : spot = none := by
      obtain ⟨cs', hc', _⟩ := hi 0 (by omega)
      obtain ⟨_, hcl, hat⟩ := World.cells?_some hc'
      have := hat 0 (by omega)
      rw [List.getElem?_eq_getElem (by omega)] at this
      simpa [Addr.add] using World.cell?_spot this
    subst hspot
    have each : ∀ i, ∃ (q : α × Array Value), i < len → V q.2 q.1 ∧ ∀ (j : Nat), j < C → ∃ h : j < q.2.size, w.cell? ⟨b, off + i * C + j, none⟩ = some q.2[j] := by
      intro i
      by_cases h : i < len
      · obtain ⟨cs', hc', ht'⟩ := hi i (by omega)
        rw [add_plain, show i * Try.prog.cellsOf e = i * C from by rw [hC]] at hc'
        obtain ⟨a, cv, h1, h2⟩ := he _ _ _ _ _ hc' ht'
        exact ⟨(a, cv), fun _ => ⟨h1, h2⟩⟩
      · exact ⟨default, fun h' => absurd h' h⟩
    obtain ⟨f, hf⟩ := Classical.skolem.1 each
    have hL : ((List.range len).map fun i => (f i).1).length = len := by rw [List.length_map, List.length_range]
    refine ⟨(List.range len).map fun i => (f i).1, some ⟨b, off, none⟩, cap, by rw [hL], ⟨by rw [hL]; exact hl, by rw [hL]; unfold maxLen at hm; unfold Len; omega⟩, fun _ => ⟨b, off, trivial, ?_, rfl, fun i h => ?_⟩⟩
    · obtain ⟨hs, c0⟩ := (hf 0 hpos).2 0 h0C
      exact World.block_lt_of_cell? w _ c0
    · rw [hL] at h
      exact ⟨(f i).2, by simpa using (hf i h).1, fun j hj => (hf i h).2 j hj⟩
theorem lst_lie {α : Type} {en : α → Value} {Q : α → Prop} {P : Nat → Prop} {v : Value} {l : List α} (h : RowsP 1 (fun cs a => cs = #[en a] ∧ Q a) P w v l) : LstP P w v (l.map en) ∧ ∀ a ∈ l, Q a := by
  obtain ⟨ao, cap, rfl, hl, hc⟩ := h
  constructor
  · refine ⟨ao, cap, by rw [List.length_map], by rw [List.length_map]; exact hl, fun hne => ?_⟩
    obtain ⟨g, off, hg, hg2, rfl, hx⟩ := hc (fun h => hne (by rw [h]; rfl))
    refine ⟨g, off, hg, hg2, rfl, fun j hj => ?_⟩
    have hj2 : j < l.length := by simpa using hj
    obtain ⟨cs, ⟨rfl, _⟩, h2⟩ := hx j hj2
    obtain ⟨_, h3⟩ := h2 0 (by decide)
    rw [List.getElem_map]
    simpa using h3
  · intro a ha
    obtain ⟨i, hi, rfl⟩ := List.getElem_of_mem ha
    obtain ⟨g, off, _, _, _, hx⟩ := hc (by intro h; subst h; exact absurd hi (Nat.not_lt_zero _))
    obtain ⟨cs, ⟨_, hq⟩, _⟩ := hx i hi
    exact hq
theorem one_cell {b o : Nat} {e : TypeId} {cs : List Value} {u : Value} (hC : Try.prog.cellsOf e = 1) (hc : w.cells? base ⟨b, o, none⟩ (Try.prog.cellsOf e) = some cs) (he : cs = [u]) : ∀ (j : Nat), j < 1 → ∃ h : j < #[u].size, w.cell? ⟨b, o + j, none⟩ = some #[u][j] := by
  obtain ⟨_, _, hat⟩ := World.cells?_some hc
  intro j hj
  obtain rfl : j = 0 := by omega
  refine ⟨by simp, ?_⟩
  have := hat 0 (by rw [hC]; decide)
  rw [add_plain, he] at this
  exact this
theorem int_each : Each enc w base spare held 3 1 (fun cs (z : Int) => cs = #[.int .i64 z] ∧ Pl.In64 z) := fun fuel b o cs x hc ht => by
  obtain ⟨z, e0, _, wf⟩ := DataW.trod_int Try.underlying3 ht
  exact ⟨z, _, ⟨rfl, bounds_i64 wf⟩, one_cell (by kernel_rfl) hc e0⟩
/-- A struct's row of one-cell fields: each field's cell with its reading. -/
theorem fields_lie {P : Program} {e : TypeId} {fs : Array Field} {fuel : Nat} {b o : Nat} {cs : List Value} {x : DataW H × List MemPlace} (he : P.underlying e = some (.struct fs)) (hone : oneCellFields P fs = true) (hC : P.cellsOf e = fs.size)
    (hc : w.cells? base ⟨b, o, none⟩ (P.cellsOf e) = some cs) (h : DataW.trod enc P w base spare held fuel e cs = some x) :
    ∃ n, ∀ (j : Nat) (f : Field), fs[j]? = some f → ∃ v y, w.cell? ⟨b, o + j, none⟩ = some v ∧ DataW.trod enc P w base spare held n f.type [v] = some y := by
  obtain ⟨xs, n, _, rfl, hlen, hxl, hf⟩ := DataW.trod_struct he h
  obtain ⟨_, _, hat⟩ := World.cells?_some hc
  refine ⟨n, fun j f hj => ?_⟩
  obtain ⟨ho, hk⟩ := hone_of hone j f hj
  have hjl : j < fs.size := (Array.getElem?_eq_some_iff.1 hj).1
  have hjc : j < cs.length := by omega
  have h1 := hf j f hj
  rw [ho, hk, List.drop_eq_getElem_cons hjc] at h1
  have hcell := hat j (by omega)
  rw [add_plain, List.getElem?_eq_getElem hjc] at hcell
  exact ⟨_, xs[j]'(by omega), hcell, h1.trans (List.getElem?_eq_getElem (by omega))⟩
theorem text_each : Each enc w base spare held 9 1 (fun cs (z : ByteArray) => cs = #[.string z] ∧ True) := fun fuel b o cs x hc ht => by
  obtain ⟨z, e0, _⟩ := DataW.trod_string Try.underlying9 ht
  exact ⟨z, _, ⟨rfl, trivial⟩, one_cell (by kernel_rfl) hc e0⟩
theorem texts_lie {fuel : Nat} {v : Value} {x : DataW H × List MemPlace} (h : DataW.trod enc Try.prog w base spare held fuel 50 [v] = some x) :
    ∃ (l : List ByteArray) (ao : Option Addr) (cap : Nat), v = .slice ao l.length cap ∧ ∀ (j : Nat) (h : j < l.length), ∃ g off, ao = some ⟨g, off, none⟩ ∧ g < w.heap.size ∧ w.cell? ⟨g, off + j, none⟩ = some (.string l[j]) := by
  obtain ⟨l, ao, cap, rfl, _, hx⟩ := rows_lie Try.underlying50 (by kernel_rfl) (by decide) text_each h
  refine ⟨l, ao, cap, rfl, fun j hj => ?_⟩
  obtain ⟨g, off, _, hg, rfl, hc⟩ := hx (by rintro rfl; exact absurd hj (Nat.not_lt_zero _))
  obtain ⟨cs, ⟨rfl, _⟩, h1⟩ := hc j hj
  obtain ⟨_, h2⟩ := h1 0 (by decide)
  exact ⟨g, off, rfl, hg, by simpa using h2⟩
/-- A call that is handed in. -/
def OpC (cs : Array Value) (o : Int × Int × Int × Int × Int × ByteArray) : Prop :=
  cs = #[.int .i64 o.1, .int .i64 o.2.1, .int .i64 o.2.2.1, .int .i64 o.2.2.2.1, .int .i64 o.2.2.2.2.1, .string o.2.2.2.2.2] ∧ Pl.In64 o.1 ∧ Pl.In64 o.2.1
theorem op_each : Each enc w base spare held 33 6 OpC := fun fuel b o cs x hc ht => by
  obtain ⟨n, Hf⟩ := fields_lie Try.underlying33 (by kernel_rfl) (by kernel_rfl) hc ht
  obtain ⟨v0, y0, c0, t0⟩ := Hf 0 _ rfl
  obtain ⟨v1, y1, c1, t1⟩ := Hf 1 _ rfl
  obtain ⟨v2, y2, c2, t2⟩ := Hf 2 _ rfl
  obtain ⟨v3, y3, c3, t3⟩ := Hf 3 _ rfl
  obtain ⟨v4, y4, c4, t4⟩ := Hf 4 _ rfl
  obtain ⟨v5, y5, c5, t5⟩ := Hf 5 _ rfl
  obtain ⟨z0, e0, _, w0⟩ := DataW.trod_int Try.underlying3 t0
  obtain ⟨z1, e1, _, w1⟩ := DataW.trod_int Try.underlying3 t1
  obtain ⟨z2, e2, _, w2⟩ := DataW.trod_int Try.underlying3 t2
  obtain ⟨z3, e3, _, w3⟩ := DataW.trod_int Try.underlying3 t3
  obtain ⟨z4, e4, _, w4⟩ := DataW.trod_int Try.underlying3 t4
  obtain ⟨z5, e5, _⟩ := DataW.trod_string Try.underlying9 t5
  obtain rfl := (List.cons.inj e0).1
  obtain rfl := (List.cons.inj e1).1
  obtain rfl := (List.cons.inj e2).1
  obtain rfl := (List.cons.inj e3).1
  obtain rfl := (List.cons.inj e4).1
  obtain rfl := (List.cons.inj e5).1
  refine ⟨(z0, z1, z2, z3, z4, z5), _, ⟨rfl, bounds_i64 w0, bounds_i64 w1⟩, fun j hj => ?_⟩
  match j, hj with
  | 0, _ => exact ⟨by simp, c0⟩
  | 1, _ => exact ⟨by simp, c1⟩
  | 2, _ => exact ⟨by simp, c2⟩
  | 3, _ => exact ⟨by simp, c3⟩
  | 4, _ => exact ⟨by simp, c4⟩
  | 5, _ => exact ⟨by simp, c5⟩
theorem ops_lie {fuel : Nat} {v : Value} {x : DataW H × List MemPlace} (h : DataW.trod enc Try.prog w base spare held fuel 22 [v] = some x) :
    ∃ (n : Nat) (ao : Option Addr) (cap : Nat), v = .slice ao n cap ∧ n ≤ 9223372036854775807 ∧ ∀ j, j < n → ∃ g off k a b c m s, ao = some ⟨g, off, none⟩ ∧ g < w.heap.size ∧ Pl.In64 k ∧ Pl.In64 a ∧
      w.cell? ⟨g, off + j * 6, none⟩ = some (.int .i64 k) ∧ w.cell? ⟨g, off + j * 6 + 1, none⟩ = some (.int .i64 a) ∧ w.cell? ⟨g, off + j * 6 + 2, none⟩ = some (.int .i64 b) ∧ w.cell? ⟨g, off + j * 6 + 3, none⟩ = some (.int .i64 c) ∧ w.cell? ⟨g, off + j * 6 + 4, none⟩ = some (.int .i64 m) ∧ w.cell? ⟨g, off + j * 6 + 5, none⟩ = some (.string s) := by
  obtain ⟨l, ao, cap, rfl, ⟨_, hl⟩, hx⟩ := rows_lie Try.underlying22 (by kernel_rfl) (by decide) op_each h
  unfold Len at hl
  refine ⟨l.length, ao, cap, rfl, by omega, fun j hj => ?_⟩
  obtain ⟨g, off, _, hg, rfl, hc⟩ := hx (by rintro rfl; exact absurd hj (Nat.not_lt_zero _))
  obtain ⟨cs, ⟨rfl, h1, h2⟩, h3⟩ := hc j hj
  obtain ⟨_, a0⟩ := h3 0 (by decide)
  obtain ⟨_, a1⟩ := h3 1 (by decide)
  obtain ⟨_, a2⟩ := h3 2 (by decide)
  obtain ⟨_, a3⟩ := h3 3 (by decide)
  obtain ⟨_, a4⟩ := h3 4 (by decide)
  obtain ⟨_, a5⟩ := h3 5 (by decide)
  exact ⟨g, off, _, _, _, _, _, _, rfl, hg, h1, h2, a0, a1, a2, a3, a4, a5⟩
end
end Go.Proofs.Ythejclgihhfenaa.Hp

/-
  Layer 13: the developers' map of keys to places, in a block of the table's own, as a function of its keys.
-/
namespace Go.Proofs.Ythejclgihhfenaa.Td
open Go Go.RowKit Go.Proofs.Ythejclgihhfenaa.Pl Go.Proofs.Ythejclgihhfenaa.Tb Go.Proofs.Ythejclgihhfenaa.Vm Go.Maps Go.WideShapes

/-- A place's pointer: none, or a block. -/
def ptrP : Option Nat → Value
  | none => .pointer none
  | some g => .pointer (some ⟨g, 0, none⟩)
def litP : Option Nat → Lit
  | none => .int .i64 (-1)
  | some g => .int .i64 g
theorem litP_inj {a b : Option Nat} (h : litP a = litP b) : a = b := by
  cases a with
  | none => cases b with
    | none => rfl
    | some g => injection h with _ h; omega
  | some f => cases b with
    | none => injection h with _ h; omega
    | some g => injection h with _ h; rw [show f = g by omega]
/-- What an element reads as. -/
def pElem (v : Value) : Option (DataW Unit × List MemPlace) :=
  match v with
  | .pointer none => some (.lit (litP none), [])
  | .pointer (some ⟨g, 0, none⟩) => some (.lit (litP (some g)), [])
  | _ => none
theorem pElem_of (u : Option Nat) : pElem (ptrP u) = some (.lit (litP u), []) := by
  cases u <;> rfl
theorem pElem_inv {v : Value} {z : DataW Unit × List MemPlace} (h : pElem v = some z) : ∃ u : Option Nat, v = ptrP u ∧ z = (.lit (litP u), []) := by
  unfold pElem at h
  split at h
  · exact ⟨none, rfl, (Option.some.inj h).symm⟩
  · rename_i g
    exact ⟨some g, rfl, (Option.some.inj h).symm⟩
  · cases h
abbrev mapT : TypeId := 95
theorem zeroP (w : World) : (zeroValue 96).run Try.prog w = .ok (ptrP none) w := by kernel_rfl
/-- A map's block, of sz entries, that holds f. -/
def PMapIs (M : Obj) (sz : Nat) (f : Vl → Option Nat) : Prop := ∃ D : DataW Unit, Maps.size D = sz ∧ (∀ (w : World) (mb : Nat), w.heap[mb]? = some M → w.ownsMap Try.prog 31 pElem mb sz D) ∧
  ∀ v : Vl, v.In → Maps.has D (kV v) = (f v).isSome ∧ D.atKey (kV v) (.lit (litP none)) = .lit (litP (f v))
theorem pmap_new : PMapIs (.map #[] 0) 0 (fun _ => none) :=
  ⟨.map [], rfl, fun w mb h => ⟨#[], 0, h, ⟨by simp, MapKept.stamped_empty 0, by simp⟩, Nat.le_refl _, rfl⟩, fun k _ => ⟨rfl, rfl⟩⟩
section
variable {M : Obj} {sz : Nat} {f : Vl → Option Nat} {w : World} {mb : Nat}
theorem owns_sharp {D : DataW Unit} {N : Nat} (h : w.ownsMap Try.prog 31 pElem mb N D) : w.ownsMap Try.prog 31 pElem mb (Maps.size D) D := by
  obtain ⟨es, c, hb, F, _, rfl⟩ := h
  refine ⟨es, c, hb, F, ?_, rfl⟩
  simp [Maps.size, length_sorted]
theorem PMapIs.congr {g : Vl → Option Nat} (h : PMapIs M sz f) (e : ∀ k, g k = f k) : PMapIs M sz g := by
  rw [show g = f from funext e]; exact h
theorem PMapIs.is_map (h : PMapIs M sz f) (w : World) (hb : w.heap[mb]? = some M) : ∃ es c, M = .map es c := by
  obtain ⟨D, _, ho, _⟩ := h
  obtain ⟨es, c, h1, _⟩ := ho w mb hb
  rw [hb] at h1
  exact ⟨es, c, Option.some.inj h1⟩
set_option maxRecDepth 100000 in
theorem PMapIs.look_ok (h : PMapIs M sz f) (hb : w.heap[mb]? = some M) (k : Vl) (hk : k.In) : (Instr.lookup mapT (.map (some mb)) k.val true).run Try.prog w = .ok (.tuple #[ptrP (f k), .bool (f k).isSome]) w := by
  obtain ⟨D, _, ho, hf⟩ := h
  obtain ⟨v, ps, hrun, hv⟩ := (ho w mb hb).look_ok keyedV Try.underlying95 (zeroP _) (pElem_of none) (kV_of k hk)
  obtain ⟨u, rfl, hc⟩ := pElem_inv hv
  have hat : D.atKey (kV k) (.lit (litP none)) = .lit (litP u) := congrArg Prod.fst hc
  have h2 := (hf k hk).2
  rw [hat] at h2
  have he : u = f k := litP_inj (by injection h2)
  rw [hrun, (hf k hk).1, he]
/-- What a map's store or a drop leaves. -/
def PMapGoes (mb sz : Nat) (f : Vl → Option Nat) (w w' : World) : Prop := ∃ M, w'.heap[mb]? = some M ∧ PMapIs M sz f ∧ Turns [mb] w w' ∧ w'.heap.size = w.heap.size
theorem pgoes_of {D : DataW Unit} {N : Nat} {w' : World} (hs : Maps.size D = sz) (ho : w'.ownsMap Try.prog 31 pElem mb N D) (hf : ∀ v : Vl, v.In → Maps.has D (kV v) = (f v).isSome ∧ D.atKey (kV v) (.lit (litP none)) = .lit (litP (f v))) (ht : w.mapTurned w' mb) : PMapGoes mb sz f w w' := by
  have ho2 := owns_sharp ho
  rw [hs] at ho2
  obtain ⟨es, c, hb, hr⟩ := ho2
  have hz : w'.heap.size = w.heap.size := by
    obtain ⟨_, _, _, _, _, rfl⟩ := ht
    simp [ChangeMaps.setBlock]
  have hg := ht.grown
  exact ⟨_, hb, ⟨D, hs, fun w2 mb2 h2 => ⟨es, c, h2, hr⟩, hf⟩, ⟨hg.os, hg.tape, hg.output, hg.size, fun k hk hn => hg.block k hk (fun e => hn (by injection e with e; rw [e]; exact List.mem_singleton.2 rfl))⟩, hz⟩
set_option maxRecDepth 100000 in
theorem PMapIs.store (h : PMapIs M sz f) (hb : w.heap[mb]? = some M) (hN : sz < 1000000) (k : Vl) (g : Nat) (hk : k.In) : ∃ w', (Instr.mapUpdate mapT (.map (some mb)) k.val (ptrP (some g))).run Try.prog w = .ok () w' ∧ PMapGoes mb (if (f k).isSome then sz else sz + 1) (fun j => if j = k then some g else f j) w w' := by
  obtain ⟨D, hs, ho, hf⟩ := h
  obtain ⟨w', hrun, h1, h2⟩ := (ho w mb hb).store keyedV Try.underlying95 (by unfold maxLen; omega) (kV_of k hk) (pElem_of (some g))
  have hD := (ho w mb hb).isMap
  have htd := (ho w mb hb).tidy keyedV
  refine ⟨w', hrun, pgoes_of ?_ h1 (fun j hj => ?_) h2⟩
  · rw [size_put htd, (hf k hk).1, hs]
  · by_cases e : j = k
    · subst e
      rw [if_pos rfl]
      exact ⟨has_put_same hD (kV_key _) _, atKey_put_same hD (kV_key _) _ _⟩
    · rw [if_neg e, has_put_other (kV_ne hj hk e), atKey_put_other (kV_ne hj hk e)]
      exact hf j hj
set_option maxRecDepth 100000 in
theorem PMapIs.drop (h : PMapIs M sz f) (hb : w.heap[mb]? = some M) (k : Vl) (hk : k.In) (ty : TypeId) : ∃ w', (Builtin.delete_ #[mapT, 31] ty #[.map (some mb), k.val]).run Try.prog w = .ok (.tuple #[]) w' ∧ PMapGoes mb (if (f k).isSome then sz - 1 else sz) (fun j => if j = k then none else f j) w w' := by
  obtain ⟨D, hs, ho, hf⟩ := h
  obtain ⟨w', hrun, h1, h2⟩ := (ho w mb hb).drop keyedV Try.underlying95 (kV_of k hk) ty
  have htd := (ho w mb hb).tidy keyedV
  have hsz := size_del (k := kV k) htd
  rw [(hf k hk).1, hs] at hsz
  refine ⟨w', hrun, pgoes_of ?_ h1 (fun j hj => ?_) h2⟩
  · cases hk2 : (f k).isSome with
    | true => rw [hk2] at hsz; simp at hsz ⊢; omega
    | false => rw [hk2] at hsz; simp at hsz ⊢; omega
  · by_cases e : j = k
    · subst e
      rw [if_pos rfl]
      exact ⟨has_del_same, atKey_del_same _⟩
    · rw [if_neg e, has_del_other (kV_ne hj hk e), atKey_del_other (kV_ne hj hk e)]
      exact hf j hj
end
end Go.Proofs.Ythejclgihhfenaa.Td

/-
  Layer 13: places that are tied to one another: what stands in memory between one and the next.
-/
namespace Go.Proofs.Ythejclgihhfenaa.Td
open Go Go.RowKit Go.Proofs.Ythejclgihhfenaa.Pl Go.Proofs.Ythejclgihhfenaa.Tb

/-- A block of cells of a type. -/
def Shape (w : World) (b : Nat) (T : TypeId) (n : Nat) : Prop := ∃ cs, w.heap[b]? = some (.cells cs T (0, 0)) ∧ cs.size = n
section
variable {w w' : World} {b n : Nat} {T : TypeId} {a c : Addr} {v x : Value}
theorem Shape.set (h : Shape w b T n) : Shape (w.setCell a x) b T n := by
  obtain ⟨cs, h, hs⟩ := h
  by_cases e : b = a.block
  · subst e
    refine ⟨if a.spot.isSome then cs else cs.setIfInBounds a.off x, ?_, by split <;> simp [hs]⟩
    simp only [World.setCell, Array.getElem?_modify, ↓reduceIte, h, Option.map_some]
  · exact ⟨cs, by rw [heap_setCell_other _ _ _ _ e]; exact h, hs⟩
theorem Shape.free (h : Shape w b T n) (j : Nat) : w.frozen? ⟨b, j, none⟩ = false := by
  obtain ⟨cs, h, _⟩ := h
  exact free_of h j
theorem Shape.lt (h : Shape w b T n) : b < w.heap.size := by
  obtain ⟨cs, h, _⟩ := h
  exact lt_of_get h
theorem Shape.turns {G : List Nat} (h : Shape w b T n) (ht : Turns G w w') (hn : b ∉ G) : Shape w' b T n := by
  obtain ⟨cs, h, hs⟩ := h
  exact ⟨cs, by rw [ht.block b (lt_of_get h) hn]; exact h, hs⟩
theorem cell_keep (h : w.cell? c = some v) (hne : a ≠ c) : (w.setCell a x).cell? c = some v := by
  rw [World.cell?_setCell_other w a c x hne]; exact h
theorem cell_put (h : w.cell? a = some v) : (w.setCell a x).cell? a = some x := World.cell?_setCell_same w a x h
theorem cell_turns {G : List Nat} (h : w.cell? c = some v) (ht : Turns G w w') (hn : c.block ∉ G) : w'.cell? c = some v := by
  rw [World.cell?_of_block (w := w) (w' := w') (ht.block c.block (World.block_lt_of_cell? _ _ h) hn)]; exact h
end
/-- x leads to y, and y back to x. -/
def Link (w : World) (x y : Addr) : Prop := w.cell? ⟨x.block, x.off + 5, none⟩ = some (.pointer (some y)) ∧ w.cell? ⟨y.block, y.off + 4, none⟩ = some (.pointer (some x))
def Links (w : World) : List Addr → Prop
  | [] => True
  | [_] => True
  | x :: y :: r => Link w x y ∧ Links w (y :: r)
section
variable {w w' : World}
theorem links_cons {x y : Addr} {r : List Addr} : Links w (x :: y :: r) ↔ Link w x y ∧ Links w (y :: r) := Iff.rfl
theorem links_app : ∀ (P : List Addr) (x : Addr) (S : List Addr), Links w (P ++ x :: S) ↔ Links w (P ++ [x]) ∧ Links w (x :: S)
  | [], x, S => ⟨fun h => ⟨trivial, h⟩, fun h => h.2⟩
  | [p], x, S => by
    show Links w (p :: x :: S) ↔ Links w (p :: x :: []) ∧ _
    rw [links_cons, links_cons]
    exact ⟨fun h => ⟨⟨h.1, trivial⟩, h.2⟩, fun h => ⟨h.1.1, h.2⟩⟩
  | p :: q :: P, x, S => by
    show Links w (p :: q :: (P ++ x :: S)) ↔ Links w (p :: q :: (P ++ [x])) ∧ _
    rw [links_cons, links_cons]
    have := links_app (q :: P) x S
    rw [List.cons_append, List.cons_append] at this
    rw [this, and_assoc]
theorem links_turns {G : List Nat} (ht : Turns G w w') : ∀ (L : List Addr), (∀ z ∈ L, z.block ∉ G) → Links w L → Links w' L
  | [], _, _ => trivial
  | [_], _, _ => trivial
  | x :: y :: r, hn, h => ⟨⟨cell_turns h.1.1 ht (hn x (List.mem_cons_self ..)), cell_turns h.1.2 ht (hn y (List.mem_cons_of_mem _ (List.mem_cons_self ..)))⟩,
    links_turns ht (y :: r) (fun z hz => hn z (List.mem_cons_of_mem _ hz)) h.2⟩
/-- A store that is no link's. -/
theorem links_set {a : Addr} {v : Value} : ∀ (L : List Addr), (∀ z ∈ L, a ≠ ⟨z.block, z.off + 5, none⟩ ∧ a ≠ ⟨z.block, z.off + 4, none⟩) → Links w L → Links (w.setCell a v) L
  | [], _, _ => trivial
  | [_], _, _ => trivial
  | x :: y :: r, hn, h => ⟨⟨cell_keep h.1.1 (hn x (List.mem_cons_self ..)).1, cell_keep h.1.2 (hn y (List.mem_cons_of_mem _ (List.mem_cons_self ..))).2⟩,
    links_set (y :: r) (fun z hz => hn z (List.mem_cons_of_mem _ hz)) h.2⟩
theorem addr_ne5 {x z : Addr} (h : z.block ≠ x.block) : (⟨x.block, x.off + 5, none⟩ : Addr) ≠ ⟨z.block, z.off + 5, none⟩ := fun e => h (by injection e with e; exact e.symm)
theorem addr_ne4 {x z : Addr} (h : z.block ≠ x.block) : (⟨x.block, x.off + 4, none⟩ : Addr) ≠ ⟨z.block, z.off + 4, none⟩ := fun e => h (by injection e with e; exact e.symm)
theorem addr_ne54 {x z : Addr} (h : z.block = x.block → z.off = x.off) : (⟨x.block, x.off + 5, none⟩ : Addr) ≠ ⟨z.block, z.off + 4, none⟩ := fun e => by
  injection e with e1 e2
  have := h e1.symm
  omega
theorem addr_ne45 {x z : Addr} (h : z.block = x.block → z.off = x.off) : (⟨x.block, x.off + 4, none⟩ : Addr) ≠ ⟨z.block, z.off + 5, none⟩ := fun e => by
  injection e with e1 e2
  have := h e1.symm
  omega
/-- x is led elsewhere: where no other leads from x. -/
theorem links_set5 {x : Addr} {v : Value} : ∀ (L : List Addr), (∀ z ∈ L, z.block = x.block → z.off = x.off) → (∀ z ∈ L.dropLast, z.block ≠ x.block) → Links w L → Links (w.setCell ⟨x.block, x.off + 5, none⟩ v) L
  | [], _, _, _ => trivial
  | [_], _, _, _ => trivial
  | p :: q :: r, h1, h2, h => ⟨⟨cell_keep h.1.1 (addr_ne5 (h2 p (by rw [List.dropLast_cons_cons]; exact List.mem_cons_self ..))), cell_keep h.1.2 (addr_ne54 (h1 q (List.mem_cons_of_mem _ (List.mem_cons_self ..))))⟩,
    links_set5 (q :: r) (fun z hz => h1 z (List.mem_cons_of_mem _ hz)) (fun z hz => h2 z (by rw [List.dropLast_cons_cons]; exact List.mem_cons_of_mem _ hz)) h.2⟩
theorem links_set4 {x : Addr} {v : Value} : ∀ (L : List Addr), (∀ z ∈ L, z.block = x.block → z.off = x.off) → (∀ z ∈ L.tail, z.block ≠ x.block) → Links w L → Links (w.setCell ⟨x.block, x.off + 4, none⟩ v) L
  | [], _, _, _ => trivial
  | [_], _, _, _ => trivial
  | p :: q :: r, h1, h2, h => ⟨⟨cell_keep h.1.1 (addr_ne45 (h1 p (List.mem_cons_self ..))), cell_keep h.1.2 (addr_ne4 (h2 q (List.mem_cons_self ..)))⟩,
    links_set4 (q :: r) (fun z hz => h1 z (List.mem_cons_of_mem _ hz)) (fun z hz => h2 z (List.mem_cons_of_mem _ hz)) h.2⟩
end
end Go.Proofs.Ythejclgihhfenaa.Td
