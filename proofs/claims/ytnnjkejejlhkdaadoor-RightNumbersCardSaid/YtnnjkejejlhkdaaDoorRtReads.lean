/-
  Layer 9: that any argument of a program's type is a program in memory.
-/
import Derived.Test.YtnnjkejejlhkdaaDoorRtMem
import Derived.Lib.SmallJoins
import Derived.SizedLaws
import Derived.ChangeArms
namespace Go.Proofs.YtnnjkejejlhkdaaDoor.Rt
open Go.ChangeShapes Go.WideShapes Go.RowKit Go.Deep Go.Joins

section
variable {H : Type} {enc : TypeId × Value → H} {w : World} {base : Nat} {spare : Nat → Bool} {held : Bool}

/-- What an item of a list must give. -/
def Each {α : Type} (enc : TypeId × Value → H) (w : World) (base : Nat) (spare : Nat → Bool) (held : Bool) (e : TypeId) (C : Nat) (V : Array Value → α → Prop) : Prop :=
  ∀ fuel b o cs x, w.cells? base ⟨b, o, none⟩ (Tryd.prog.cellsOf e) = some cs → DataW.trod enc Tryd.prog w base spare held fuel e cs = some x → ∃ (a : α) (cv : Array Value), V cv a ∧ ∀ (j : Nat), j < C → ∃ h : j < cv.size, w.cell? ⟨b, o + j, none⟩ = some cv[j]
theorem rows_lie {α : Type} [Inhabited α] {ts e : TypeId} {C : Nat} {V : Array Value → α → Prop} (hu : Tryd.prog.underlying ts = some (.slice e)) (hC : Tryd.prog.cellsOf e = C) (h0C : 0 < C) (he : Each enc w base spare held e C V) {fuel : Nat} {v : Value} {x : DataW H × List MemPlace} (h : DataW.trod enc Tryd.prog w base spare held fuel ts [v] = some x) : ∃ l : List α, RowsB C V w.heap.size w v l := by
  rcases open_slice hu h with ⟨hcs, _⟩ | ⟨a, len, cap, m, n, D, Pl, hcs, _, hl, hm, hmm, hx, hi⟩
  · simp at hcs
    exact ⟨[], none, 0, hcs, Nat.zero_le _, fun h => absurd rfl h⟩
  · simp at hcs
    subst hcs
    have hge : len ≤ m := by rw [hmm]; split <;> omega
    rcases Nat.eq_zero_or_pos len with h0 | hpos
    · subst h0
      exact ⟨[], some a, cap, rfl, Nat.zero_le _, fun h => absurd rfl h⟩
    obtain ⟨b, off, spot⟩ := a
    have hspot : spot = none := by
      obtain ⟨cs', hc', _⟩ := hi 0 (by omega)
      obtain ⟨_, hcl, hat⟩ := World.cells?_some hc'
      have := hat 0 (by omega)
      rw [List.getElem?_eq_getElem (by omega)] at this
      simpa [Addr.add] using World.cell?_spot this
    subst hspot
    have each : ∀ i, ∃ (q : α × Array Value), i < len → V q.2 q.1 ∧ ∀ (j : Nat), j < C → ∃ h : j < q.2.size, w.cell? ⟨b, off + i * C + j, none⟩ = some q.2[j] := by
      intro i
      by_cases h : i < len
      · obtain ⟨cs', hc', ht'⟩ := hi i (by omega)
        rw [add_plain, show i * Tryd.prog.cellsOf e = i * C from by rw [hC]] at hc'
        obtain ⟨a, cv, h1, h2⟩ := he _ _ _ _ _ hc' ht'
        exact ⟨(a, cv), fun _ => ⟨h1, h2⟩⟩
      · exact ⟨default, fun h' => absurd h' h⟩
    obtain ⟨f, hf⟩ := Classical.skolem.1 each
    have hL : ((List.range len).map fun i => (f i).1).length = len := by rw [List.length_map, List.length_range]
    refine ⟨(List.range len).map fun i => (f i).1, some ⟨b, off, none⟩, cap, by rw [hL], by rw [hL]; unfold maxLen at hm; unfold Len; omega, fun _ => ⟨b, off, ?_, rfl, fun i h => ?_⟩⟩
    · obtain ⟨hs, c0⟩ := (hf 0 hpos).2 0 h0C
      exact World.block_lt_of_cell? w _ c0
    · rw [hL] at h
      exact ⟨(f i).2, by simpa using (hf i h).1, fun j hj => (hf i h).2 j hj⟩
theorem lst_lie {α : Type} {en : α → Value} {Q : α → Prop} {B : Nat} {v : Value} {l : List α} (h : RowsB 1 (fun cs a => cs = #[en a] ∧ Q a) B w v l) : LstB B w v (l.map en) ∧ ∀ a ∈ l, Q a := by
  obtain ⟨ao, cap, rfl, hl, hc⟩ := h
  constructor
  · refine ⟨ao, cap, by rw [List.length_map], by rw [List.length_map]; exact hl, fun hne => ?_⟩
    obtain ⟨g, off, hg, rfl, hx⟩ := hc (fun h => hne (by rw [h]; rfl))
    refine ⟨g, off, hg, rfl, fun j hj => ?_⟩
    have hj2 : j < l.length := by simpa using hj
    obtain ⟨cs, ⟨rfl, _⟩, h2⟩ := hx j hj2
    obtain ⟨_, h3⟩ := h2 0 (by decide)
    rw [List.getElem_map]
    simpa using h3
  · intro a ha
    obtain ⟨i, hi, rfl⟩ := List.getElem_of_mem ha
    obtain ⟨g, off, _, _, hx⟩ := hc (by intro h; subst h; exact absurd hi (Nat.not_lt_zero _))
    obtain ⟨cs, ⟨_, hq⟩, _⟩ := hx i hi
    exact hq
theorem one_cell {b o : Nat} {e : TypeId} {cs : List Value} {u : Value} (hC : Tryd.prog.cellsOf e = 1) (hc : w.cells? base ⟨b, o, none⟩ (Tryd.prog.cellsOf e) = some cs) (he : cs = [u]) : ∀ (j : Nat), j < 1 → ∃ h : j < #[u].size, w.cell? ⟨b, o + j, none⟩ = some #[u][j] := by
  obtain ⟨_, _, hat⟩ := World.cells?_some hc
  intro j hj
  obtain rfl : j = 0 := by omega
  refine ⟨by simp, ?_⟩
  have := hat 0 (by rw [hC]; decide)
  rw [add_plain, he] at this
  exact this
theorem int_each : Each enc w base spare held 3 1 (fun cs (z : Int) => cs = #[.int .i64 z] ∧ In64 z) := fun fuel b o cs x hc ht => by
  obtain ⟨z, e0, _, wf⟩ := DataW.trod_int Tryd.underlying3 ht
  exact ⟨z, _, ⟨rfl, bounds_i64 wf⟩, one_cell (by kernel_rfl) hc e0⟩
theorem bool_each : Each enc w base spare held 4 1 (fun cs (z : Bool) => cs = #[.bool z] ∧ True) := fun fuel b o cs x hc ht => by
  obtain ⟨z, e0, _⟩ := DataW.trod_bool Tryd.underlying4 ht
  exact ⟨z, _, ⟨rfl, trivial⟩, one_cell (by kernel_rfl) hc e0⟩
theorem text_each : Each enc w base spare held 9 1 (fun cs (z : ByteArray) => cs = #[.string z] ∧ True) := fun fuel b o cs x hc ht => by
  obtain ⟨z, e0, _⟩ := DataW.trod_string Tryd.underlying9 ht
  exact ⟨z, _, ⟨rfl, trivial⟩, one_cell (by kernel_rfl) hc e0⟩
theorem ints_lie {fuel : Nat} {v : Value} {x : DataW H × List MemPlace} (h : DataW.trod enc Tryd.prog w base spare held fuel 39 [v] = some x) : ∃ l : List Int, LstB w.heap.size w v (ints l) ∧ ∀ c ∈ l, In64 c := by
  obtain ⟨l, hl⟩ := rows_lie Tryd.underlying39 (by kernel_rfl) (by decide) int_each h
  exact ⟨l, lst_lie hl⟩
theorem bools_lie {fuel : Nat} {v : Value} {x : DataW H × List MemPlace} (h : DataW.trod enc Tryd.prog w base spare held fuel 30 [v] = some x) : ∃ l : List Bool, LstB w.heap.size w v (bools l) := by
  obtain ⟨l, hl⟩ := rows_lie Tryd.underlying30 (by kernel_rfl) (by decide) bool_each h
  exact ⟨l, (lst_lie hl).1⟩
theorem texts_lie {fuel : Nat} {v : Value} {x : DataW H × List MemPlace} (h : DataW.trod enc Tryd.prog w base spare held fuel 23 [v] = some x) : ∃ l : List ByteArray, LstB w.heap.size w v (texts l) := by
  obtain ⟨l, hl⟩ := rows_lie Tryd.underlying23 (by kernel_rfl) (by decide) text_each h
  exact ⟨l, (lst_lie hl).1⟩

/-- A struct's row of one-cell fields: each field's cell with its reading. -/
theorem fields_lie {P : Program} {e : TypeId} {fs : Array Field} {fuel : Nat} {b o : Nat} {cs : List Value} {x : DataW H × List MemPlace} (he : P.underlying e = some (.struct fs)) (hone : oneCellFields P fs = true) (hC : P.cellsOf e = fs.size)
    (hc : w.cells? base ⟨b, o, none⟩ (P.cellsOf e) = some cs) (h : DataW.trod enc P w base spare held fuel e cs = some x) :
    ∃ n, ∀ (j : Nat) (f : Field), fs[j]? = some f → ∃ v y, w.cell? ⟨b, o + j, none⟩ = some v ∧ DataW.trod enc P w base spare held n f.type [v] = some y := by
  obtain ⟨xs, n, _, rfl, hlen, hxl, hf⟩ := DataW.trod_struct he h
  obtain ⟨_, _, hat⟩ := World.cells?_some hc
  refine ⟨n, fun j f hj => ?_⟩
  obtain ⟨ho, hk⟩ := hone_of hone j f hj
  have hjl : j < fs.size := (Array.getElem?_eq_some_iff.1 hj).1
  have hjc : j < cs.length := by omega
  have h1 := hf j f hj
  rw [ho, hk, List.drop_eq_getElem_cons hjc] at h1
  have hcell := hat j (by omega)
  rw [add_plain, List.getElem?_eq_getElem hjc] at hcell
  exact ⟨_, xs[j]'(by omega), hcell, h1.trans (List.getElem?_eq_getElem (by omega))⟩

theorem ex_each : Each enc w base spare held 41 3 (ExC w.heap.size w) := fun fuel b o cs x hc ht => by
  obtain ⟨n, Hf⟩ := fields_lie Tryd.underlying41 (by kernel_rfl) (by kernel_rfl) hc ht
  obtain ⟨v0, y0, c0, t0⟩ := Hf 0 _ rfl
  obtain ⟨v1, y1, c1, t1⟩ := Hf 1 _ rfl
  obtain ⟨v2, y2, c2, t2⟩ := Hf 2 _ rfl
  obtain ⟨k, e0, _, w0⟩ := DataW.trod_int Tryd.underlying38 t0
  obtain ⟨i, e1, _, w1⟩ := DataW.trod_int Tryd.underlying2 t1
  obtain ⟨zs, hz, hzi⟩ := ints_lie t2
  obtain rfl := (List.cons.inj e0).1
  obtain rfl := (List.cons.inj e1).1
  have hk := bounds_u8 w0
  have hkk : ((k.toNat : Nat) : Int) = k := Int.toNat_of_nonneg hk.1
  refine ⟨⟨k.toNat, i, zs⟩, _, ⟨v2, rfl, hz, by show k.toNat < 256; omega, bounds_i64 w1, hzi⟩, fun j hj => ?_⟩
  match j, hj with
  | 0, _ => exact ⟨by simp, by show _ = some (Value.int .u8 ((k.toNat : Nat) : Int)); rw [hkk]; exact c0⟩
  | 1, _ => exact ⟨by simp, c1⟩
  | 2, _ => exact ⟨by simp, c2⟩
theorem st_each : Each enc w base spare held 44 7 (StC w.heap.size w) := fun fuel b o cs x hc ht => by
  obtain ⟨n, Hf⟩ := fields_lie Tryd.underlying44 (by kernel_rfl) (by kernel_rfl) hc ht
  obtain ⟨v0, y0, c0, t0⟩ := Hf 0 _ rfl
  obtain ⟨v1, y1, c1, t1⟩ := Hf 1 _ rfl
  obtain ⟨v2, y2, c2, t2⟩ := Hf 2 _ rfl
  obtain ⟨v3, y3, c3, t3⟩ := Hf 3 _ rfl
  obtain ⟨v4, y4, c4, t4⟩ := Hf 4 _ rfl
  obtain ⟨v5, y5, c5, t5⟩ := Hf 5 _ rfl
  obtain ⟨v6, y6, c6, t6⟩ := Hf 6 _ rfl
  obtain ⟨k, e0, _, w0⟩ := DataW.trod_int Tryd.underlying42 t0
  obtain ⟨s1, h1, i1⟩ := ints_lie t1
  obtain ⟨s2, h2, i2⟩ := ints_lie t2
  obtain ⟨s3, h3, i3⟩ := ints_lie t3
  obtain ⟨z4, e4, _, w4⟩ := DataW.trod_int Tryd.underlying3 t4
  obtain ⟨z5, e5, _, w5⟩ := DataW.trod_int Tryd.underlying3 t5
  obtain ⟨z6, e6, _, w6⟩ := DataW.trod_int Tryd.underlying3 t6
  obtain rfl := (List.cons.inj e0).1
  obtain rfl := (List.cons.inj e4).1
  obtain rfl := (List.cons.inj e5).1
  obtain rfl := (List.cons.inj e6).1
  have hk := bounds_u8 w0
  have hkk : ((k.toNat : Nat) : Int) = k := Int.toNat_of_nonneg hk.1
  refine ⟨⟨k.toNat, s1, s2, s3, z4, z5, z6⟩, _, ⟨v1, v2, v3, rfl, h1, h2, h3, by show k.toNat < 256; omega, i1, i2, i3, bounds_i64 w4, bounds_i64 w5, bounds_i64 w6⟩, fun j hj => ?_⟩
  match j, hj with
  | 0, _ => exact ⟨by simp, by show _ = some (Value.int .u8 ((k.toNat : Nat) : Int)); rw [hkk]; exact c0⟩
  | 1, _ => exact ⟨by simp, c1⟩
  | 2, _ => exact ⟨by simp, c2⟩
  | 3, _ => exact ⟨by simp, c3⟩
  | 4, _ => exact ⟨by simp, c4⟩
  | 5, _ => exact ⟨by simp, c5⟩
  | 6, _ => exact ⟨by simp, c6⟩
theorem up_each : Each enc w base spare held 37 2 UpC := fun fuel b o cs x hc ht => by
  obtain ⟨n, Hf⟩ := fields_lie Tryd.underlying37 (by kernel_rfl) (by kernel_rfl) hc ht
  obtain ⟨v0, y0, c0, t0⟩ := Hf 0 _ rfl
  obtain ⟨v1, y1, c1, t1⟩ := Hf 1 _ rfl
  obtain ⟨z0, e0, _⟩ := DataW.trod_bool Tryd.underlying4 t0
  obtain ⟨z1, e1, _, w1⟩ := DataW.trod_int Tryd.underlying3 t1
  obtain rfl := (List.cons.inj e0).1
  obtain rfl := (List.cons.inj e1).1
  refine ⟨⟨z0, z1⟩, _, ⟨rfl, bounds_i64 w1⟩, fun j hj => ?_⟩
  match j, hj with
  | 0, _ => exact ⟨by simp, c0⟩
  | 1, _ => exact ⟨by simp, c1⟩
theorem pr_each : Each enc w base spare held 35 8 (PrC w.heap.size w) := fun fuel b o cs x hc ht => by
  obtain ⟨n, Hf⟩ := fields_lie Tryd.underlying35 (by kernel_rfl) (by kernel_rfl) hc ht
  obtain ⟨v0, y0, c0, t0⟩ := Hf 0 _ rfl
  obtain ⟨v1, y1, c1, t1⟩ := Hf 1 _ rfl
  obtain ⟨v2, y2, c2, t2⟩ := Hf 2 _ rfl
  obtain ⟨v3, y3, c3, t3⟩ := Hf 3 _ rfl
  obtain ⟨v4, y4, c4, t4⟩ := Hf 4 _ rfl
  obtain ⟨v5, y5, c5, t5⟩ := Hf 5 _ rfl
  obtain ⟨v6, y6, c6, t6⟩ := Hf 6 _ rfl
  obtain ⟨v7, y7, c7, t7⟩ := Hf 7 _ rfl
  obtain ⟨z0, e0, _, w0⟩ := DataW.trod_int Tryd.underlying3 t0
  obtain ⟨z1, e1, _⟩ := DataW.trod_bool Tryd.underlying4 t1
  obtain ⟨z2, e2, _, w2⟩ := DataW.trod_int Tryd.underlying3 t2
  obtain ⟨l3, h3⟩ := bools_lie t3
  obtain ⟨l4, h4⟩ := rows_lie (α := Up) Tryd.underlying31 (by kernel_rfl) (by decide) up_each t4
  obtain ⟨l5, h5⟩ := rows_lie (α := St) Tryd.underlying32 (by kernel_rfl) (by decide) st_each t5
  obtain ⟨l6, h6⟩ := rows_lie (α := Ex) Tryd.underlying33 (by kernel_rfl) (by decide) ex_each t6
  obtain ⟨z7, e7, _, w7⟩ := DataW.trod_int Tryd.underlying3 t7
  obtain rfl := (List.cons.inj e0).1
  obtain rfl := (List.cons.inj e1).1
  obtain rfl := (List.cons.inj e2).1
  obtain rfl := (List.cons.inj e7).1
  refine ⟨⟨z0, z1, z2, l3, l4, l5, l6, z7⟩, _, ⟨v3, v4, v5, v6, rfl, h3, h4, h5, h6, bounds_i64 w0, bounds_i64 w2, bounds_i64 w7⟩, fun j hj => ?_⟩
  match j, hj with
  | 0, _ => exact ⟨by simp, c0⟩
  | 1, _ => exact ⟨by simp, c1⟩
  | 2, _ => exact ⟨by simp, c2⟩
  | 3, _ => exact ⟨by simp, c3⟩
  | 4, _ => exact ⟨by simp, c4⟩
  | 5, _ => exact ⟨by simp, c5⟩
  | 6, _ => exact ⟨by simp, c6⟩
  | 7, _ => exact ⟨by simp, c7⟩

set_option maxRecDepth 100000 in
theorem pg_lies {r : Reach} {b0 : Nat} {v : Value} {d : DataW H} {p : List MemPlace} (hv : Value.okWide Tryd.prog w r b0 26 v) (h : DataW.Trod enc Tryd.prog w base spare held 26 v d p) : ∃ q : Pg, PgV w.heap.size w v q := by
  obtain ⟨v0, v1, y0, y1, n, rfl, rfl, _, t0, t1⟩ := open_agg2 Tryd.underlying26 (by kernel_rfl) (by kernel_rfl) hv h
  obtain ⟨l0, h0⟩ := texts_lie t0
  obtain ⟨l1, h1⟩ := rows_lie (α := Pr) Tryd.underlying24 (by kernel_rfl) (by decide) pr_each t1
  exact ⟨⟨l0, l1⟩, v0, v1, rfl, h0, h1⟩
end

end Go.Proofs.YtnnjkejejlhkdaaDoor.Rt
