/-
  Layer 5: a syntax as it lies in memory, and that any argument of the type is one.
-/
import Derived.Test.YtmddffacjkkeiaaRows
import Derived.Test.YtmddffacjkkeiaaNdMath
import Derived.Lib.SmallJoins
import Derived.SizedLaws
namespace Go.Proofs.Ytmddffacjkkeiaa.Nd
open Go.ChangeShapes Go.WideShapes Go.RowKit Go.Deep Go.Joins

/-- A slice of one-cell values. -/
def Lst (w : World) (v : Value) (vs : List Value) : Prop :=
  ∃ ao cap, v = .slice ao vs.length cap ∧ vs.length ≤ 9223372036854775807 ∧ (vs ≠ [] → ∃ g off, g < w.heap.size ∧ ao = some ⟨g, off, none⟩ ∧ ∀ (j : Nat) (h : j < vs.length), w.cell? ⟨g, off + j, none⟩ = some vs[j])
def In64 (n : Int) : Prop := -9223372036854775808 ≤ n ∧ n ≤ 9223372036854775807
/-- A node, at a cell of a block and the five behind it. -/
def NdAt (w : World) (g o : Nat) (n : Nd) : Prop :=
  ∃ vn vk, w.cell? ⟨g, o, none⟩ = some (.int .u8 n.k) ∧ w.cell? ⟨g, o + 1, none⟩ = some (.int .i64 n.n) ∧ w.cell? ⟨g, o + 2, none⟩ = some (.string n.name) ∧ w.cell? ⟨g, o + 3, none⟩ = some vn ∧ w.cell? ⟨g, o + 4, none⟩ = some vk ∧ w.cell? ⟨g, o + 5, none⟩ = some (.int .i64 n.line) ∧
    Lst w vn (n.names.map .string) ∧ Lst w vk (n.kids.map (.int .i64)) ∧ n.k < 256 ∧ In64 n.n ∧ In64 n.line ∧ (∀ c ∈ n.kids, In64 c) ∧ n.name.size ≤ 140737488351232 ∧ n.names.length * 16 ≤ 140737488351232 ∧ n.kids.length * 8 ≤ 140737488351232 ∧ ∀ s ∈ n.names, s.size ≤ 140737488351232
def NodesAt (w : World) (v : Value) (l : List Nd) : Prop :=
  ∃ ao cap, v = .slice ao l.length cap ∧ l.length ≤ 9223372036854775807 ∧ (l ≠ [] → ∃ g off, g < w.heap.size ∧ ao = some ⟨g, off, none⟩ ∧ ∀ (i : Nat) (h : i < l.length), NdAt w g (off + i * 6) l[i])
def SynAt (w : World) (v : Value) (l : List Nd) (root : Int) : Prop := ∃ v0, v = .agg #[v0, .int .i64 root] ∧ NodesAt w v0 l ∧ In64 root

theorem Lst.below {w w' : World} {v : Value} {vs : List Value} (h : Lst w v vs) (hb : Below w.heap.size w w') : Lst w' v vs := by
  obtain ⟨ao, cap, rfl, hl, hc⟩ := h
  refine ⟨ao, cap, rfl, hl, fun hne => ?_⟩
  obtain ⟨g, off, hg, rfl, hx⟩ := hc hne
  exact ⟨g, off, Nat.lt_of_lt_of_le hg hb.size, rfl, fun j h => by rw [hb.cell (p := ⟨g, off + j, none⟩) hg]; exact hx j h⟩
theorem lt_cell {w : World} {g j : Nat} {v : Value} (h : w.cell? ⟨g, j, none⟩ = some v) : g < w.heap.size := by
  rcases Nat.lt_or_ge g w.heap.size with h' | h'
  · exact h'
  · unfold World.cell? at h
    rw [Array.getElem?_eq_none h'] at h
    cases h
theorem NdAt.below {w w' : World} {g o : Nat} {n : Nd} (h : NdAt w g o n) (hb : Below w.heap.size w w') : NdAt w' g o n := by
  obtain ⟨vn, vk, c0, c1, c2, c3, c4, c5, hn, hk, hrest⟩ := h
  have hg := lt_cell c0
  refine ⟨vn, vk, ?_, ?_, ?_, ?_, ?_, ?_, hn.below hb, hk.below hb, hrest⟩
  · rw [hb.cell (p := ⟨g, _, none⟩) hg]; exact c0
  · rw [hb.cell (p := ⟨g, _, none⟩) hg]; exact c1
  · rw [hb.cell (p := ⟨g, _, none⟩) hg]; exact c2
  · rw [hb.cell (p := ⟨g, _, none⟩) hg]; exact c3
  · rw [hb.cell (p := ⟨g, _, none⟩) hg]; exact c4
  · rw [hb.cell (p := ⟨g, _, none⟩) hg]; exact c5
theorem NodesAt.below {w w' : World} {v : Value} {l : List Nd} (h : NodesAt w v l) (hb : Below w.heap.size w w') : NodesAt w' v l := by
  obtain ⟨ao, cap, rfl, hl, hc⟩ := h
  refine ⟨ao, cap, rfl, hl, fun hne => ?_⟩
  obtain ⟨g, off, hg, rfl, hx⟩ := hc hne
  exact ⟨g, off, Nat.lt_of_lt_of_le hg hb.size, rfl, fun i h => (hx i h).below hb⟩
theorem SynAt.below {w w' : World} {v : Value} {l : List Nd} {r : Int} (h : SynAt w v l r) (hb : Below w.heap.size w w') : SynAt w' v l r := by
  obtain ⟨v0, rfl, h0, hr⟩ := h
  exact ⟨v0, rfl, h0.below hb, hr⟩

section
variable {H : Type} {enc : TypeId × Value → H} {w : World} {base : Nat} {spare : Nat → Bool} {held : Bool}

theorem reach_is : reachBytes = 140737488351232 := rfl
theorem all_mem {P : Program} {e : TypeId} : ∀ {l : List (DataW H)} {d : DataW H}, d ∈ l → ∀ n ∈ d.weights P e, n ∈ DataW.weightsAll P e l
  | d' :: r, d, hd, n, hn => by
    rw [DataW.weightsAll, List.mem_append]
    rcases List.mem_cons.1 hd with rfl | h
    · exact .inl hn
    · exact .inr (all_mem h n hn)
theorem w_slice {P : Program} {t e : TypeId} {elems sp : List (DataW H)} {B : Nat} (hu : P.underlying t = some (.slice e)) (h : ∀ n ∈ DataW.weights P t (.slice elems sp), n ≤ B) : (elems.length + sp.length) * P.bytesOf e ≤ B ∧ ∀ d ∈ elems, ∀ n ∈ d.weights P e, n ≤ B := by
  simp only [DataW.weights, hu, List.mem_cons, List.mem_append] at h
  exact ⟨h _ (.inl rfl), fun d hd n hn => h n (.inr (.inl (all_mem hd n hn)))⟩
theorem w_agg {P : Program} {t : TypeId} {fs : Array Field} {parts : List (DataW H)} {B : Nat} (hu : P.underlying t = some (.struct fs)) (h : ∀ n ∈ DataW.weights P t (.agg parts), n ≤ B) {j : Nat} {f : Field} {d : DataW H} (hj : fs[j]? = some f) (hd : parts[j]? = some d) : ∀ n ∈ d.weights P f.type, n ≤ B := by
  intro n hn
  simp only [DataW.weights, hu] at h
  refine h n (DataW.weights_mem_each (j := j) (t := f.type) ?_ hd n hn)
  rw [List.getElem?_map, Array.getElem?_toList, hj]; rfl

theorem w_text {P : Program} {t : TypeId} (s : ByteArray) : s.size ∈ DataW.weights (H := H) P t (.lit (.string s.data.toList)) := by
  rw [DataW.weights]
  exact List.mem_singleton.2 rfl

theorem texts_lie {fuel : Nat} {v : Value} {x : DataW H × List MemPlace} (h : DataW.trod enc Try.prog w base spare held fuel 27 [v] = some x) (hB : ∀ n ∈ x.1.weights Try.prog 27, n ≤ reachBytes) :
    ∃ ss : List ByteArray, Lst w v (ss.map .string) ∧ ss.length * 16 ≤ 140737488351232 ∧ ∀ s ∈ ss, s.size ≤ 140737488351232 := by
  rcases open_strings Try.underlying27 Try.underlying9 (by kernel_rfl) h with ⟨hcs, _⟩ | ⟨a, len, cap, ss, hcs, _, hl, hm, hz, hx, hcell, _⟩
  · simp at hcs
    exact ⟨[], ⟨none, 0, hcs, Nat.zero_le _, fun h => absurd rfl h⟩, by decide, fun s h => by cases h⟩
  · simp at hcs
    subst hcs
    subst hx
    obtain ⟨hb1, hb2⟩ := w_slice Try.underlying27 hB
    have hby : Try.prog.bytesOf 9 = 16 := by kernel_rfl
    rw [hby, reach_is] at hb1
    have hge : len ≤ ss.length := by rw [hz]; split <;> omega
    have hL : ((ss.take len).map Value.string).length = len := by rw [List.length_map, List.length_take]; omega
    refine ⟨ss.take len, ⟨some a, cap, by rw [hL], by rw [hL]; unfold maxLen at hm; omega, fun hne => ?_⟩, ?_, fun s hs => hb2 _ (List.mem_map_of_mem hs) s.size (w_text s)⟩
    case refine_2 => simp only [strs, List.length_map] at hb1; omega
    have hpos : 0 < len := by
      rcases Nat.eq_zero_or_pos len with h | h
      · subst h; exact absurd rfl hne
      · exact h
    obtain ⟨b, off, spot⟩ := a
    have hspot : spot = none := by simpa [Addr.add] using World.cell?_spot (hcell 0 (by omega))
    subst hspot
    have h0 := hcell 0 (by omega)
    rw [add_plain] at h0
    refine ⟨b, off, lt_cell h0, rfl, fun j hj => ?_⟩
    have hj2 : j < ss.length := by rw [hL] at hj; omega
    have hc := hcell j hj2
    rw [add_plain] at hc
    rw [hc]
    simp [List.getD, List.getElem?_eq_getElem hj2]

theorem ints_lie {fuel : Nat} {v : Value} {x : DataW H × List MemPlace} (h : DataW.trod enc Try.prog w base spare held fuel 28 [v] = some x) (hB : ∀ n ∈ x.1.weights Try.prog 28, n ≤ reachBytes) :
    ∃ zs : List Int, Lst w v (zs.map (.int .i64)) ∧ (∀ c ∈ zs, In64 c) ∧ zs.length * 8 ≤ 140737488351232 := by
  rcases open_ints Try.underlying28 Try.underlying3 (by kernel_rfl) h with ⟨hcs, _⟩ | ⟨a, len, cap, ss, hcs, _, hl, hm, hz, hx, hcell, hwf⟩
  · simp at hcs
    exact ⟨[], ⟨none, 0, hcs, Nat.zero_le _, fun h => absurd rfl h⟩, (fun c h => by cases h), by decide⟩
  · simp at hcs
    subst hcs
    subst hx
    obtain ⟨hb1, _⟩ := w_slice Try.underlying28 hB
    have hby : Try.prog.bytesOf 3 = 8 := by kernel_rfl
    rw [hby, reach_is] at hb1
    have hge : len ≤ ss.length := by rw [hz]; split <;> omega
    have hL : ((ss.take len).map (Value.int .i64)).length = len := by rw [List.length_map, List.length_take]; omega
    refine ⟨ss.take len, ⟨some a, cap, by rw [hL], by rw [hL]; unfold maxLen at hm; omega, fun hne => ?_⟩, fun c hc => bounds_i64 (hwf c (List.mem_of_mem_take hc)), ?_⟩
    case refine_2 => simp only [lits, List.length_map] at hb1; omega
    have hpos : 0 < len := by
      rcases Nat.eq_zero_or_pos len with h | h
      · subst h; exact absurd rfl hne
      · exact h
    obtain ⟨b, off, spot⟩ := a
    have hspot : spot = none := by simpa [Addr.add] using World.cell?_spot (hcell 0 (by omega))
    subst hspot
    have h0 := hcell 0 (by omega)
    rw [add_plain] at h0
    refine ⟨b, off, lt_cell h0, rfl, fun j hj => ?_⟩
    have hj2 : j < ss.length := by rw [hL] at hj; omega
    have hc := hcell j hj2
    rw [add_plain] at hc
    rw [hc]
    simp [List.getD, List.getElem?_eq_getElem hj2]

/-- A struct's row of one-cell fields: each field's cell with its reading. -/
theorem fields_lie {P : Program} {e : TypeId} {fs : Array Field} {fuel : Nat} {b o : Nat} {cs : List Value} {x : DataW H × List MemPlace} (he : P.underlying e = some (.struct fs)) (hone : oneCellFields P fs = true) (hC : P.cellsOf e = fs.size)
    (hc : w.cells? base ⟨b, o, none⟩ (P.cellsOf e) = some cs) (h : DataW.trod enc P w base spare held fuel e cs = some x) {B : Nat} (hB : ∀ n ∈ x.1.weights P e, n ≤ B) :
    ∃ n, ∀ (j : Nat) (f : Field), fs[j]? = some f → ∃ v y, w.cell? ⟨b, o + j, none⟩ = some v ∧ DataW.trod enc P w base spare held n f.type [v] = some y ∧ ∀ n ∈ y.1.weights P f.type, n ≤ B := by
  obtain ⟨xs, n, _, rfl, hlen, hxl, hf⟩ := DataW.trod_struct he h
  obtain ⟨_, _, hat⟩ := World.cells?_some hc
  refine ⟨n, fun j f hj => ?_⟩
  obtain ⟨ho, hk⟩ := hone_of hone j f hj
  have hjl : j < fs.size := (Array.getElem?_eq_some_iff.1 hj).1
  have hjc : j < cs.length := by omega
  have h1 := hf j f hj
  rw [ho, hk, List.drop_eq_getElem_cons hjc] at h1
  have hcell := hat j (by omega)
  rw [add_plain, List.getElem?_eq_getElem hjc] at hcell
  exact ⟨_, xs[j]'(by omega), hcell, h1.trans (List.getElem?_eq_getElem (by omega)), w_agg he hB hj (by rw [List.getElem?_map, List.getElem?_eq_getElem (by omega)]; rfl)⟩

theorem node_lies {fuel : Nat} {b o : Nat} {cs : List Value} {x : DataW H × List MemPlace} (hc : w.cells? base ⟨b, o, none⟩ (Try.prog.cellsOf 30) = some cs) (h : DataW.trod enc Try.prog w base spare held fuel 30 cs = some x) (hB : ∀ n ∈ x.1.weights Try.prog 30, n ≤ reachBytes) : ∃ n, NdAt w b o n := by
  obtain ⟨n, H⟩ := fields_lie Try.underlying30 (by kernel_rfl) (by kernel_rfl) hc h hB
  obtain ⟨v0, y0, c0, t0, b0⟩ := H 0 _ rfl
  obtain ⟨v1, y1, c1, t1, b1⟩ := H 1 _ rfl
  obtain ⟨v2, y2, c2, t2, b2⟩ := H 2 _ rfl
  obtain ⟨v3, y3, c3, t3, b3⟩ := H 3 _ rfl
  obtain ⟨v4, y4, c4, t4, b4⟩ := H 4 _ rfl
  obtain ⟨v5, y5, c5, t5, b5⟩ := H 5 _ rfl
  obtain ⟨k, e0, _, w0⟩ := DataW.trod_int Try.underlying26 t0
  obtain ⟨i, e1, _, w1⟩ := DataW.trod_int Try.underlying2 t1
  obtain ⟨s, e2, x2, w2⟩ := DataW.trod_string Try.underlying9 t2
  obtain ⟨ss, hs, hsl, hss⟩ := texts_lie t3 b3
  obtain ⟨zs, hz, hzi, hzl⟩ := ints_lie t4 b4
  obtain ⟨ln, e5, _, w5⟩ := DataW.trod_int Try.underlying3 t5
  obtain rfl := (List.cons.inj e0).1
  obtain rfl := (List.cons.inj e1).1
  obtain rfl := (List.cons.inj e2).1
  obtain rfl := (List.cons.inj e5).1
  subst x2
  have hsb : s.size ≤ reachBytes := b2 s.size (w_text s)
  have hk := bounds_u8 w0
  have hkk : ((k.toNat : Nat) : Int) = k := Int.toNat_of_nonneg hk.1
  exact ⟨⟨k.toNat, i, s, ss, zs, ln⟩, v3, v4, by rw [hkk]; exact c0, c1, c2, c3, c4, c5, hs, hz, by show k.toNat < 256; omega, bounds_i64 w1, bounds_i64 w5, hzi, hsb, hsl, hzl, hss⟩

theorem nodes_lie {fuel : Nat} {v : Value} {x : DataW H × List MemPlace} (h : DataW.trod enc Try.prog w base spare held fuel 22 [v] = some x) (hB : ∀ n ∈ x.1.weights Try.prog 22, n ≤ reachBytes) : ∃ l : List Nd, NodesAt w v l := by
  have hC : Try.prog.cellsOf 30 = 6 := by kernel_rfl
  rcases open_slice Try.underlying22 h with ⟨hcs, _⟩ | ⟨a, len, cap, m, n, D, Pl, hcs, _, hl, hm, hmm, hx, hi⟩
  · simp at hcs
    exact ⟨[], none, 0, hcs, Nat.zero_le _, fun h => absurd rfl h⟩
  · simp at hcs
    subst hcs
    subst hx
    obtain ⟨_, hb2⟩ := w_slice Try.underlying22 hB
    have hge : len ≤ m := by rw [hmm]; split <;> omega
    rcases Nat.eq_zero_or_pos len with h0 | hpos
    · subst h0
      exact ⟨[], some a, cap, rfl, Nat.zero_le _, fun h => absurd rfl h⟩
    obtain ⟨b, off, spot⟩ := a
    have hspot : spot = none := by
      obtain ⟨cs', hc', _⟩ := hi 0 (by omega)
      obtain ⟨_, hcl, hat⟩ := World.cells?_some hc'
      have := hat 0 (by omega)
      rw [List.getElem?_eq_getElem (by omega)] at this
      simpa [Addr.add] using World.cell?_spot this
    subst hspot
    have each : ∀ i, ∃ nd, i < len → NdAt w b (off + i * 6) nd := by
      intro i
      by_cases h : i < len
      · obtain ⟨cs', hc', ht'⟩ := hi i (by omega)
        rw [add_plain, show i * Try.prog.cellsOf 30 = i * 6 from by rw [hC]] at hc'
        obtain ⟨nd, hnd⟩ := node_lies hc' ht' (hb2 _ (List.mem_map_of_mem (List.mem_range.2 h)))
        exact ⟨nd, fun _ => hnd⟩
      · exact ⟨default, fun h' => absurd h' h⟩
    obtain ⟨f, hf⟩ := Classical.skolem.1 each
    have hL : ((List.range len).map f).length = len := by rw [List.length_map, List.length_range]
    refine ⟨(List.range len).map f, some ⟨b, off, none⟩, cap, by rw [hL], by rw [hL]; unfold maxLen at hm; omega, fun _ => ⟨b, off, ?_, rfl, fun i h => ?_⟩⟩
    · obtain ⟨_, _, c0, _⟩ := hf 0 hpos
      exact lt_cell c0
    · rw [hL] at h
      simpa using hf i h

theorem syn_lies {r : Reach} {b0 : Nat} {v : Value} {d : DataW H} {p : List MemPlace} (hv : Value.okWide Try.prog w r b0 24 v) (h : DataW.Trod enc Try.prog w base spare held 24 v d p) (hB : ∀ n ∈ d.weights Try.prog 24, n ≤ reachBytes) : ∃ l root, SynAt w v l root := by
  obtain ⟨v0, v1, y0, y1, n, rfl, rfl, _, t0, t1⟩ := open_agg2 Try.underlying24 (by kernel_rfl) (by kernel_rfl) hv h
  obtain ⟨l, hl⟩ := nodes_lie t0 (w_agg Try.underlying24 hB (j := 0) rfl rfl)
  obtain ⟨i, e1, _, w1⟩ := DataW.trod_int Try.underlying3 t1
  obtain rfl := (List.cons.inj e1).1
  exact ⟨l, i, v0, rfl, hl, bounds_i64 w1⟩
end

end Go.Proofs.Ytmddffacjkkeiaa.Nd
