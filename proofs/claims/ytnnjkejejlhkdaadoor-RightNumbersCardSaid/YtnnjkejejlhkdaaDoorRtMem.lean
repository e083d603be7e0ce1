/-
  Layer 9: a program as it lies in memory, below a block.
-/
import Derived.Test.YtnnjkejejlhkdaaDoorRows
import Derived.Test.YtnnjkejejlhkdaaDoorRtMath
import Derived.Below
import Derived.Lib.Hide
import Derived.WalkKit
namespace Go.Proofs.YtnnjkejejlhkdaaDoor.Rt
open Go Go.RowKit

def In64 (n : Int) : Prop := -9223372036854775808 ≤ n ∧ n ≤ 9223372036854775807
def Len (n : Nat) : Prop := n ≤ 9223372036854775807
/-- A list whose items take one cell each. -/
def LstB (B : Nat) (w : World) (v : Value) (vs : List Value) : Prop :=
  ∃ ao cap, v = .slice ao vs.length cap ∧ Len vs.length ∧ (vs ≠ [] → ∃ g off, g < B ∧ ao = some ⟨g, off, none⟩ ∧ ∀ (j : Nat) (h : j < vs.length), w.cell? ⟨g, off + j, none⟩ = some vs[j])
/-- A list whose items take C cells each. -/
def RowsB {α : Type} (C : Nat) (V : Array Value → α → Prop) (B : Nat) (w : World) (v : Value) (l : List α) : Prop :=
  ∃ ao cap, v = .slice ao l.length cap ∧ Len l.length ∧ (l ≠ [] → ∃ g off, g < B ∧ ao = some ⟨g, off, none⟩ ∧ ∀ (i : Nat) (h : i < l.length), ∃ cs : Array Value, V cs l[i] ∧ ∀ (j : Nat) (hj : j < C), ∃ h : j < cs.size, w.cell? ⟨g, off + i * C + j, none⟩ = some cs[j])
def ints (l : List Int) : List Value := l.map (.int .i64)
def bools (l : List Bool) : List Value := l.map .bool
def texts (l : List ByteArray) : List Value := l.map .string
theorem ints_len (l : List Int) : (ints l).length = l.length := List.length_map _
theorem bools_len (l : List Bool) : (bools l).length = l.length := List.length_map _
theorem texts_len (l : List ByteArray) : (texts l).length = l.length := List.length_map _
def ExC (B : Nat) (w : World) (cs : Array Value) (e : Ex) : Prop :=
  ∃ vk, cs = #[.int .u8 e.k, .int .i64 e.n, vk] ∧ LstB B w vk (ints e.kids) ∧ e.k < 256 ∧ In64 e.n ∧ ∀ c ∈ e.kids, In64 c
def StC (B : Nat) (w : World) (cs : Array Value) (s : St) : Prop :=
  ∃ vs vt ve, cs = #[.int .u8 s.k, vs, vt, ve, .int .i64 s.next, .int .i64 s.els, .int .i64 s.line] ∧ LstB B w vs (ints s.slots) ∧ LstB B w vt (ints s.targets) ∧ LstB B w ve (ints s.exprs) ∧
    s.k < 256 ∧ (∀ c ∈ s.slots, In64 c) ∧ (∀ c ∈ s.targets, In64 c) ∧ (∀ c ∈ s.exprs, In64 c) ∧ In64 s.next ∧ In64 s.els ∧ In64 s.line
def UpC (cs : Array Value) (u : Up) : Prop := cs = #[.bool u.loc, .int .i64 u.pos] ∧ In64 u.pos
def PrC (B : Nat) (w : World) (cs : Array Value) (f : Pr) : Prop :=
  ∃ vb vu vs ve, cs = #[.int .i64 f.params, .bool f.more, .int .i64 f.slots, vb, vu, vs, ve, .int .i64 f.start] ∧ LstB B w vb (bools f.boxed) ∧ RowsB 2 UpC B w vu f.ups ∧ RowsB 7 (StC B w) B w vs f.stmts ∧ RowsB 3 (ExC B w) B w ve f.exprs ∧
    In64 f.params ∧ In64 f.slots ∧ In64 f.start
def PgV (B : Nat) (w : World) (v : Value) (p : Pg) : Prop :=
  ∃ vs vp, v = .agg #[vs, vp] ∧ LstB B w vs (texts p.strs) ∧ RowsB 8 (PrC B w) B w vp p.protos

section
variable {B : Nat} {w w' : World} {v : Value} {cs : Array Value}
theorem LstB.below {vs : List Value} (h : LstB B w v vs) (hb : Below B w w') : LstB B w' v vs := by
  obtain ⟨ao, cap, rfl, hl, hc⟩ := h
  refine ⟨ao, cap, rfl, hl, fun hne => ?_⟩
  obtain ⟨g, off, hg, rfl, hx⟩ := hc hne
  exact ⟨g, off, hg, rfl, fun j h => by rw [hb.cell (p := ⟨g, off + j, none⟩) hg]; exact hx j h⟩
theorem RowsB.below {α : Type} {C : Nat} {V V' : Array Value → α → Prop} {l : List α} (h : RowsB C V B w v l) (hb : Below B w w') (hV : ∀ cs x, V cs x → V' cs x) : RowsB C V' B w' v l := by
  obtain ⟨ao, cap, rfl, hl, hc⟩ := h
  refine ⟨ao, cap, rfl, hl, fun hne => ?_⟩
  obtain ⟨g, off, hg, rfl, hx⟩ := hc hne
  refine ⟨g, off, hg, rfl, fun i h => ?_⟩
  obtain ⟨cs, h1, h2⟩ := hx i h
  refine ⟨cs, hV _ _ h1, fun j hj => ?_⟩
  obtain ⟨h3, h4⟩ := h2 j hj
  exact ⟨h3, by rw [hb.cell (p := ⟨g, off + i * C + j, none⟩) hg]; exact h4⟩
theorem ExC.below {e : Ex} (h : ExC B w cs e) (hb : Below B w w') : ExC B w' cs e := by
  obtain ⟨vk, rfl, h1, r⟩ := h
  exact ⟨vk, rfl, h1.below hb, r⟩
theorem StC.below {s : St} (h : StC B w cs s) (hb : Below B w w') : StC B w' cs s := by
  obtain ⟨vs, vt, ve, rfl, h1, h2, h3, r⟩ := h
  exact ⟨vs, vt, ve, rfl, h1.below hb, h2.below hb, h3.below hb, r⟩
theorem PrC.below {f : Pr} (h : PrC B w cs f) (hb : Below B w w') : PrC B w' cs f := by
  obtain ⟨vb, vu, vs, ve, rfl, h1, h2, h3, h4, r⟩ := h
  exact ⟨vb, vu, vs, ve, rfl, h1.below hb, h2.below hb (fun _ _ h => h), h3.below hb (fun _ _ h => h.below hb), h4.below hb (fun _ _ h => h.below hb), r⟩
theorem PgV.below {p : Pg} (h : PgV B w v p) (hb : Below B w w') : PgV B w' v p := by
  obtain ⟨vs, vp, rfl, h1, h2⟩ := h
  exact ⟨vs, vp, rfl, h1.below hb, h2.below hb (fun _ _ h => h.below hb)⟩
theorem LstB.mono {B' : Nat} {vs : List Value} (h : LstB B w v vs) (hb : B ≤ B') : LstB B' w v vs := by
  obtain ⟨ao, cap, rfl, hl, hc⟩ := h
  refine ⟨ao, cap, rfl, hl, fun hne => ?_⟩
  obtain ⟨g, off, hg, r⟩ := hc hne
  exact ⟨g, off, Nat.lt_of_lt_of_le hg hb, r⟩
theorem RowsB.mono {α : Type} {C B' : Nat} {V V' : Array Value → α → Prop} {l : List α} (h : RowsB C V B w v l) (hb : B ≤ B') (hV : ∀ cs x, V cs x → V' cs x) : RowsB C V' B' w v l := by
  obtain ⟨ao, cap, rfl, hl, hc⟩ := h
  refine ⟨ao, cap, rfl, hl, fun hne => ?_⟩
  obtain ⟨g, off, hg, rfl, hx⟩ := hc hne
  refine ⟨g, off, Nat.lt_of_lt_of_le hg hb, rfl, fun i h => ?_⟩
  obtain ⟨cs, h1, h2⟩ := hx i h
  exact ⟨cs, hV _ _ h1, h2⟩
theorem ExC.mono {B' : Nat} {e : Ex} (h : ExC B w cs e) (hb : B ≤ B') : ExC B' w cs e := by
  obtain ⟨vk, rfl, h1, r⟩ := h
  exact ⟨vk, rfl, h1.mono hb, r⟩
theorem StC.mono {B' : Nat} {s : St} (h : StC B w cs s) (hb : B ≤ B') : StC B' w cs s := by
  obtain ⟨vs, vt, ve, rfl, h1, h2, h3, r⟩ := h
  exact ⟨vs, vt, ve, rfl, h1.mono hb, h2.mono hb, h3.mono hb, r⟩
theorem PrC.mono {B' : Nat} {f : Pr} (h : PrC B w cs f) (hb : B ≤ B') : PrC B' w cs f := by
  obtain ⟨vb, vu, vs, ve, rfl, h1, h2, h3, h4, r⟩ := h
  exact ⟨vb, vu, vs, ve, rfl, h1.mono hb, h2.mono hb (fun _ _ h => h), h3.mono hb (fun _ _ h => h.mono hb), h4.mono hb (fun _ _ h => h.mono hb), r⟩
/-- An item of a list, where it lies. -/
theorem LstB.item {vs : List Value} (h : LstB B w v vs) {i : Nat} (hi : i < vs.length) : ∃ g off cap, g < B ∧ v = .slice (some ⟨g, off, none⟩) vs.length cap ∧ Len vs.length ∧ w.cell? ⟨g, off + i, none⟩ = some vs[i] := by
  obtain ⟨ao, cap, rfl, hl, hc⟩ := h
  obtain ⟨g, off, hg, rfl, hx⟩ := hc (by rintro rfl; exact absurd hi (Nat.not_lt_zero _))
  exact ⟨g, off, cap, hg, rfl, hl, hx i hi⟩
theorem RowsB.item {α : Type} {C : Nat} {V : Array Value → α → Prop} {l : List α} (h : RowsB C V B w v l) {i : Nat} (hi : i < l.length) : ∃ g off cap cs, g < B ∧ v = .slice (some ⟨g, off, none⟩) l.length cap ∧ Len l.length ∧ V cs l[i] ∧ ∀ (j : Nat), j < C → ∃ h : j < cs.size, w.cell? ⟨g, off + i * C + j, none⟩ = some cs[j] := by
  obtain ⟨ao, cap, rfl, hl, hc⟩ := h
  obtain ⟨g, off, hg, rfl, hx⟩ := hc (by rintro rfl; exact absurd hi (Nat.not_lt_zero _))
  obtain ⟨cs, h1, h2⟩ := hx i hi
  exact ⟨g, off, cap, cs, hg, rfl, hl, h1, h2⟩
theorem LstB.slice {vs : List Value} (h : LstB B w v vs) : ∃ ao cap, v = .slice ao vs.length cap ∧ Len vs.length := by
  obtain ⟨ao, cap, hv, hl, _⟩ := h
  exact ⟨ao, cap, hv, hl⟩
theorem RowsB.slice {α : Type} {C : Nat} {V : Array Value → α → Prop} {l : List α} (h : RowsB C V B w v l) : ∃ ao cap, v = .slice ao l.length cap ∧ Len l.length := by
  obtain ⟨ao, cap, hv, hl, _⟩ := h
  exact ⟨ao, cap, hv, hl⟩
theorem cell_of {b : Nat} {cs : Array Value} {T : TypeId} {fr : Nat × Nat} (h : w.heap[b]? = some (.cells cs T fr)) (j : Nat) (v : Value) (hv : cs[j]? = some v) : w.cell? ⟨b, j, none⟩ = some v := by
  unfold World.cell?
  rw [h]
  exact hv
theorem new_block (w : World) (o : Obj) : (w.alloc o).heap[w.heap.size]? = some o := by
  show (w.heap.push o)[w.heap.size]? = some o
  simp
theorem lt_of_get {o : Obj} {b : Nat} (h : w.heap[b]? = some o) : b < w.heap.size := by
  rcases Nat.lt_or_ge b w.heap.size with h' | h'
  · exact h'
  · rw [Array.getElem?_eq_none h'] at h; cases h
end
end Go.Proofs.YtnnjkejejlhkdaaDoor.Rt
