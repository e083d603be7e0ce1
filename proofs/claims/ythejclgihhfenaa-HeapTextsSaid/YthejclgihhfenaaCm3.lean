import Derived.Test.YthejclgihhfenaaCm2
import Derived.Deep.QuietTactic
import Derived.BigQuiet
import Derived.Deep.LoopGhost
import Derived.WalkSmall
import Derived.Deep.CutBlock
import Derived.Deep.DeepCutAuto
import Derived.StillTailTactics
import Derived.Deep.RegionHeld3
import Derived.Test.YthejclgihhfenaaCm1
import Derived.Maps.OwnSet
import Derived.DeepKeys4
/-
  Layer 14: what the calls of a heap say, whatever lies behind them.
-/
namespace Go.Proofs.Ythejclgihhfenaa.Hp
open Go Go.RowKit Go.Proofs.Ythejclgihhfenaa.Pl Go.Proofs.Ythejclgihhfenaa.Tb

def FreshIn (F F' : List Nat) (w : World) : Prop := ∀ x ∈ F', x ∈ F ∨ w.heap.size ≤ x
/-- A list of values as it lies in memory, from block B on. -/
def VlsAt (B : Nat) (w : World) (v : Value) (l : List Vl) : Prop := ∃ ao cap, v = .slice ao l.length cap ∧ (l.length ≤ cap ∧ Len l.length) ∧
  (l ≠ [] → ∃ g off, B ≤ g ∧ g < w.heap.size ∧ ao = some ⟨g, off, none⟩ ∧ ∀ (j : Nat) (h : j < l.length), w.cell? ⟨g, off + j * 2, none⟩ = some (.int .u8 (l[j].kind : Int)) ∧ w.cell? ⟨g, off + j * 2 + 1, none⟩ = some (.int .i64 l[j].n))
/-- HP w b h F: at block b lies the heap h, in the blocks F. -/
abbrev HeapP := World → Nat → Hp → List Nat → Prop
def NewHSays (HP : HeapP) (m : Int) (w : World) (e : Ending) (w' : World) : Prop :=
  ∃ b F, e = .returned (.tuple #[.pointer (some ⟨b, 0, none⟩), .int .i64 0]) ∧ HP w' b { max := m, obs := [] } F ∧ (∀ k ∈ F, w.heap.size ≤ k) ∧ Below w.heap.size w w'
/-- A call that changes the heap to h' and answers r. -/
def ChgSays (HP : HeapP) (b : Nat) (h' : Hp) (F : List Nat) (r : Value) (w : World) (e : Ending) (w' : World) : Prop :=
  e = .returned r ∧ ∃ F', HP w' b h' F' ∧ Turns F w w' ∧ FreshIn F F' w
def TellSays (r : Value) (w : World) (e : Ending) (w' : World) : Prop := e = .returned r ∧ Below w.heap.size w w'
def ListSays (l : List Vl) (w : World) (e : Ending) (w' : World) : Prop := ∃ v, e = .returned v ∧ VlsAt w.heap.size w' v l ∧ Below w.heap.size w w'
def two (v : Vl) (e : Int) : Value := .tuple #[v.val, .int .i64 e]
structure HeapSays (HP : HeapP) : Prop where
  mem : ∀ {w b h F}, HP w b h F → b ∈ F ∧ ∀ k ∈ F, k < w.heap.size
  keep : ∀ {w w' b h F G}, HP w b h F → Turns G w w' → (∀ k ∈ F, k ∉ G) → HP w' b h F
  new : ∀ (m : Int) (w : World), 1 ≤ m → m ≤ 16777216 → Calls Try.prog 5 #[.int .i64 m] w (NewHSays HP m w)
  str : ∀ {w b h F} (s : ByteArray), HP w b h F → Calls Try.prog 19 #[.pointer (some ⟨b, 0, none⟩), .string s] w (ChgSays HP b (strH h s).1 F (two (strH h s).2.1 (strH h s).2.2) w)
  table : ∀ {w b h F}, HP w b h F → Calls Try.prog 9 #[.pointer (some ⟨b, 0, none⟩)] w (ChgSays HP b (tableH h).1 F (two (tableH h).2.1 (tableH h).2.2) w)
  cell : ∀ {w b h F} (v : Vl), HP w b h F → v.In → Calls Try.prog 7 #[.pointer (some ⟨b, 0, none⟩), v.val] w (ChgSays HP b (cellH h v).1 F (two (cellH h v).2.1 (cellH h v).2.2) w)
  set : ∀ {w b h F} (t k v : Vl), HP w b h F → t.In → k.In → v.In → Calls Try.prog 10 #[.pointer (some ⟨b, 0, none⟩), t.val, k.val, v.val] w (ChgSays HP b (setH h t k v).1 F (.int .i64 (setH h t k v).2) w)
  store : ∀ {w b h F} (c v : Vl), HP w b h F → c.In → v.In → Calls Try.prog 11 #[.pointer (some ⟨b, 0, none⟩), c.val, v.val] w (ChgSays HP b (storeH h c v).1 F (.int .i64 (storeH h c v).2) w)
  free : ∀ {w b h F} (v : Vl), HP w b h F → v.In → Calls Try.prog 8 #[.pointer (some ⟨b, 0, none⟩), v.val] w (ChgSays HP b (freeH h v).1 F (.int .i64 (freeH h v).2) w)
  get : ∀ {w b h F} (t k : Vl), HP w b h F → t.In → k.In → Calls Try.prog 13 #[.pointer (some ⟨b, 0, none⟩), t.val, k.val] w (TellSays (getH h t k).val w)
  load : ∀ {w b h F} (c : Vl), HP w b h F → c.In → Calls Try.prog 12 #[.pointer (some ⟨b, 0, none⟩), c.val] w (TellSays (loadH h c).val w)
  has : ∀ {w b h F} (v : Vl), HP w b h F → v.In → Calls Try.prog 14 #[.pointer (some ⟨b, 0, none⟩), v.val] w (TellSays (.bool (hasH h v)) w)
  text : ∀ {w b h F} (v : Vl), HP w b h F → v.In → Calls Try.prog 20 #[.pointer (some ⟨b, 0, none⟩), v.val] w (TellSays (.tuple #[.string (textH h v).1, .bool (textH h v).2]) w)
  serial : ∀ {w b h F} (v : Vl), HP w b h F → v.In → Calls Try.prog 40 #[.pointer (some ⟨b, 0, none⟩), v.val] w (TellSays (.int .i64 (serialH h v)) w)
  objects : ∀ {w b h F}, HP w b h F → Calls Try.prog 17 #[.pointer (some ⟨b, 0, none⟩)] w (ListSays (objectsL 0 h.obs) w)
  kids : ∀ {w b h F} (v : Vl), HP w b h F → v.In → v.kind ≠ 8 → Calls Try.prog 39 #[.pointer (some ⟨b, 0, none⟩), v.val] w (ListSays (kidsH h v) w)
  used : ∀ {w b h F}, HP w b h F → Calls Try.prog 15 #[.pointer (some ⟨b, 0, none⟩)] w (TellSays (.int .i64 (usedH h)) w)
  max : ∀ {w b h F}, HP w b h F → Calls Try.prog 16 #[.pointer (some ⟨b, 0, none⟩)] w (TellSays (.int .i64 h.max) w)

/-- A heap in blocks of the call's own; beside it the law's. -/
def HpAt (HP : HeapP) (w0 : World) (b : Nat) (h : Hp) (K : Own) (w : World) : Prop := ∃ F, HP w b h F ∧ (∀ k ∈ F, w0.heap.size ≤ k) ∧ Below w0.heap.size w0 w ∧ ∀ p ∈ K, w.heap[p.1]? = some p.2 ∧ p.1 ∉ F
section
variable {HP : HeapP} {w0 w w' : World} {b : Nat} {h h' : Hp} {F F' : List Nat} {K : Own}
theorem HpAt.step (hF : ∀ k ∈ F, w0.heap.size ≤ k) (hb : Below w0.heap.size w0 w) (hK : ∀ p ∈ K, w.heap[p.1]? = some p.2 ∧ p.1 ∉ F) (hp : HP w' b h' F') (ht : Turns F w w') (hf : FreshIn F F' w) : HpAt HP w0 b h' K w' :=
  ⟨F', hp, fun k hk => (hf k hk).elim (hF k) (fun x => Nat.le_trans hb.size x), hb.trans (ht.to_below hb.size hF), fun p hp => by
    obtain ⟨h1, h2⟩ := hK p hp
    exact ⟨(ht.block p.1 (lt_of_get h1) h2).trans h1, fun hm => (hf p.1 hm).elim h2 (fun x => absurd (lt_of_get h1) (Nat.not_lt.2 x))⟩⟩
theorem HpAt.below (H : HeapSays HP) (h1 : HpAt HP w0 b h K w) (hb : Below w.heap.size w w') : HpAt HP w0 b h K w' := by
  obtain ⟨F, hp, hF, h0, hK⟩ := h1
  exact HpAt.step hF h0 hK (H.keep (G := []) hp (Turns.of_below hb) (fun _ _ x => by cases x)) (Turns.of_below hb) (fun _ hx => .inl hx)
theorem HpAt.low (h1 : HpAt HP w0 b h K w) : Below w0.heap.size w0 w := by
  obtain ⟨_, _, _, h0, _⟩ := h1
  exact h0
theorem HpAt.own (h1 : HpAt HP w0 b h K w) {k : Nat} {o : Obj} (hm : (k, o) ∈ K) : w.heap[k]? = some o := by
  obtain ⟨_, _, _, _, hK⟩ := h1
  exact (hK _ hm).1
theorem HpAt.fewer {K' : Own} (h1 : HpAt HP w0 b h K w) (hs : ∀ p ∈ K', p ∈ K) : HpAt HP w0 b h K' w := by
  obtain ⟨F, hp, hF, h0, hK⟩ := h1
  exact ⟨F, hp, hF, h0, fun p hp => hK p (hs p hp)⟩
theorem HpAt.alloc (H : HeapSays HP) (h1 : HpAt HP w0 b h K w) (o : Obj) : HpAt HP w0 b h ((w.heap.size, o) :: K) (w.alloc o) := by
  obtain ⟨F, hp, hF, h0, hK⟩ := h1
  have hal := (Below.refl w.heap.size w).alloc (Nat.le_refl _) o
  refine ⟨F, H.keep (G := []) hp (Turns.of_below hal) (fun _ _ x => by cases x), hF, h0.trans (hal.mono h0.size), fun p hm => ?_⟩
  rcases List.mem_cons.1 hm with rfl | hm
  · exact ⟨new_block _ _, fun hf => absurd ((H.mem hp).2 _ hf) (Nat.lt_irrefl _)⟩
  · obtain ⟨h1, h2⟩ := hK p hm
    exact ⟨(hal.block _ (lt_of_get h1)).trans h1, h2⟩
/-- A step of the law's own upon its own blocks. -/
theorem HpAt.mine {K' : Own} {G : List Nat} (H : HeapSays HP) (h1 : HpAt HP w0 b h K w) (ht : Turns G w w') (hG : ∀ k ∈ G, ∃ o, (k, o) ∈ K) (h0 : ∀ k ∈ G, w0.heap.size ≤ k)
    (hK : ∀ p ∈ K', w'.heap[p.1]? = some p.2 ∧ ((∃ o, (p.1, o) ∈ K) ∨ w.heap.size ≤ p.1)) : HpAt HP w0 b h K' w' := by
  obtain ⟨F, hp, hF, hb, hk⟩ := h1
  refine ⟨F, H.keep hp ht (fun k hkF hkG => ?_), hF, hb.trans (ht.to_below hb.size h0), fun p hp2 => ⟨(hK p hp2).1, fun hm => ?_⟩⟩
  · obtain ⟨o, ho⟩ := hG k hkG
    exact (hk _ ho).2 hkF
  · rcases (hK p hp2).2 with ⟨o, ho⟩ | hl
    · exact (hk _ ho).2 hm
    · exact absurd ((H.mem hp).2 _ hm) (Nat.not_lt.2 hl)
/-- A call that changes the heap. -/
def Goes (HP : HeapP) (w0 : World) (b : Nat) (h' : Hp) (K : Own) (r : Value) (e : Ending) (w' : World) : Prop := e = .returned r ∧ HpAt HP w0 b h' K w'
theorem HpAt.chg {f : Nat} {args : Array Value} {r : Value} (hc : ∀ {F}, HP w b h F → Calls Try.prog f args w (ChgSays HP b h' F r w)) (h1 : HpAt HP w0 b h K w) : Calls Try.prog f args w (Goes HP w0 b h' K r) := by
  obtain ⟨F, hp, hF, h0, hK⟩ := h1
  exact (hc hp).mono fun e w1 ⟨he, F', q1, q2, q3⟩ => ⟨he, HpAt.step hF h0 hK q1 q2 q3⟩
theorem HpAt.tell {f : Nat} {args : Array Value} {r : Value} (H : HeapSays HP) (hc : ∀ {F}, HP w b h F → Calls Try.prog f args w (TellSays r w)) (h1 : HpAt HP w0 b h K w) : Calls Try.prog f args w (Goes HP w0 b h K r) := by
  have h2 := h1
  obtain ⟨F, hp, hF, h0, hK⟩ := h1
  exact (hc hp).mono fun e w1 ⟨he, q⟩ => ⟨he, h2.below H q⟩
/-- A list that was answered, in blocks of the law's own. -/
def VlsIn (v : Value) (l : List Vl) (K : Own) : Prop := ∃ ao cap, v = .slice ao l.length cap ∧ (l.length ≤ cap ∧ Len l.length) ∧
  (l ≠ [] → ∃ g off o, (g, o) ∈ K ∧ ao = some ⟨g, off, none⟩ ∧ ∀ w : World, w.heap[g]? = some o → ∀ (j : Nat) (h : j < l.length), w.cell? ⟨g, off + j * 2, none⟩ = some (.int .u8 (l[j].kind : Int)) ∧ w.cell? ⟨g, off + j * 2 + 1, none⟩ = some (.int .i64 l[j].n))
def Lists (HP : HeapP) (w0 : World) (b : Nat) (h : Hp) (K : Own) (l : List Vl) (e : Ending) (w' : World) : Prop := ∃ v Kl, e = .returned v ∧ VlsIn v l Kl ∧ HpAt HP w0 b h (Kl ++ K) w'
theorem HpAt.list {f : Nat} {args : Array Value} {l : List Vl} (H : HeapSays HP) (hc : ∀ {F}, HP w b h F → Calls Try.prog f args w (ListSays l w)) (h1 : HpAt HP w0 b h K w) : Calls Try.prog f args w (Lists HP w0 b h K l) := by
  have h2 := h1
  obtain ⟨F, hp, hF, h0, hK⟩ := h1
  refine (hc hp).mono fun e w1 ⟨v, he, ⟨ao, cap, hv, hl, hx⟩, hb⟩ => ?_
  by_cases hn : l = []
  · exact ⟨v, [], he, ⟨ao, cap, hv, hl, fun h => absurd hn h⟩, h2.below H hb⟩
  · obtain ⟨g, off, hg1, hg2, hao, hcell⟩ := hx hn
    obtain ⟨o, ho⟩ : ∃ o, w1.heap[g]? = some o := ⟨_, Array.getElem?_eq_getElem hg2⟩
    refine ⟨v, [(g, o)], he, ⟨ao, cap, hv, hl, fun _ => ⟨g, off, o, List.mem_singleton.2 rfl, hao, fun w2 h2 j hj => ?_⟩⟩, ?_⟩
    · have hsame : ∀ i, w2.cell? ⟨g, i, none⟩ = w1.cell? ⟨g, i, none⟩ := fun i => World.cell?_of_block (a := ⟨g, i, none⟩) (h2.trans ho.symm)
      exact ⟨(hsame _).trans (hcell j hj).1, (hsame _).trans (hcell j hj).2⟩
    · obtain ⟨F', hp', hF', h0', hK'⟩ := h2.below H hb
      have hF2 : HP w1 b h F := H.keep (G := []) hp (Turns.of_below hb) (fun _ _ x => by cases x)
      refine ⟨F, hF2, hF, h0.trans (hb.mono h0.size), fun p hpm => ?_⟩
      rcases List.mem_append.1 hpm with hpm | hpm
      · rw [List.mem_singleton.1 hpm]
        exact ⟨ho, fun hm => absurd ((H.mem hp).2 _ hm) (Nat.not_lt.2 hg1)⟩
      · obtain ⟨q1, q2⟩ := hK p hpm
        exact ⟨(hb.block _ (lt_of_get q1)).trans q1, q2⟩
end
end Go.Proofs.Ythejclgihhfenaa.Hp

/-
  Maps whose keys are values (api.Value): what a key reads as. Nothing of one layer.
-/
namespace Go.Proofs.Ythejclgihhfenaa.Vm
open Go Go.RowKit Go.Proofs.Ythejclgihhfenaa.Pl Go.Proofs.Ythejclgihhfenaa.Tb Go.Maps Go.WideShapes

theorem laidOutV : laidOutB Try.prog = true := by kernel_rfl
theorem wideV : (match Try.prog.underlying 31 with | some (.array _ _) | some (.struct _) => true | _ => false) = true := by rw [Try.underlying31]
theorem rowV : (31 : TypeId) < Try.prog.types.size := of_decide_eq_true (by kernel_rfl)
theorem keyTypeV : Try.prog.keyTypeAt 2 31 = true := by kernel_rfl
set_option maxRecDepth 1000000 in
theorem keyLawV : WideMaps.KeyLaw Try.prog 31 := deep_law_laid laidOutV (m := 2) (Nat.le_of_ble_eq_true rfl) rowV keyTypeV wideV
theorem keyedV : Keyed Try.prog 31 := Keyed.of_law keyLawV
theorem cellsOfV : Try.prog.cellsOf 31 = 2 := by kernel_rfl
theorem cellsOfK : Try.prog.cellsOf 29 = 1 := by kernel_rfl
theorem cellsOfN : Try.prog.cellsOf 2 = 1 := by kernel_rfl
theorem keyTyV : Try.prog.keyType 31 = true := by kernel_rfl
theorem litsV (d : Nat) (k n : Int) (w0 : (Lit.int .u8 k).wf = true) (w1 : (Lit.int .i64 n).wf = true) : Try.prog.keyLits (d + 1 + 1) 31 [.int .u8 k, .int .i64 n] = some [.int .u8 k, .int .i64 n] := by
  have e0 : Try.prog.keyLits (d + 1) 29 [.int .u8 k] = some [.int .u8 k] := by
    unfold Program.keyLits
    rw [Try.underlying29]
    simp [w0]
  have e1 : Try.prog.keyLits (d + 1) 2 [.int .i64 n] = some [.int .i64 n] := by
    unfold Program.keyLits
    rw [Try.underlying2]
    simp [w1]
  unfold Program.keyLits
  rw [Try.underlying31]
  simp [cellsOfV, cellsOfK, cellsOfN, e0, e1]
/-- What a value reads as, where it is a key. -/
def kV (v : Vl) : Lit := .string (keyBytes [.int .u8 (v.kind : Int), .int .i64 v.n])
set_option maxRecDepth 100000 in
theorem kV_of (v : Vl) (h : v.In) : keyOf Try.prog 31 v.val = some (kV v) := by
  obtain ⟨k, n⟩ := v
  obtain ⟨h1, h2, h3⟩ := h
  dsimp only at h1 h2 h3
  have w0 : (Lit.int .u8 (k : Int)).wf = true := WalkArith.wf_u8 (by constructor <;> omega)
  have w1 : (Lit.int .i64 n).wf = true := WalkArith.wf_i64 ⟨h2, h3⟩
  have hf : Value.formed Try.prog 31 (.agg #[.int .u8 (k : Int), .int .i64 n]) = true := by simp [Value.formed, Try.underlying31, cellsOfV]
  obtain ⟨d, hd⟩ : ∃ d, Try.prog.types.size + 1 = d + 1 + 1 := ⟨Try.prog.types.size - 1, by kernel_rfl⟩
  show keyOf Try.prog 31 (.agg #[.int .u8 (k : Int), .int .i64 n]) = _
  unfold keyOf
  rw [Try.underlying31]
  dsimp only
  rw [keyTyV, hf, Bool.and_self, if_pos rfl, hd]
  rw [show (Value.agg #[.int .u8 (k : Int), .int .i64 n]).cells.toList = [.int .u8 (k : Int), .int .i64 n] from rfl, litsV d k n w0 w1]
  rfl
theorem kV_key (v : Vl) : WideAt.IsKeyLit (kV v) := by unfold kV WideAt.IsKeyLit; trivial
set_option maxRecDepth 100000 in
theorem kV_ne {a b : Vl} (ha : a.In) (hb : b.In) (h : a ≠ b) : kV a ≠ kV b := fun e => h (by
  have h1 := kV_of a ha
  have h2 := kV_of b hb
  rw [← e] at h2
  have h3 := keyedV.inj h1 h2
  obtain ⟨ak, an⟩ := a
  obtain ⟨bk, bn⟩ := b
  have h3 : Value.agg #[.int .u8 (ak : Int), .int .i64 an] = .agg #[.int .u8 (bk : Int), .int .i64 bn] := h3
  injection h3 with h3
  have h4 := congrArg Array.toList h3
  injection h4 with h5 h6
  injection h6 with h6
  injection h5 with _ h5
  injection h6 with _ h6
  rw [Vl.mk.injEq]
  exact ⟨by omega, h6⟩)
end Go.Proofs.Ythejclgihhfenaa.Vm

/-
  Maps keyed by values (api.Value) with int or int64 elements, in a block of the call's own. Nothing of one layer.
-/
namespace Go.Proofs.Ythejclgihhfenaa.Vm
open Go Go.RowKit Go.Proofs.Ythejclgihhfenaa.Pl Go.Proofs.Ythejclgihhfenaa.Tb Go.Maps Go.WideShapes

/-- The types' numbers: the map's, the element's. -/
structure Ty (mt et : TypeId) : Prop where
  map : Try.prog.underlying mt = some (.map 31 et)
  elem : Try.prog.underlying et = some (.int .i64)
  zero : ∀ w : World, (zeroValue et).run Try.prog w = .ok (.int .i64 0) w
/-- A map's block, of at most N entries, sz of them, that holds f. -/
def VMapIs (et : TypeId) (M : Obj) (N sz : Nat) (f : Vl → Option Int) : Prop := ∃ D : DataW Unit, Maps.size D = sz ∧ (∀ (w : World) (mb : Nat), w.heap[mb]? = some M → w.ownsMap Try.prog 31 (plainElem Try.prog et) mb N D) ∧
  ∀ v : Vl, v.In → Maps.has D (kV v) = (f v).isSome ∧ D.atKey (kV v) (.lit (.int .i64 0)) = .lit (.int .i64 ((f v).getD 0))
theorem vmap_new (et : TypeId) : VMapIs et (.map #[] 0) 0 0 (fun _ => none) :=
  ⟨.map [], rfl, fun w mb h => ⟨#[], 0, h, ⟨by simp, MapKept.stamped_empty 0, by simp⟩, Nat.le_refl _, rfl⟩, fun k _ => ⟨rfl, rfl⟩⟩
section
variable {mt et : TypeId} {M : Obj} {N sz : Nat} {f : Vl → Option Int} {w : World} {mb : Nat}
theorem VMapIs.congr {g : Vl → Option Int} (h : VMapIs et M N sz f) (e : ∀ k, g k = f k) : VMapIs et M N sz g := by
  rw [show g = f from funext e]; exact h
theorem VMapIs.few (h : VMapIs et M N sz f) (hb : w.heap[mb]? = some M) : sz ≤ N := by
  obtain ⟨D, hs, ho, _⟩ := h
  rw [← hs]
  exact (ho w mb hb).size_le
set_option maxRecDepth 100000 in
theorem VMapIs.look (T : Ty mt et) (h : VMapIs et M N sz f) (hb : w.heap[mb]? = some M) (k : Vl) (hk : k.In) : (Instr.lookup mt (.map (some mb)) k.val false).run Try.prog w = .ok (.int .i64 ((f k).getD 0)) w := by
  obtain ⟨D, _, ho, hf⟩ := h
  obtain ⟨c, hrun, hat, _⟩ := (ho w mb hb).lookup_int keyedV T.map T.elem (T.zero _) (kV_of k hk)
  rw [hrun]
  have := (hf k hk).2
  rw [hat] at this
  injection this with this
  injection this with _ this
  rw [this]
set_option maxRecDepth 100000 in
theorem VMapIs.look_ok (T : Ty mt et) (h : VMapIs et M N sz f) (hb : w.heap[mb]? = some M) (k : Vl) (hk : k.In) : (Instr.lookup mt (.map (some mb)) k.val true).run Try.prog w = .ok (.tuple #[.int .i64 ((f k).getD 0), .bool (f k).isSome]) w := by
  obtain ⟨D, _, ho, hf⟩ := h
  obtain ⟨v, ps, hrun, hv⟩ := (ho w mb hb).look_ok keyedV T.map (T.zero _) (plainElem_int T.elem (by decide)) (kV_of k hk)
  obtain ⟨c, rfl, hc, _⟩ := plainElem_int_inv T.elem hv
  have hat : D.atKey (kV k) (.lit (.int .i64 0)) = .lit (.int .i64 c) := congrArg Prod.fst hc
  rw [hrun, (hf k hk).1]
  have := (hf k hk).2
  rw [hat] at this
  injection this with this
  injection this with _ this
  rw [this]
theorem VMapIs.len (T : Ty mt et) (h : VMapIs et M N sz f) (hb : w.heap[mb]? = some M) (ty : TypeId) : (Builtin.len_ #[mt] ty #[.map (some mb)]).run Try.prog w = .ok (.int .i64 (sz : Int)) w := by
  obtain ⟨D, hs, ho, hf⟩ := h
  rw [← hs]
  exact (ho w mb hb).len T.map ty
/-- What a map's store or a drop leaves. -/
def VMapGoes (et : TypeId) (mb N sz : Nat) (f : Vl → Option Int) (w w' : World) : Prop := ∃ M, w'.heap[mb]? = some M ∧ VMapIs et M N sz f ∧ w.grownBy w' (some mb) ∧ w'.heap.size = w.heap.size
theorem vgoes_of {D : DataW Unit} {w' : World} (hs : Maps.size D = sz) (ho : w'.ownsMap Try.prog 31 (plainElem Try.prog et) mb N D) (hf : ∀ v : Vl, v.In → Maps.has D (kV v) = (f v).isSome ∧ D.atKey (kV v) (.lit (.int .i64 0)) = .lit (.int .i64 ((f v).getD 0))) (ht : w.mapTurned w' mb) : VMapGoes et mb N sz f w w' := by
  obtain ⟨es, c, hb, hr⟩ := ho
  refine ⟨_, hb, ⟨D, hs, fun w2 mb2 h2 => ⟨es, c, h2, hr⟩, hf⟩, ht.grown, ?_⟩
  obtain ⟨_, _, _, _, _, rfl⟩ := ht
  simp [ChangeMaps.setBlock]
theorem VMapIs.store (T : Ty mt et) (h : VMapIs et M N sz f) (hb : w.heap[mb]? = some M) (hN : N < 1000000) (k : Vl) (v : Int) (hk : k.In) (hv : In64 v) : ∃ w', (Instr.mapUpdate mt (.map (some mb)) k.val (.int .i64 v)).run Try.prog w = .ok () w' ∧ VMapGoes et mb (N + 1) (if (f k).isSome then sz else sz + 1) (fun j => if j = k then some v else f j) w w' := by
  obtain ⟨D, hs, ho, hf⟩ := h
  obtain ⟨w', hrun, h1, h2⟩ := (ho w mb hb).store keyedV T.map (by unfold maxLen; omega) (kV_of k hk) (plainElem_int T.elem (WalkArith.wf_i64 hv))
  have hD := (ho w mb hb).isMap
  have htd := (ho w mb hb).tidy keyedV
  refine ⟨w', hrun, vgoes_of ?_ h1 (fun j hj => ?_) h2⟩
  · rw [size_put htd, (hf k hk).1, hs]
  · by_cases e : j = k
    · subst e
      rw [if_pos rfl]
      exact ⟨has_put_same hD (kV_key _) _, atKey_put_same hD (kV_key _) _ _⟩
    · rw [if_neg e, has_put_other (kV_ne hj hk e), atKey_put_other (kV_ne hj hk e)]
      exact hf j hj
theorem VMapIs.drop (T : Ty mt et) (h : VMapIs et M N sz f) (hb : w.heap[mb]? = some M) (k : Vl) (hk : k.In) (ty : TypeId) : ∃ w', (Builtin.delete_ #[mt, 31] ty #[.map (some mb), k.val]).run Try.prog w = .ok (.tuple #[]) w' ∧ VMapGoes et mb N (if (f k).isSome then sz - 1 else sz) (fun j => if j = k then none else f j) w w' := by
  obtain ⟨D, hs, ho, hf⟩ := h
  obtain ⟨w', hrun, h1, h2⟩ := (ho w mb hb).drop keyedV T.map (kV_of k hk) ty
  have htd := (ho w mb hb).tidy keyedV
  have hsz := size_del (k := kV k) htd
  rw [(hf k hk).1, hs] at hsz
  refine ⟨w', hrun, vgoes_of ?_ h1 (fun j hj => ?_) h2⟩
  · cases hk2 : (f k).isSome with
    | true => rw [hk2] at hsz; simp at hsz ⊢; omega
    | false => rw [hk2] at hsz; simp at hsz ⊢; omega
  · by_cases e : j = k
    · subst e
      rw [if_pos rfl]
      exact ⟨has_del_same, atKey_del_same _⟩
    · rw [if_neg e, has_del_other (kV_ne hj hk e), atKey_del_other (kV_ne hj hk e)]
      exact hf j hj
end
end Go.Proofs.Ythejclgihhfenaa.Vm

/-
  Sets of numbers (map[int64]bool) in a block of the call's own. Nothing of one layer.
-/
namespace Go.Proofs.Ythejclgihhfenaa.Vm
open Go Go.RowKit Go.Proofs.Ythejclgihhfenaa.Pl Go.Proofs.Ythejclgihhfenaa.Tb Go.Maps Go.WideShapes

def bElem : Value → Option (DataW Unit × List MemPlace)
  | .bool x => some (.lit (.bool x), [])
  | _ => none
theorem bElem_inv {v : Value} {z : DataW Unit × List MemPlace} (h : bElem v = some z) : ∃ x, v = .bool x ∧ z = (.lit (.bool x), []) := by
  cases v <;> first | exact ⟨_, rfl, (Option.some.inj h).symm⟩ | cases h
/-- The types' numbers: the map's, the key's, the element's. -/
structure TyN (mt kt et : TypeId) : Prop where
  map : Try.prog.underlying mt = some (.map kt et)
  key : Try.prog.underlying kt = some (.int .i64)
  zero : ∀ w : World, (zeroValue et).run Try.prog w = .ok (.bool false) w
def kN (n : Int) : Lit := .int .i64 n
theorem kN_ne {a b : Int} (h : a ≠ b) : kN a ≠ kN b := fun e => h (by injection e)
theorem kN_key (k : Int) : WideAt.IsKeyLit (kN k) := by unfold kN WideAt.IsKeyLit; trivial
def NMapIs (kt : TypeId) (M : Obj) (N : Nat) (f : Int → Bool) : Prop := ∃ D : DataW Unit, (∀ (w : World) (mb : Nat), w.heap[mb]? = some M → w.ownsMap Try.prog kt bElem mb N D) ∧
  ∀ n : Int, D.atKey (kN n) (.lit (.bool false)) = .lit (.bool (f n))
theorem nmap_new (kt : TypeId) : NMapIs kt (.map #[] 0) 0 (fun _ => false) :=
  ⟨.map [], fun w mb h => ⟨#[], 0, h, ⟨by simp, MapKept.stamped_empty 0, by simp⟩, Nat.le_refl _, rfl⟩, fun k => rfl⟩
section
variable {mt kt et : TypeId} {M : Obj} {N : Nat} {f : Int → Bool} {w : World} {mb : Nat}
theorem NMapIs.congr {g : Int → Bool} (h : NMapIs kt M N f) (e : ∀ k, g k = f k) : NMapIs kt M N g := by
  rw [show g = f from funext e]; exact h
theorem kN_of (T : TyN mt kt et) (n : Int) (h : In64 n) : keyOf Try.prog kt (.int .i64 n) = some (kN n) := keyOf_int_mk T.key (WalkArith.wf_i64 h)
set_option maxRecDepth 100000 in
theorem NMapIs.look (T : TyN mt kt et) (h : NMapIs kt M N f) (hb : w.heap[mb]? = some M) (n : Int) (hk : In64 n) : (Instr.lookup mt (.map (some mb)) (.int .i64 n) false).run Try.prog w = .ok (.bool (f n)) w := by
  obtain ⟨D, ho, hf⟩ := h
  obtain ⟨v, ps, hrun, hv⟩ := (ho w mb hb).lookup (int_keyed T.key) T.map (T.zero _) (zd := .lit (.bool false)) (zp := []) rfl (kN_of T n hk)
  obtain ⟨x, rfl, hx⟩ := bElem_inv hv
  have hat := (hf n).symm.trans (congrArg Prod.fst hx)
  injection hat with hat
  injection hat with hat
  rw [hrun, hat]
/-- What a map's store leaves. -/
def NMapGoes (kt : TypeId) (mb N : Nat) (f : Int → Bool) (w w' : World) : Prop := ∃ M, w'.heap[mb]? = some M ∧ NMapIs kt M N f ∧ w.grownBy w' (some mb) ∧ w'.heap.size = w.heap.size
set_option maxRecDepth 100000 in
theorem NMapIs.store (T : TyN mt kt et) (h : NMapIs kt M N f) (hb : w.heap[mb]? = some M) (hN : N < 1000000) (n : Int) (x : Bool) (hk : In64 n) : ∃ w', (Instr.mapUpdate mt (.map (some mb)) (.int .i64 n) (.bool x)).run Try.prog w = .ok () w' ∧ NMapGoes kt mb (N + 1) (fun j => if j = n then x else f j) w w' := by
  obtain ⟨D, ho, hf⟩ := h
  obtain ⟨w', hrun, h1, ht⟩ := (ho w mb hb).store (int_keyed T.key) T.map (by unfold maxLen; omega) (kN_of T n hk) (val := .bool x) (d := .lit (.bool x)) (ps := []) rfl
  have hD := (ho w mb hb).isMap
  obtain ⟨es, c, hb1, hr⟩ := h1
  refine ⟨w', hrun, _, hb1, ⟨_, fun w2 mb2 h2 => ⟨es, c, h2, hr⟩, fun j => ?_⟩, ht.grown, ?_⟩
  · dsimp only
    by_cases e : j = n
    · subst e
      rw [if_pos rfl]
      exact atKey_put_same hD (kN_key _) _ _
    · rw [if_neg e, atKey_put_other (kN_ne e)]
      exact hf j
  · obtain ⟨_, _, _, _, _, rfl⟩ := ht
    simp [ChangeMaps.setBlock]
end
end Go.Proofs.Ythejclgihhfenaa.Vm
