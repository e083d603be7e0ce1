import Derived.Test.YthejclgihhfenaaGreatCm5
import Derived.WalkKit
import Derived.ProofKit
import Derived.OpenShut
import Derived.Below
import Derived.Lib.SmallJoins
import Derived.Test.YthejclgihhfenaaGreatCm1
import Derived.Maps.OwnSet
import Derived.DeepKeys4
/-
  Missing heaps are refused, and tell nothing: the law HeapNone returns true for every value and every text. No condition.
-/
namespace Go.Proofs.YthejclgihhfenaaGreat.heapNone
open Go.ChangeShapes Go.WideShapes Go.ChangeAt Go.RowKit Go.Deep Go.Joins
open Go.Proofs.YthejclgihhfenaaGreat.Pl Go.Proofs.YthejclgihhfenaaGreat.Tb Go.Proofs.YthejclgihhfenaaGreat.Hp
open Go.ChangeMaps (open_string shut_string)

theorem own : ownKnob Tryz.prog.godebug = none := by kernel_rfl
theorem laidOut : laidOutB Tryz.prog = true := by kernel_rfl

set_option maxRecDepth 100000 in
theorem val_lies {H : Type} {enc : TypeId × Value → H} {w : World} {base b0 : Nat} {r : Reach} {spare : Nat → Bool} {held : Bool} {v : Value} {d : DataW H} {p : List MemPlace} (hv : Value.okWide Tryz.prog w r b0 37 v) (h : DataW.Trod enc Tryz.prog w base spare held 37 v d p) :
    ∃ k : Vl, v = k.val ∧ k.In := by
  obtain ⟨c0, c1, y0, y1, m, rfl, rfl, rfl, hy0, hy1⟩ := open_agg2 Tryz.underlying37 (by kernel_rfl) (by kernel_rfl) hv h
  obtain ⟨a, e0, _, wa⟩ := DataW.trod_int Tryz.underlying35 hy0
  obtain ⟨n, e1, _, wn⟩ := DataW.trod_int Tryz.underlying2 hy1
  obtain rfl := (List.cons.inj e0).1
  obtain rfl := (List.cons.inj e1).1
  have hk := bounds_u8 wa
  refine ⟨⟨a.toNat, n⟩, ?_, ⟨by dsimp only; omega, bounds_i64 wn⟩⟩
  unfold Vl.val Vl.cells
  dsimp only
  rw [Int.toNat_of_nonneg hk.1]

set_option maxRecDepth 100000 in
theorem lifted (HP : HeapP) (HS : HeapSays HP) (DP : World → Value → Prop) (D : DeadSays DP) (os : Os) (started : os.Started) (H : Type) (enc : TypeId × Value → H) :
    ReturnsInHanded {} Tryz.checked os 4 .any (Rows.heapNoneSpec.pre6 enc Tryz.prog Tryz.f4 Rows.heapNoneRow.domain false) (Rows.heapNoneSpec.post enc Tryz.prog Tryz.f4 false true false false) := by
  refine returnsInHanded_of_change (C := Tryz.checked) own started (by kernel_rfl) Tryz.func4
    (ChangeSpec.witness6 (enc := enc) (C := Tryz.checked) false ⟨#[], #[.agg #[.int .u8 0, .int .i64 0], .string ByteArray.empty], []⟩ 8 (by kernel_rfl) (by kernel_rfl) (by kernel_rfl) (by kernel_rfl)) ?_
  intro W base args ds gs before hval0 hW _ hsz0
  have hval : ∀ (j : Nat) t v, Tryz.f4.params[j]? = some t → args[j]? = some v → Value.okWide Tryz.prog W .any base t v := hval0
  have hW' := hW
  obtain ⟨p, q, hA0, hV, rfl, hfz, hnd⟩ := hW
  have hA : DataW.TrodAll enc Tryz.prog W 0 (fun _ => true) true Tryz.f4.params.toList args.toList ds p := hA0
  rw [Tryz.params4] at hA hval
  obtain ⟨v0, vs0, d0, ds0, p0, q0, hargs, rfl, rfl, h0, r0⟩ := trodAll_cons hA
  obtain ⟨v1, vs1, d1, ds1, p1, q1, rfl, rfl, rfl, h1, r1⟩ := trodAll_cons r0
  obtain ⟨rfl, rfl, rfl⟩ := trodAll_nil r1
  obtain rfl : args = #[v0, v1] := by cases args; simp_all
  obtain ⟨rfl, rfl⟩ := trodVars_none hV
  have h0k := h0
  obtain ⟨v, rfl, hv⟩ := val_lies (hval 0 37 v0 rfl rfl) h0
  obtain ⟨s, rfl, rfl, rfl, w1⟩ := open_string Tryz.underlying9 (hval 1 9 v1 rfl rfl) h1
  clear hA0 hval0 hsz0
  simp only [List.append_nil] at hW'
  have hlt : ∀ x ∈ p0, x.block < W.heap.size := fun x hx => by simpa using hW'.lt x (by simpa using hx)
  have hback0 : ∀ (W' : World), Below W.heap.size W W' → DataW.Trod enc Tryz.prog W' 0 (fun b => decide (b < W.heap.size)) true 37 v.val d0 p0 :=
    fun W' hn => Below.trod laidOut (by kernel_rfl) (of_decide_eq_true (by kernel_rfl)) h0k hn hlt
  refine (none_walk HP HS DP D v hv s W).mono fun e W' ⟨he, hg⟩ => ?_
  subst he
  exact ⟨_, rfl, _, _, _, [], _, [], hW', (trodAll_cons_mk (shut_bool Tryz.underlying4 _) trodAll_mk0), (trodAll_cons_mk (hback0 _ hg) (trodAll_cons_mk (shut_string Tryz.underlying9 w1) trodAll_mk0)), rfl, hg.frame _, fun h => by cases h⟩

theorem over (HP : HeapP) (HS : HeapSays HP) (DP : World → Value → Prop) (D : DeadSays DP) : Rows.heapNoneRow.holds Tryz.pinned (OpenSpec.ofChange Rows.heapNoneSpec) :=
  OpenClaim.holds_of_wide 4 Tryz.f4 rfl rfl rfl rfl rfl rfl rfl ⟨rfl, rfl, rfl, rfl, rfl⟩ rfl rfl rfl rfl rfl (by kernel_rfl) Tryz.func4 (by kernel_rfl)
    (of_decide_eq_true (by kernel_rfl)) (by unfold Func.isWrapper; first | (rw [if_pos (by decide +kernel)]; kernel_rfl) | (rw [if_neg (by decide +kernel)]; exact ⟨rfl, rfl⟩))
    (fun os started H enc _ => lifted HP HS DP D os started H enc)
end Go.Proofs.YthejclgihhfenaaGreat.heapNone

/-
  Maps whose keys are values (api.Value): what a key reads as. Nothing of one layer.
-/
namespace Go.Proofs.YthejclgihhfenaaGreat.Vm
open Go Go.RowKit Go.Proofs.YthejclgihhfenaaGreat.Pl Go.Proofs.YthejclgihhfenaaGreat.Tb Go.Maps Go.WideShapes

theorem laidOutV : laidOutB Tryz.prog = true := by kernel_rfl
theorem wideV : (match Tryz.prog.underlying 37 with | some (.array _ _) | some (.struct _) => true | _ => false) = true := by rw [Tryz.underlying37]
theorem rowV : (37 : TypeId) < Tryz.prog.types.size := of_decide_eq_true (by kernel_rfl)
theorem keyTypeV : Tryz.prog.keyTypeAt 2 37 = true := by kernel_rfl
set_option maxRecDepth 1000000 in
theorem keyLawV : WideMaps.KeyLaw Tryz.prog 37 := deep_law_laid laidOutV (m := 2) (Nat.le_of_ble_eq_true rfl) rowV keyTypeV wideV
theorem keyedV : Keyed Tryz.prog 37 := Keyed.of_law keyLawV
theorem cellsOfV : Tryz.prog.cellsOf 37 = 2 := by kernel_rfl
theorem cellsOfK : Tryz.prog.cellsOf 35 = 1 := by kernel_rfl
theorem cellsOfN : Tryz.prog.cellsOf 2 = 1 := by kernel_rfl
theorem keyTyV : Tryz.prog.keyType 37 = true := by kernel_rfl
theorem litsV (d : Nat) (k n : Int) (w0 : (Lit.int .u8 k).wf = true) (w1 : (Lit.int .i64 n).wf = true) : Tryz.prog.keyLits (d + 1 + 1) 37 [.int .u8 k, .int .i64 n] = some [.int .u8 k, .int .i64 n] := by
  have e0 : Tryz.prog.keyLits (d + 1) 35 [.int .u8 k] = some [.int .u8 k] := by
    unfold Program.keyLits
    rw [Tryz.underlying35]
    simp [w0]
  have e1 : Tryz.prog.keyLits (d + 1) 2 [.int .i64 n] = some [.int .i64 n] := by
    unfold Program.keyLits
    rw [Tryz.underlying2]
    simp [w1]
  unfold Program.keyLits
  rw [Tryz.underlying37]
  simp [cellsOfV, cellsOfK, cellsOfN, e0, e1]
/-- What a value reads as, where it is a key. -/
def kV (v : Vl) : Lit := .string (keyBytes [.int .u8 (v.kind : Int), .int .i64 v.n])
set_option maxRecDepth 100000 in
theorem kV_of (v : Vl) (h : v.In) : keyOf Tryz.prog 37 v.val = some (kV v) := by
  obtain ⟨k, n⟩ := v
  obtain ⟨h1, h2, h3⟩ := h
  dsimp only at h1 h2 h3
  have w0 : (Lit.int .u8 (k : Int)).wf = true := WalkArith.wf_u8 (by constructor <;> omega)
  have w1 : (Lit.int .i64 n).wf = true := WalkArith.wf_i64 ⟨h2, h3⟩
  have hf : Value.formed Tryz.prog 37 (.agg #[.int .u8 (k : Int), .int .i64 n]) = true := by simp [Value.formed, Tryz.underlying37, cellsOfV]
  obtain ⟨d, hd⟩ : ∃ d, Tryz.prog.types.size + 1 = d + 1 + 1 := ⟨Tryz.prog.types.size - 1, by kernel_rfl⟩
  show keyOf Tryz.prog 37 (.agg #[.int .u8 (k : Int), .int .i64 n]) = _
  unfold keyOf
  rw [Tryz.underlying37]
  dsimp only
  rw [keyTyV, hf, Bool.and_self, if_pos rfl, hd]
  rw [show (Value.agg #[.int .u8 (k : Int), .int .i64 n]).cells.toList = [.int .u8 (k : Int), .int .i64 n] from rfl, litsV d k n w0 w1]
  rfl
theorem kV_key (v : Vl) : WideAt.IsKeyLit (kV v) := by unfold kV WideAt.IsKeyLit; trivial
set_option maxRecDepth 100000 in
theorem kV_ne {a b : Vl} (ha : a.In) (hb : b.In) (h : a ≠ b) : kV a ≠ kV b := fun e => h (by
  have h1 := kV_of a ha
  have h2 := kV_of b hb
  rw [← e] at h2
  have h3 := keyedV.inj h1 h2
  obtain ⟨ak, an⟩ := a
  obtain ⟨bk, bn⟩ := b
  have h3 : Value.agg #[.int .u8 (ak : Int), .int .i64 an] = .agg #[.int .u8 (bk : Int), .int .i64 bn] := h3
  injection h3 with h3
  have h4 := congrArg Array.toList h3
  injection h4 with h5 h6
  injection h6 with h6
  injection h5 with _ h5
  injection h6 with _ h6
  rw [Vl.mk.injEq]
  exact ⟨by omega, h6⟩)
end Go.Proofs.YthejclgihhfenaaGreat.Vm

/-
  Layer 13: the developers' map of keys to places, in a block of the table's own, as a function of its keys.
-/
namespace Go.Proofs.YthejclgihhfenaaGreat.Td
open Go Go.RowKit Go.Proofs.YthejclgihhfenaaGreat.Pl Go.Proofs.YthejclgihhfenaaGreat.Tb Go.Proofs.YthejclgihhfenaaGreat.Vm Go.Maps Go.WideShapes

/-- A place's pointer: none, or a block. -/
def ptrP : Option Nat → Value
  | none => .pointer none
  | some g => .pointer (some ⟨g, 0, none⟩)
def litP : Option Nat → Lit
  | none => .int .i64 (-1)
  | some g => .int .i64 g
theorem litP_inj {a b : Option Nat} (h : litP a = litP b) : a = b := by
  cases a with
  | none => cases b with
    | none => rfl
    | some g => injection h with _ h; omega
  | some f => cases b with
    | none => injection h with _ h; omega
    | some g => injection h with _ h; rw [show f = g by omega]
/-- What an element reads as. -/
def pElem (v : Value) : Option (DataW Unit × List MemPlace) :=
  match v with
  | .pointer none => some (.lit (litP none), [])
  | .pointer (some ⟨g, 0, none⟩) => some (.lit (litP (some g)), [])
  | _ => none
theorem pElem_of (u : Option Nat) : pElem (ptrP u) = some (.lit (litP u), []) := by
  cases u <;> rfl
theorem pElem_inv {v : Value} {z : DataW Unit × List MemPlace} (h : pElem v = some z) : ∃ u : Option Nat, v = ptrP u ∧ z = (.lit (litP u), []) := by
  unfold pElem at h
  split at h
  · exact ⟨none, rfl, (Option.some.inj h).symm⟩
  · rename_i g
    exact ⟨some g, rfl, (Option.some.inj h).symm⟩
  · cases h
abbrev mapT : TypeId := 137
theorem zeroP (w : World) : (zeroValue 138).run Tryz.prog w = .ok (ptrP none) w := by kernel_rfl
/-- A map's block, of sz entries, that holds f. -/
def PMapIs (M : Obj) (sz : Nat) (f : Vl → Option Nat) : Prop := ∃ D : DataW Unit, Maps.size D = sz ∧ (∀ (w : World) (mb : Nat), w.heap[mb]? = some M → w.ownsMap Tryz.prog 37 pElem mb sz D) ∧
  ∀ v : Vl, v.In → Maps.has D (kV v) = (f v).isSome ∧ D.atKey (kV v) (.lit (litP none)) = .lit (litP (f v))
theorem pmap_new : PMapIs (.map #[] 0) 0 (fun _ => none) :=
  ⟨.map [], rfl, fun w mb h => ⟨#[], 0, h, ⟨by simp, MapKept.stamped_empty 0, by simp⟩, Nat.le_refl _, rfl⟩, fun k _ => ⟨rfl, rfl⟩⟩
section
variable {M : Obj} {sz : Nat} {f : Vl → Option Nat} {w : World} {mb : Nat}
theorem owns_sharp {D : DataW Unit} {N : Nat} (h : w.ownsMap Tryz.prog 37 pElem mb N D) : w.ownsMap Tryz.prog 37 pElem mb (Maps.size D) D := by
  obtain ⟨es, c, hb, F, _, rfl⟩ := h
  refine ⟨es, c, hb, F, ?_, rfl⟩
  simp [Maps.size, length_sorted]
theorem PMapIs.congr {g : Vl → Option Nat} (h : PMapIs M sz f) (e : ∀ k, g k = f k) : PMapIs M sz g := by
  rw [show g = f from funext e]; exact h
theorem PMapIs.is_map (h : PMapIs M sz f) (w : World) (hb : w.heap[mb]? = some M) : ∃ es c, M = .map es c := by
  obtain ⟨D, _, ho, _⟩ := h
  obtain ⟨es, c, h1, _⟩ := ho w mb hb
  rw [hb] at h1
  exact ⟨es, c, Option.some.inj h1⟩
set_option maxRecDepth 100000 in
theorem PMapIs.look_ok (h : PMapIs M sz f) (hb : w.heap[mb]? = some M) (k : Vl) (hk : k.In) : (Instr.lookup mapT (.map (some mb)) k.val true).run Tryz.prog w = .ok (.tuple #[ptrP (f k), .bool (f k).isSome]) w := by
  obtain ⟨D, _, ho, hf⟩ := h
  obtain ⟨v, ps, hrun, hv⟩ := (ho w mb hb).look_ok keyedV Tryz.underlying137 (zeroP _) (pElem_of none) (kV_of k hk)
  obtain ⟨u, rfl, hc⟩ := pElem_inv hv
  have hat : D.atKey (kV k) (.lit (litP none)) = .lit (litP u) := congrArg Prod.fst hc
  have h2 := (hf k hk).2
  rw [hat] at h2
  have he : u = f k := litP_inj (by injection h2)
  rw [hrun, (hf k hk).1, he]
/-- What a map's store or a drop leaves. -/
def PMapGoes (mb sz : Nat) (f : Vl → Option Nat) (w w' : World) : Prop := ∃ M, w'.heap[mb]? = some M ∧ PMapIs M sz f ∧ Turns [mb] w w' ∧ w'.heap.size = w.heap.size
theorem pgoes_of {D : DataW Unit} {N : Nat} {w' : World} (hs : Maps.size D = sz) (ho : w'.ownsMap Tryz.prog 37 pElem mb N D) (hf : ∀ v : Vl, v.In → Maps.has D (kV v) = (f v).isSome ∧ D.atKey (kV v) (.lit (litP none)) = .lit (litP (f v))) (ht : w.mapTurned w' mb) : PMapGoes mb sz f w w' := by
  have ho2 := owns_sharp ho
  rw [hs] at ho2
  obtain ⟨es, c, hb, hr⟩ := ho2
  have hz : w'.heap.size = w.heap.size := by
    obtain ⟨_, _, _, _, _, rfl⟩ := ht
    simp [ChangeMaps.setBlock]
  have hg := ht.grown
  exact ⟨_, hb, ⟨D, hs, fun w2 mb2 h2 => ⟨es, c, h2, hr⟩, hf⟩, ⟨hg.os, hg.tape, hg.output, hg.size, fun k hk hn => hg.block k hk (fun e => hn (by injection e with e; rw [e]; exact List.mem_singleton.2 rfl))⟩, hz⟩
set_option maxRecDepth 100000 in
theorem PMapIs.store (h : PMapIs M sz f) (hb : w.heap[mb]? = some M) (hN : sz < 1000000) (k : Vl) (g : Nat) (hk : k.In) : ∃ w', (Instr.mapUpdate mapT (.map (some mb)) k.val (ptrP (some g))).run Tryz.prog w = .ok () w' ∧ PMapGoes mb (if (f k).isSome then sz else sz + 1) (fun j => if j = k then some g else f j) w w' := by
  obtain ⟨D, hs, ho, hf⟩ := h
  obtain ⟨w', hrun, h1, h2⟩ := (ho w mb hb).store keyedV Tryz.underlying137 (by unfold maxLen; omega) (kV_of k hk) (pElem_of (some g))
  have hD := (ho w mb hb).isMap
  have htd := (ho w mb hb).tidy keyedV
  refine ⟨w', hrun, pgoes_of ?_ h1 (fun j hj => ?_) h2⟩
  · rw [size_put htd, (hf k hk).1, hs]
  · by_cases e : j = k
    · subst e
      rw [if_pos rfl]
      exact ⟨has_put_same hD (kV_key _) _, atKey_put_same hD (kV_key _) _ _⟩
    · rw [if_neg e, has_put_other (kV_ne hj hk e), atKey_put_other (kV_ne hj hk e)]
      exact hf j hj
set_option maxRecDepth 100000 in
theorem PMapIs.drop (h : PMapIs M sz f) (hb : w.heap[mb]? = some M) (k : Vl) (hk : k.In) (ty : TypeId) : ∃ w', (Builtin.delete_ #[mapT, 37] ty #[.map (some mb), k.val]).run Tryz.prog w = .ok (.tuple #[]) w' ∧ PMapGoes mb (if (f k).isSome then sz - 1 else sz) (fun j => if j = k then none else f j) w w' := by
  obtain ⟨D, hs, ho, hf⟩ := h
  obtain ⟨w', hrun, h1, h2⟩ := (ho w mb hb).drop keyedV Tryz.underlying137 (kV_of k hk) ty
  have htd := (ho w mb hb).tidy keyedV
  have hsz := size_del (k := kV k) htd
  rw [(hf k hk).1, hs] at hsz
  refine ⟨w', hrun, pgoes_of ?_ h1 (fun j hj => ?_) h2⟩
  · cases hk2 : (f k).isSome with
    | true => rw [hk2] at hsz; simp at hsz ⊢; omega
    | false => rw [hk2] at hsz; simp at hsz ⊢; omega
  · by_cases e : j = k
    · subst e
      rw [if_pos rfl]
      exact ⟨has_del_same, atKey_del_same _⟩
    · rw [if_neg e, has_del_other (kV_ne hj hk e), atKey_del_other (kV_ne hj hk e)]
      exact hf j hj
end
end Go.Proofs.YthejclgihhfenaaGreat.Td

/-
  Layer 13: places that are tied to one another: what stands in memory between one and the next.
-/
namespace Go.Proofs.YthejclgihhfenaaGreat.Td
open Go Go.RowKit Go.Proofs.YthejclgihhfenaaGreat.Pl Go.Proofs.YthejclgihhfenaaGreat.Tb

/-- A block of cells of a type. -/
def Shape (w : World) (b : Nat) (T : TypeId) (n : Nat) : Prop := ∃ cs, w.heap[b]? = some (.cells cs T (0, 0)) ∧ cs.size = n
section
variable {w w' : World} {b n : Nat} {T : TypeId} {a c : Addr} {v x : Value}
theorem Shape.set (h : Shape w b T n) : Shape (w.setCell a x) b T n := by
  obtain ⟨cs, h, hs⟩ := h
  by_cases e : b = a.block
  · subst e
    refine ⟨if a.spot.isSome then cs else cs.setIfInBounds a.off x, ?_, by split <;> simp [hs]⟩
    simp only [World.setCell, Array.getElem?_modify, ↓reduceIte, h, Option.map_some]
  · exact ⟨cs, by rw [heap_setCell_other _ _ _ _ e]; exact h, hs⟩
theorem Shape.free (h : Shape w b T n) (j : Nat) : w.frozen? ⟨b, j, none⟩ = false := by
  obtain ⟨cs, h, _⟩ := h
  exact free_of h j
theorem Shape.lt (h : Shape w b T n) : b < w.heap.size := by
  obtain ⟨cs, h, _⟩ := h
  exact lt_of_get h
theorem Shape.turns {G : List Nat} (h : Shape w b T n) (ht : Turns G w w') (hn : b ∉ G) : Shape w' b T n := by
  obtain ⟨cs, h, hs⟩ := h
  exact ⟨cs, by rw [ht.block b (lt_of_get h) hn]; exact h, hs⟩
theorem cell_keep (h : w.cell? c = some v) (hne : a ≠ c) : (w.setCell a x).cell? c = some v := by
  rw [World.cell?_setCell_other w a c x hne]; exact h
theorem cell_put (h : w.cell? a = some v) : (w.setCell a x).cell? a = some x := World.cell?_setCell_same w a x h
theorem cell_turns {G : List Nat} (h : w.cell? c = some v) (ht : Turns G w w') (hn : c.block ∉ G) : w'.cell? c = some v := by
  rw [World.cell?_of_block (w := w) (w' := w') (ht.block c.block (World.block_lt_of_cell? _ _ h) hn)]; exact h
end
/-- x leads to y, and y back to x. -/
def Link (w : World) (x y : Addr) : Prop := w.cell? ⟨x.block, x.off + 5, none⟩ = some (.pointer (some y)) ∧ w.cell? ⟨y.block, y.off + 4, none⟩ = some (.pointer (some x))
def Links (w : World) : List Addr → Prop
  | [] => True
  | [_] => True
  | x :: y :: r => Link w x y ∧ Links w (y :: r)
section
variable {w w' : World}
theorem links_cons {x y : Addr} {r : List Addr} : Links w (x :: y :: r) ↔ Link w x y ∧ Links w (y :: r) := Iff.rfl
theorem links_app : ∀ (P : List Addr) (x : Addr) (S : List Addr), Links w (P ++ x :: S) ↔ Links w (P ++ [x]) ∧ Links w (x :: S)
  | [], x, S => ⟨fun h => ⟨trivial, h⟩, fun h => h.2⟩
  | [p], x, S => by
    show Links w (p :: x :: S) ↔ Links w (p :: x :: []) ∧ _
    rw [links_cons, links_cons]
    exact ⟨fun h => ⟨⟨h.1, trivial⟩, h.2⟩, fun h => ⟨h.1.1, h.2⟩⟩
  | p :: q :: P, x, S => by
    show Links w (p :: q :: (P ++ x :: S)) ↔ Links w (p :: q :: (P ++ [x])) ∧ _
    rw [links_cons, links_cons]
    have := links_app (q :: P) x S
    rw [List.cons_append, List.cons_append] at this
    rw [this, and_assoc]
theorem links_turns {G : List Nat} (ht : Turns G w w') : ∀ (L : List Addr), (∀ z ∈ L, z.block ∉ G) → Links w L → Links w' L
  | [], _, _ => trivial
  | [_], _, _ => trivial
  | x :: y :: r, hn, h => ⟨⟨cell_turns h.1.1 ht (hn x (List.mem_cons_self ..)), cell_turns h.1.2 ht (hn y (List.mem_cons_of_mem _ (List.mem_cons_self ..)))⟩,
    links_turns ht (y :: r) (fun z hz => hn z (List.mem_cons_of_mem _ hz)) h.2⟩
/-- A store that is no link's. -/
theorem links_set {a : Addr} {v : Value} : ∀ (L : List Addr), (∀ z ∈ L, a ≠ ⟨z.block, z.off + 5, none⟩ ∧ a ≠ ⟨z.block, z.off + 4, none⟩) → Links w L → Links (w.setCell a v) L
  | [], _, _ => trivial
  | [_], _, _ => trivial
  | x :: y :: r, hn, h => ⟨⟨cell_keep h.1.1 (hn x (List.mem_cons_self ..)).1, cell_keep h.1.2 (hn y (List.mem_cons_of_mem _ (List.mem_cons_self ..))).2⟩,
    links_set (y :: r) (fun z hz => hn z (List.mem_cons_of_mem _ hz)) h.2⟩
theorem addr_ne5 {x z : Addr} (h : z.block ≠ x.block) : (⟨x.block, x.off + 5, none⟩ : Addr) ≠ ⟨z.block, z.off + 5, none⟩ := fun e => h (by injection e with e; exact e.symm)
theorem addr_ne4 {x z : Addr} (h : z.block ≠ x.block) : (⟨x.block, x.off + 4, none⟩ : Addr) ≠ ⟨z.block, z.off + 4, none⟩ := fun e => h (by injection e with e; exact e.symm)
theorem addr_ne54 {x z : Addr} (h : z.block = x.block → z.off = x.off) : (⟨x.block, x.off + 5, none⟩ : Addr) ≠ ⟨z.block, z.off + 4, none⟩ := fun e => by
  injection e with e1 e2
  have := h e1.symm
  omega
theorem addr_ne45 {x z : Addr} (h : z.block = x.block → z.off = x.off) : (⟨x.block, x.off + 4, none⟩ : Addr) ≠ ⟨z.block, z.off + 5, none⟩ := fun e => by
  injection e with e1 e2
  have := h e1.symm
  omega
/-- x is led elsewhere: where no other leads from x. -/
theorem links_set5 {x : Addr} {v : Value} : ∀ (L : List Addr), (∀ z ∈ L, z.block = x.block → z.off = x.off) → (∀ z ∈ L.dropLast, z.block ≠ x.block) → Links w L → Links (w.setCell ⟨x.block, x.off + 5, none⟩ v) L
  | [], _, _, _ => trivial
  | [_], _, _, _ => trivial
  | p :: q :: r, h1, h2, h => ⟨⟨cell_keep h.1.1 (addr_ne5 (h2 p (by rw [List.dropLast_cons_cons]; exact List.mem_cons_self ..))), cell_keep h.1.2 (addr_ne54 (h1 q (List.mem_cons_of_mem _ (List.mem_cons_self ..))))⟩,
    links_set5 (q :: r) (fun z hz => h1 z (List.mem_cons_of_mem _ hz)) (fun z hz => h2 z (by rw [List.dropLast_cons_cons]; exact List.mem_cons_of_mem _ hz)) h.2⟩
theorem links_set4 {x : Addr} {v : Value} : ∀ (L : List Addr), (∀ z ∈ L, z.block = x.block → z.off = x.off) → (∀ z ∈ L.tail, z.block ≠ x.block) → Links w L → Links (w.setCell ⟨x.block, x.off + 4, none⟩ v) L
  | [], _, _, _ => trivial
  | [_], _, _, _ => trivial
  | p :: q :: r, h1, h2, h => ⟨⟨cell_keep h.1.1 (addr_ne45 (h1 p (List.mem_cons_self ..))), cell_keep h.1.2 (addr_ne4 (h2 q (List.mem_cons_self ..)))⟩,
    links_set4 (q :: r) (fun z hz => h1 z (List.mem_cons_of_mem _ hz)) (fun z hz => h2 z (List.mem_cons_of_mem _ hz)) h.2⟩
end
end Go.Proofs.YthejclgihhfenaaGreat.Td
