/-
  Layer 13: the developers' map of keys to places, in a block of the table's own, as a function of its keys.
-/
import Derived.Test.YtlpbciclkagnbaaVmKey
namespace Go.Proofs.Ytlpbciclkagnbaa.Td
open Go Go.RowKit Go.Proofs.Ytlpbciclkagnbaa.Pl Go.Proofs.Ytlpbciclkagnbaa.Tb Go.Proofs.Ytlpbciclkagnbaa.Vm Go.Maps Go.WideShapes

/-- A place's pointer: none, or a block. -/
def ptrP : Option Nat → Value
  | none => .pointer none
  | some g => .pointer (some ⟨g, 0, none⟩)
def litP : Option Nat → Lit
  | none => .int .i64 (-1)
  | some g => .int .i64 g
theorem litP_inj {a b : Option Nat} (h : litP a = litP b) : a = b := by
  cases a with
  | none => cases b with
    | none => rfl
    | some g => injection h with _ h; omega
  | some f => cases b with
    | none => injection h with _ h; omega
    | some g => injection h with _ h; rw [show f = g by omega]
/-- What an element reads as. -/
def pElem (v : Value) : Option (DataW Unit × List MemPlace) :=
  match v with
  | .pointer none => some (.lit (litP none), [])
  | .pointer (some ⟨g, 0, none⟩) => some (.lit (litP (some g)), [])
  | _ => none
theorem pElem_of (u : Option Nat) : pElem (ptrP u) = some (.lit (litP u), []) := by
  cases u <;> rfl
theorem pElem_inv {v : Value} {z : DataW Unit × List MemPlace} (h : pElem v = some z) : ∃ u : Option Nat, v = ptrP u ∧ z = (.lit (litP u), []) := by
  unfold pElem at h
  split at h
  · exact ⟨none, rfl, (Option.some.inj h).symm⟩
  · rename_i g
    exact ⟨some g, rfl, (Option.some.inj h).symm⟩
  · cases h
abbrev mapT : TypeId := 26
theorem zeroP (w : World) : (zeroValue 27).run Try.prog w = .ok (ptrP none) w := by kernel_rfl
/-- A map's block, of sz entries, that holds f. -/
def PMapIs (M : Obj) (sz : Nat) (f : Vl → Option Nat) : Prop := ∃ D : DataW Unit, Maps.size D = sz ∧ (∀ (w : World) (mb : Nat), w.heap[mb]? = some M → w.ownsMap Try.prog 24 pElem mb sz D) ∧
  ∀ v : Vl, v.In → Maps.has D (kV v) = (f v).isSome ∧ D.atKey (kV v) (.lit (litP none)) = .lit (litP (f v))
theorem pmap_new : PMapIs (.map #[] 0) 0 (fun _ => none) :=
  ⟨.map [], rfl, fun w mb h => ⟨#[], 0, h, ⟨by simp, MapKept.stamped_empty 0, by simp⟩, Nat.le_refl _, rfl⟩, fun k _ => ⟨rfl, rfl⟩⟩
section
variable {M : Obj} {sz : Nat} {f : Vl → Option Nat} {w : World} {mb : Nat}
theorem owns_sharp {D : DataW Unit} {N : Nat} (h : w.ownsMap Try.prog 24 pElem mb N D) : w.ownsMap Try.prog 24 pElem mb (Maps.size D) D := by
  obtain ⟨es, c, hb, F, _, rfl⟩ := h
  refine ⟨es, c, hb, F, ?_, rfl⟩
  simp [Maps.size, length_sorted]
theorem PMapIs.congr {g : Vl → Option Nat} (h : PMapIs M sz f) (e : ∀ k, g k = f k) : PMapIs M sz g := by
  rw [show g = f from funext e]; exact h
theorem PMapIs.is_map (h : PMapIs M sz f) (w : World) (hb : w.heap[mb]? = some M) : ∃ es c, M = .map es c := by
  obtain ⟨D, _, ho, _⟩ := h
  obtain ⟨es, c, h1, _⟩ := ho w mb hb
  rw [hb] at h1
  exact ⟨es, c, Option.some.inj h1⟩
set_option maxRecDepth 100000 in
theorem PMapIs.look_ok (h : PMapIs M sz f) (hb : w.heap[mb]? = some M) (k : Vl) (hk : k.In) : (Instr.lookup mapT (.map (some mb)) k.val true).run Try.prog w = .ok (.tuple #[ptrP (f k), .bool (f k).isSome]) w := by
  obtain ⟨D, _, ho, hf⟩ := h
  obtain ⟨v, ps, hrun, hv⟩ := (ho w mb hb).look_ok keyedV Try.underlying26 (zeroP _) (pElem_of none) (kV_of k hk)
  obtain ⟨u, rfl, hc⟩ := pElem_inv hv
  have hat : D.atKey (kV k) (.lit (litP none)) = .lit (litP u) := congrArg Prod.fst hc
  have h2 := (hf k hk).2
  rw [hat] at h2
  have he : u = f k := litP_inj (by injection h2)
  rw [hrun, (hf k hk).1, he]
/-- What a map's store or a drop leaves. -/
def PMapGoes (mb sz : Nat) (f : Vl → Option Nat) (w w' : World) : Prop := ∃ M, w'.heap[mb]? = some M ∧ PMapIs M sz f ∧ Turns [mb] w w' ∧ w'.heap.size = w.heap.size
theorem pgoes_of {D : DataW Unit} {N : Nat} {w' : World} (hs : Maps.size D = sz) (ho : w'.ownsMap Try.prog 24 pElem mb N D) (hf : ∀ v : Vl, v.In → Maps.has D (kV v) = (f v).isSome ∧ D.atKey (kV v) (.lit (litP none)) = .lit (litP (f v))) (ht : w.mapTurned w' mb) : PMapGoes mb sz f w w' := by
  have ho2 := owns_sharp ho
  rw [hs] at ho2
  obtain ⟨es, c, hb, hr⟩ := ho2
  have hz : w'.heap.size = w.heap.size := by
    obtain ⟨_, _, _, _, _, rfl⟩ := ht
    simp [ChangeMaps.setBlock]
  have hg := ht.grown
  exact ⟨_, hb, ⟨D, hs, fun w2 mb2 h2 => ⟨es, c, h2, hr⟩, hf⟩, ⟨hg.os, hg.tape, hg.output, hg.size, fun k hk hn => hg.block k hk (fun e => hn (by injection e with e; rw [e]; exact List.mem_singleton.2 rfl))⟩, hz⟩
set_option maxRecDepth 100000 in
theorem PMapIs.store (h : PMapIs M sz f) (hb : w.heap[mb]? = some M) (hN : sz < 1000000) (k : Vl) (g : Nat) (hk : k.In) : ∃ w', (Instr.mapUpdate mapT (.map (some mb)) k.val (ptrP (some g))).run Try.prog w = .ok () w' ∧ PMapGoes mb (if (f k).isSome then sz else sz + 1) (fun j => if j = k then some g else f j) w w' := by
  obtain ⟨D, hs, ho, hf⟩ := h
  obtain ⟨w', hrun, h1, h2⟩ := (ho w mb hb).store keyedV Try.underlying26 (by unfold maxLen; omega) (kV_of k hk) (pElem_of (some g))
  have hD := (ho w mb hb).isMap
  have htd := (ho w mb hb).tidy keyedV
  refine ⟨w', hrun, pgoes_of ?_ h1 (fun j hj => ?_) h2⟩
  · rw [size_put htd, (hf k hk).1, hs]
  · by_cases e : j = k
    · subst e
      rw [if_pos rfl]
      exact ⟨has_put_same hD (kV_key _) _, atKey_put_same hD (kV_key _) _ _⟩
    · rw [if_neg e, has_put_other (kV_ne hj hk e), atKey_put_other (kV_ne hj hk e)]
      exact hf j hj
set_option maxRecDepth 100000 in
theorem PMapIs.drop (h : PMapIs M sz f) (hb : w.heap[mb]? = some M) (k : Vl) (hk : k.In) (ty : TypeId) : ∃ w', (Builtin.delete_ #[mapT, 24] ty #[.map (some mb), k.val]).run Try.prog w = .ok (.tuple #[]) w' ∧ PMapGoes mb (if (f k).isSome then sz - 1 else sz) (fun j => if j = k then none else f j) w w' := by
  obtain ⟨D, hs, ho, hf⟩ := h
  obtain ⟨w', hrun, h1, h2⟩ := (ho w mb hb).drop keyedV Try.underlying26 (kV_of k hk) ty
  have htd := (ho w mb hb).tidy keyedV
  have hsz := size_del (k := kV k) htd
  rw [(hf k hk).1, hs] at hsz
  refine ⟨w', hrun, pgoes_of ?_ h1 (fun j hj => ?_) h2⟩
  · cases hk2 : (f k).isSome with
    | true => rw [hk2] at hsz; simp at hsz ⊢; omega
    | false => rw [hk2] at hsz; simp at hsz ⊢; omega
  · by_cases e : j = k
    · subst e
      rw [if_pos rfl]
      exact ⟨has_del_same, atKey_del_same _⟩
    · rw [if_neg e, has_del_other (kV_ne hj hk e), atKey_del_other (kV_ne hj hk e)]
      exact hf j hj
end
end Go.Proofs.Ytlpbciclkagnbaa.Td
