import Derived.Test.YthejclgihhfenaaGreatCm1
import Derived.Maps.OwnSet
import Derived.StringKeys
/-
  Maps of any keys and elements in a block of the call's own, as functions of their keys. Nothing of one layer.
-/
namespace Go.Proofs.YthejclgihhfenaaGreat.Vm
open Go Go.RowKit Go.Proofs.YthejclgihhfenaaGreat.Pl Go.Proofs.YthejclgihhfenaaGreat.Tb Go.Maps Go.WideShapes

/-- A kind of map: its types' numbers, how keys and elements stand as values and as literals, which keys may be asked, what a key that is not there tells. -/
structure MS (K E : Type) where
  mt : TypeId
  kt : TypeId
  et : TypeId
  kv : K → Value
  kl : K → Lit
  ok : K → Prop
  ev : E → Value
  ed : E → Lit
  e0 : E
structure MS.Ok {K E : Type} (S : MS K E) : Prop where
  map : Tryz.prog.underlying S.mt = some (.map S.kt S.et)
  keyed : Keyed Tryz.prog S.kt
  kof : ∀ k, S.ok k → keyOf Tryz.prog S.kt (S.kv k) = some (S.kl k)
  ne : ∀ a b, S.ok a → S.ok b → a ≠ b → S.kl a ≠ S.kl b
  key : ∀ k, WideAt.IsKeyLit (S.kl k)
  zero : ∀ w : World, (zeroValue S.et).run Tryz.prog w = .ok (S.ev S.e0) w
  vinj : ∀ a b, S.ev a = S.ev b → a = b
  dinj : ∀ a b, S.ed a = S.ed b → a = b
section
variable {K E : Type} {S : MS K E}
/-- What an element reads as. -/
noncomputable def MS.el (S : MS K E) (v : Value) : Option (DataW Unit × List MemPlace) :=
  open Classical in if h : ∃ u : E, v = S.ev u then some (.lit (S.ed h.choose), []) else none
theorem MS.Ok.el_of (T : S.Ok) (u : E) : S.el (S.ev u) = some (.lit (S.ed u), []) := by
  have hx : ∃ u' : E, S.ev u = S.ev u' := ⟨u, rfl⟩
  unfold MS.el
  rw [dif_pos hx, ← T.vinj _ _ hx.choose_spec]
theorem MS.Ok.el_inv {v : Value} {z : DataW Unit × List MemPlace} (h : S.el v = some z) : ∃ u : E, v = S.ev u ∧ z = (.lit (S.ed u), []) := by
  unfold MS.el at h
  split at h
  · rename_i hx
    exact ⟨hx.choose, hx.choose_spec, (Option.some.inj h).symm⟩
  · cases h
/-- A map's block, of sz entries, that holds f. -/
def GM (S : MS K E) (M : Obj) (sz : Nat) (f : K → Option E) : Prop := ∃ D : DataW Unit, Maps.size D = sz ∧ (∀ (w : World) (mb : Nat), w.heap[mb]? = some M → w.ownsMap Tryz.prog S.kt S.el mb sz D) ∧
  ∀ k, S.ok k → Maps.has D (S.kl k) = (f k).isSome ∧ D.atKey (S.kl k) (.lit (S.ed S.e0)) = .lit (S.ed ((f k).getD S.e0))
theorem gm_new (S : MS K E) : GM S (.map #[] 0) 0 (fun _ => none) :=
  ⟨.map [], rfl, fun w mb h => ⟨#[], 0, h, ⟨by simp, MapKept.stamped_empty 0, by simp⟩, Nat.le_refl _, rfl⟩, fun k _ => ⟨rfl, rfl⟩⟩
variable {M : Obj} {sz : Nat} {f : K → Option E} {w : World} {mb : Nat}
theorem gm_sharp {D : DataW Unit} {N : Nat} (h : w.ownsMap Tryz.prog S.kt S.el mb N D) : w.ownsMap Tryz.prog S.kt S.el mb (Maps.size D) D := by
  obtain ⟨es, c, hb, F, _, rfl⟩ := h
  refine ⟨es, c, hb, F, ?_, rfl⟩
  simp [Maps.size, length_sorted]
theorem GM.congr {g : K → Option E} (h : GM S M sz f) (e : ∀ k, g k = f k) : GM S M sz g := by
  rw [show g = f from funext e]; exact h
/-- Only the keys that may be asked count. -/
theorem GM.congr' {g : K → Option E} (h : GM S M sz f) (e : ∀ k, S.ok k → g k = f k) : GM S M sz g := by
  obtain ⟨D, h1, h2, h3⟩ := h
  exact ⟨D, h1, h2, fun k hk => by rw [e k hk]; exact h3 k hk⟩
theorem GM.is_map (h : GM S M sz f) (w : World) (mb : Nat) (hb : w.heap[mb]? = some M) : ∃ es c, M = .map es c := by
  obtain ⟨D, _, ho, _⟩ := h
  obtain ⟨es, c, h1, _⟩ := ho w mb hb
  rw [hb] at h1
  exact ⟨es, c, Option.some.inj h1⟩
set_option maxRecDepth 100000 in
theorem GM.look_ok (T : S.Ok) (h : GM S M sz f) (hb : w.heap[mb]? = some M) (k : K) (hk : S.ok k) : (Instr.lookup S.mt (.map (some mb)) (S.kv k) true).run Tryz.prog w = .ok (.tuple #[S.ev ((f k).getD S.e0), .bool (f k).isSome]) w := by
  obtain ⟨D, _, ho, hf⟩ := h
  obtain ⟨v, ps, hrun, hv⟩ := (ho w mb hb).look_ok T.keyed T.map (T.zero _) (T.el_of S.e0) (T.kof k hk)
  obtain ⟨u, rfl, hc⟩ := MS.Ok.el_inv hv
  have hat : D.atKey (S.kl k) (.lit (S.ed S.e0)) = .lit (S.ed u) := congrArg Prod.fst hc
  rw [(hf k hk).2] at hat
  have he : (f k).getD S.e0 = u := T.dinj _ _ (by injection hat)
  rw [hrun, (hf k hk).1, he]
set_option maxRecDepth 100000 in
theorem GM.look (T : S.Ok) (h : GM S M sz f) (hb : w.heap[mb]? = some M) (k : K) (hk : S.ok k) : (Instr.lookup S.mt (.map (some mb)) (S.kv k) false).run Tryz.prog w = .ok (S.ev ((f k).getD S.e0)) w := by
  obtain ⟨D, _, ho, hf⟩ := h
  obtain ⟨v, ps, hrun, hv⟩ := (ho w mb hb).lookup T.keyed T.map (T.zero _) (T.el_of S.e0) (T.kof k hk)
  obtain ⟨u, rfl, hc⟩ := MS.Ok.el_inv hv
  have hat : D.atKey (S.kl k) (.lit (S.ed S.e0)) = .lit (S.ed u) := congrArg Prod.fst hc
  rw [(hf k hk).2] at hat
  have he : (f k).getD S.e0 = u := T.dinj _ _ (by injection hat)
  rw [hrun, he]
theorem GM.len (T : S.Ok) (h : GM S M sz f) (hb : w.heap[mb]? = some M) (ty : TypeId) : (Builtin.len_ #[S.mt] ty #[.map (some mb)]).run Tryz.prog w = .ok (.int .i64 (sz : Int)) w := by
  obtain ⟨D, hs, ho, hf⟩ := h
  rw [← hs]
  rw [← hs] at ho
  exact (ho w mb hb).len T.map ty
/-- What a map's store or a drop leaves. -/
def GMGoes (S : MS K E) (mb sz : Nat) (f : K → Option E) (w w' : World) : Prop := ∃ M, w'.heap[mb]? = some M ∧ GM S M sz f ∧ Turns [mb] w w' ∧ w'.heap.size = w.heap.size
theorem gmgoes_of {D : DataW Unit} {N : Nat} {w' : World} (hs : Maps.size D = sz) (ho : w'.ownsMap Tryz.prog S.kt S.el mb N D) (hf : ∀ k, S.ok k → Maps.has D (S.kl k) = (f k).isSome ∧ D.atKey (S.kl k) (.lit (S.ed S.e0)) = .lit (S.ed ((f k).getD S.e0))) (ht : w.mapTurned w' mb) : GMGoes S mb sz f w w' := by
  have ho2 := gm_sharp ho
  rw [hs] at ho2
  obtain ⟨es, c, hb, hr⟩ := ho2
  have hz : w'.heap.size = w.heap.size := by
    obtain ⟨_, _, _, _, _, rfl⟩ := ht
    simp [ChangeMaps.setBlock]
  have hg := ht.grown
  exact ⟨_, hb, ⟨D, hs, fun w2 mb2 h2 => ⟨es, c, h2, hr⟩, hf⟩, ⟨hg.os, hg.tape, hg.output, hg.size, fun k hk hn => hg.block k hk (fun e => hn (by injection e with e; rw [e]; exact List.mem_singleton.2 rfl))⟩, hz⟩
set_option maxRecDepth 100000 in
theorem GM.store [DecidableEq K] (T : S.Ok) (h : GM S M sz f) (hb : w.heap[mb]? = some M) (hN : sz < 1000000) (k : K) (v : E) (hk : S.ok k) : ∃ w', (Instr.mapUpdate S.mt (.map (some mb)) (S.kv k) (S.ev v)).run Tryz.prog w = .ok () w' ∧ GMGoes S mb (if (f k).isSome then sz else sz + 1) (fun j => if j = k then some v else f j) w w' := by
  obtain ⟨D, hs, ho, hf⟩ := h
  obtain ⟨w', hrun, h1, h2⟩ := (ho w mb hb).store T.keyed T.map (by unfold maxLen; omega) (T.kof k hk) (T.el_of v)
  have hD := (ho w mb hb).isMap
  have htd := (ho w mb hb).tidy T.keyed
  refine ⟨w', hrun, gmgoes_of ?_ h1 (fun j hj => ?_) h2⟩
  · rw [size_put htd, (hf k hk).1, hs]
  · by_cases e : j = k
    · subst e
      rw [if_pos rfl]
      exact ⟨has_put_same hD (T.key _) _, atKey_put_same hD (T.key _) _ _⟩
    · rw [if_neg e, has_put_other (T.ne _ _ hj hk e), atKey_put_other (T.ne _ _ hj hk e)]
      exact hf j hj
set_option maxRecDepth 100000 in
theorem GM.drop [DecidableEq K] (T : S.Ok) (h : GM S M sz f) (hb : w.heap[mb]? = some M) (k : K) (hk : S.ok k) (ty : TypeId) : ∃ w', (Builtin.delete_ #[S.mt, S.kt] ty #[.map (some mb), S.kv k]).run Tryz.prog w = .ok (.tuple #[]) w' ∧ GMGoes S mb (if (f k).isSome then sz - 1 else sz) (fun j => if j = k then none else f j) w w' := by
  obtain ⟨D, hs, ho, hf⟩ := h
  obtain ⟨w', hrun, h1, h2⟩ := (ho w mb hb).drop T.keyed T.map (T.kof k hk) ty
  have htd := (ho w mb hb).tidy T.keyed
  have hsz := size_del (k := S.kl k) htd
  rw [(hf k hk).1, hs] at hsz
  refine ⟨w', hrun, gmgoes_of ?_ h1 (fun j hj => ?_) h2⟩
  · cases hk2 : (f k).isSome with
    | true => rw [hk2] at hsz; simp at hsz ⊢; omega
    | false => rw [hk2] at hsz; simp at hsz ⊢; omega
  · by_cases e : j = k
    · subst e
      rw [if_pos rfl]
      exact ⟨has_del_same, atKey_del_same _⟩
    · rw [if_neg e, has_del_other (T.ne _ _ hj hk e), atKey_del_other (T.ne _ _ hj hk e)]
      exact hf j hj
end
end Go.Proofs.YthejclgihhfenaaGreat.Vm
