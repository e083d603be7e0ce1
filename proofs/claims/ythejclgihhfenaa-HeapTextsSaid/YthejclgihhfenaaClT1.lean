import Derived.Test.YthejclgihhfenaaCm2
import Derived.Test.YthejclgihhfenaaCm3
import Derived.StringKeys
import Derived.Maps.RangeWalk
/-
  Layer 14: a heap of nothing but texts, as data: what Str makes of it.
-/
namespace Go.Proofs.Ythejclgihhfenaa.Hp
open Go Go.Proofs.Ythejclgihhfenaa.Tb Go.Proofs.Ythejclgihhfenaa.Pl

local instance (priority := 10000) beqBytes : BEq ByteArray := instBEqOfDecidableEq
local instance (priority := 10000) lawBytes : LawfulBEq ByteArray := inferInstanceAs (@LawfulBEq ByteArray instBEqOfDecidableEq)
def txO (s : ByteArray) : HO := { kind := 4, text := s }
/-- A heap that holds the texts T, in the order in which they were made. -/
def txH (m : Int) (T : List ByteArray) : Hp := { max := m, obs := T.map (fun s => some (txO s)) }
def txV (k : Nat) : Vl := ⟨4, (k : Int) + 1⟩
theorem txH_nil (m : Int) : txH m [] = { max := m, obs := [] } := rfl
theorem tx_of (m : Int) (T : List ByteArray) : obOf (txH m T) = T.map (fun s => some (sizeO (txO s))) := by
  unfold obOf txH
  dsimp only
  rw [List.map_map]
  rfl
theorem tx_least (m : Int) (T : List ByteArray) : leastL (obOf (txH m T)) = T.length := by
  rw [tx_of]
  unfold leastL
  have : ∀ T : List ByteArray, (T.map (fun s => some (sizeO (txO s)))).findIdx Option.isNone = T.length := by
    intro T
    induction T with
    | nil => rfl
    | cons a T ih => rw [List.map_cons, List.findIdx_cons, ih]; rfl
  exact this T
theorem tx_cnt (m : Int) (T : List ByteArray) : cntH (txH m T) ≤ T.length := by
  unfold cntH
  rw [tx_of]
  refine Nat.le_trans (cnt_le _) ?_
  rw [List.length_map]
  exact Nat.le_refl _
theorem tx_size (s : ByteArray) : sizeO (txO s) = 1 + ((s.size / 16 : Nat) : Int) := rfl
theorem tx_used (m : Int) (T : List ByteArray) (hT : ∀ s ∈ T, s.size ≤ 1000) : usedH (txH m T) ≤ 63 * T.length := by
  unfold usedH
  rw [tx_of]
  induction T with
  | nil => exact Int.le_refl _
  | cons a T ih =>
    have h1 := ih (fun s h => hT s (.tail _ h))
    have h2 := hT a (.head _)
    rw [List.map_cons, used_cons, List.length_cons, Option.getD_some, tx_size]
    have h3 : a.size / 16 ≤ 62 := by omega
    generalize a.size / 16 = q at *
    push_cast
    omega
theorem tx_known (m : Int) (T : List ByteArray) (s : ByteArray) : knownH (txH m T) s = if s ∈ T then some (T.idxOf s) else none := by
  have h0 : ∀ T : List ByteArray, (T.map (fun s => some (txO s))).findIdx (isText s) = T.idxOf s := by
    intro T
    induction T with
    | nil => rfl
    | cons a T ih =>
      rw [List.map_cons, List.findIdx_cons, List.idxOf_cons, ih]
      have : isText s (some (txO a)) = (a == s) := by
        unfold isText txO
        dsimp only
        rw [show decide ((4 : Nat) = 4) = true from rfl, Bool.true_and]
        by_cases h : a = s
        · rw [decide_eq_true h]; exact (beq_iff_eq.2 h).symm
        · rw [decide_eq_false h]; exact (beq_eq_false_iff_ne.2 h).symm
      rw [this]
  unfold knownH txH
  dsimp only
  rw [h0, List.length_map]
  by_cases h : s ∈ T
  · rw [if_pos h, if_pos (List.idxOf_lt_length_of_mem h)]
  · rw [if_neg h, if_neg (by rw [List.idxOf_eq_length h]; exact Nat.lt_irrefl _)]
theorem tx_idx (T : List ByteArray) (s : ByteArray) (h : s ∈ T) : T[T.idxOf s]? = some s := by
  have hl := List.idxOf_lt_length_of_mem h
  rw [List.getElem?_eq_getElem hl, List.getElem_idxOf hl]
theorem set_own {α : Type} : ∀ (l : List α) (k : Nat) (a : α), l[k]? = some a → l.set k a = l
  | [], _, _, h => by simp at h
  | b :: l, 0, a, h => by
    rw [List.getElem?_cons_zero] at h
    rw [List.set_cons_zero, Option.some.inj h]
  | b :: l, k + 1, a, h => by
    rw [List.getElem?_cons_succ] at h
    rw [List.set_cons_succ, set_own l k a h]
theorem tx_get (m : Int) (T : List ByteArray) (k : Nat) (s : ByteArray) (h : T[k]? = some s) : (txH m T).obs[k]? = some (some (txO s)) := by
  unfold txH
  dsimp only
  rw [List.getElem?_map, h]
  rfl
/-- A text that is there already. -/
theorem str_there (m : Int) (T : List ByteArray) (s : ByteArray) (h : s ∈ T) (hs : s.size ≤ 1000) : strH (txH m T) s = (txH m T, txV (T.idxOf s), 0) := by
  have h1 := tx_get m T _ s (tx_idx T s h)
  have hn : note (txH m T) (txO s) = txO s := by unfold note txO txH; rfl
  unfold strH
  rw [if_neg (by omega), tx_known, if_pos h]
  dsimp only
  rw [show ((txH m T).obs[T.idxOf s]?).join = some (txO s) from by rw [h1]; rfl]
  dsimp only
  unfold setO
  rw [hn, set_own _ _ _ h1]
  rfl
/-- A text that is not there yet. -/
theorem str_new (m : Int) (T : List ByteArray) (s : ByteArray) (h : s ∉ T) (hs : s.size ≤ 1000) (hT : ∀ s ∈ T, s.size ≤ 1000) (hl : T.length ≤ 40) (hm : m = 100000) : strH (txH m T) s = (txH m (T ++ [s]), txV T.length, 0) := by
  have hc := tx_cnt m T
  have hu := tx_used m T hT
  have hz : sizeO { kind := 4, text := s } ≤ 63 := by
    have := tx_size s
    unfold txO at this
    rw [this]
    omega
  unfold strH
  rw [if_neg (by omega), tx_known, if_neg h]
  dsimp only
  unfold addH
  rw [if_neg (by
    rintro (h | h)
    · omega
    · have : (txH m T).max = m := rfl
      rw [this] at h
      generalize sizeO { kind := 4, text := s } = q at *
      omega)]
  rw [tx_least]
  unfold putO
  have hlt : ¬ T.length < (txH m T).obs.length := by unfold txH; dsimp only; rw [List.length_map]; exact Nat.lt_irrefl _
  simp only [if_neg hlt]
  unfold txH txO txV valO
  simp
/-- What a text's value tells. -/
theorem text_at (m : Int) (T : List ByteArray) (k : Nat) (s : ByteArray) (h : T[k]? = some s) : textH (txH m T) (txV k) = (s, true) := by
  have h1 := tx_get m T k s h
  unfold textH findH txV
  dsimp only
  rw [if_pos (by omega), show ((k : Int) + 1 - 1).toNat = k by omega, h1]
  rfl
theorem objects_tx (m : Int) (T : List ByteArray) : (objectsL 0 (txH m T).obs).length = T.length := by
  unfold txH
  dsimp only
  have : ∀ (T : List ByteArray) (k : Nat), (objectsL k (T.map (fun s => some (txO s)))).length = T.length := by
    intro T
    induction T with
    | nil => intro k; rfl
    | cons a T ih => intro k; rw [List.map_cons]; unfold objectsL; rw [List.length_cons, ih, List.length_cons]
  exact this T 0
/-- Which value a text has among T. -/
def seenT (T : List ByteArray) (s : ByteArray) : Option Vl := if s ∈ T then some (txV (T.idxOf s)) else none
theorem seen_nil (s : ByteArray) : seenT [] s = none := rfl
theorem seen_there (T : List ByteArray) (s : ByteArray) (h : s ∈ T) (x : ByteArray) : (if x = s then some (txV (T.idxOf s)) else seenT T x) = seenT T x := by
  by_cases hx : x = s
  · rw [if_pos hx, hx]; unfold seenT; rw [if_pos h]
  · rw [if_neg hx]
theorem seen_new (T : List ByteArray) (s : ByteArray) (h : s ∉ T) (x : ByteArray) : (if x = s then some (txV T.length) else seenT T x) = seenT (T ++ [s]) x := by
  by_cases hx : x = s
  · subst hx
    unfold seenT
    rw [if_pos rfl, if_pos (by simp), List.idxOf_append, if_neg h]
    simp
  · rw [if_neg hx]
    unfold seenT
    by_cases hm : x ∈ T
    · rw [if_pos hm, if_pos (List.mem_append_left _ hm), List.idxOf_append, if_pos hm]
    · rw [if_neg hm, if_neg (by simp [hm, hx])]
/-- Two texts never have one number. -/
theorem seen_apart (T : List ByteArray) (s t : ByteArray) (v u : Vl) (hs : seenT T s = some v) (ht : seenT T t = some u) (hn : v.n = u.n) : s = t := by
  unfold seenT at hs ht
  split at hs
  · split at ht
    · rename_i h1 h2
      have e1 := Option.some.inj hs
      have e2 := Option.some.inj ht
      rw [← e1, ← e2] at hn
      unfold txV at hn
      dsimp only at hn
      have hi : T.idxOf s = T.idxOf t := by omega
      have a := tx_idx T s h1
      rw [hi, tx_idx T t h2] at a
      exact (Option.some.inj a).symm
    · cases ht
  · cases hs
/-- Where a text stands among T; T with a text more. -/
def ixT (T : List ByteArray) (s : ByteArray) : Nat := T.idxOf s
def addT (T : List ByteArray) (s : ByteArray) : List ByteArray := if s ∈ T then T else T ++ [s]
theorem addT_in (T : List ByteArray) (s : ByteArray) (h : s ∈ T) : addT T s = T := if_pos h
theorem addT_out (T : List ByteArray) (s : ByteArray) (h : s ∉ T) : addT T s = T ++ [s] := if_neg h
theorem ix_new (T : List ByteArray) (s : ByteArray) (h : s ∉ T) : ixT (T ++ [s]) s = T.length := by
  unfold ixT
  rw [List.idxOf_append, if_neg h]
  simp
theorem ix_lt (T : List ByteArray) (s : ByteArray) (h : s ∈ T) : ixT T s < T.length := List.idxOf_lt_length_of_mem h
theorem text_ix (m : Int) (T : List ByteArray) (s : ByteArray) (h : s ∈ T) : textH (txH m T) (txV (ixT T s)) = (s, true) := text_at m T _ s (tx_idx T s h)
theorem seen_of (T : List ByteArray) (s : ByteArray) (h : s ∈ T) : seenT T s = some (txV (ixT T s)) := if_pos h
theorem seen_not (T : List ByteArray) (s : ByteArray) (h : s ∉ T) : seenT T s = none := if_neg h
theorem seen_step (T : List ByteArray) (s : ByteArray) (x : ByteArray) : (if x = s then some (txV (ixT (addT T s) s)) else seenT T x) = seenT (addT T s) x := by
  by_cases h : s ∈ T
  · rw [addT_in T s h]; exact seen_there T s h x
  · rw [addT_out T s h, ix_new T s h]; exact seen_new T s h x
theorem size_step (T : List ByteArray) (s : ByteArray) : (if (seenT T s).isSome then T.length else T.length + 1) = (addT T s).length := by
  by_cases h : s ∈ T
  · rw [seen_of T s h, addT_in T s h]; rfl
  · rw [seen_not T s h, addT_out T s h]; simp
/-- Texts as the law makes them: each once, short, out of L. -/
structure TxOk (L T : List ByteArray) : Prop where
  once : T.Nodup
  short : ∀ s ∈ T, s.size ≤ 1000
  sub : ∀ s ∈ T, s ∈ L
  few : L.length ≤ 40
theorem TxOk.len {L T : List ByteArray} (h : TxOk L T) : T.length ≤ 40 := Nat.le_trans (h.once.length_le_of_subset h.sub) h.few
theorem TxOk.nil {L : List ByteArray} (h : L.length ≤ 40) : TxOk L [] := ⟨List.nodup_nil, fun _ h => (by cases h), fun _ h => (by cases h), h⟩
theorem TxOk.add {L T : List ByteArray} (h : TxOk L T) {s : ByteArray} (hs : s.size ≤ 1000) (hl : s ∈ L) : TxOk L (addT T s) := by
  by_cases hm : s ∈ T
  · rw [addT_in T s hm]; exact h
  · rw [addT_out T s hm]
    refine ⟨?_, ?_, ?_, h.few⟩
    · rw [List.nodup_append]
      refine ⟨h.once, by simp, ?_⟩
      intro a ha c hc e
      rw [List.mem_singleton.1 hc] at e
      exact hm (e ▸ ha)
    · intro t ht
      rcases List.mem_append.1 ht with ht | ht
      · exact h.short t ht
      · rw [List.mem_singleton.1 ht]; exact hs
    · intro t ht
      rcases List.mem_append.1 ht with ht | ht
      · exact h.sub t ht
      · rw [List.mem_singleton.1 ht]; exact hl
theorem mem_addT (T : List ByteArray) (s : ByteArray) : s ∈ addT T s := by
  by_cases h : s ∈ T
  · rw [addT_in T s h]; exact h
  · rw [addT_out T s h]; simp
theorem str_add {L T : List ByteArray} (h : TxOk L T) (s : ByteArray) (hs : s.size ≤ 1000) : strH (txH 100000 T) s = (txH 100000 (addT T s), txV (ixT (addT T s) s), 0) := by
  by_cases hm : s ∈ T
  · rw [addT_in T s hm]; exact str_there _ T s hm hs
  · rw [addT_out T s hm, ix_new T s hm]; exact str_new _ T s hm hs h.short h.len rfl
theorem txV_in {L T : List ByteArray} (h : TxOk L T) (s : ByteArray) (hm : s ∈ T) : (txV (ixT T s)).In := by
  have h1 := ix_lt T s hm
  have h2 := h.len
  unfold txV Vl.In Pl.In64
  dsimp only
  generalize ixT T s = i at *
  omega
end Go.Proofs.Ythejclgihhfenaa.Hp

/-
  Maps keyed by texts, with values (api.Value) as elements, in a block of the call's own; maps of numbers to truths. Nothing of one layer.
-/
namespace Go.Proofs.Ythejclgihhfenaa.Vm
open Go Go.RowKit Go.Proofs.Ythejclgihhfenaa.Pl Go.Proofs.Ythejclgihhfenaa.Tb Go.Maps Go.WideShapes

/-- What an element reads as: a value's key, for it names the value. -/
noncomputable def vElem (v : Value) : Option (DataW Unit × List MemPlace) :=
  open Classical in if h : ∃ u : Vl, u.In ∧ v = u.val then some (.lit (kV h.choose), []) else none
theorem val_inj {a b : Vl} (h : a.val = b.val) : a = b := by
  obtain ⟨ak, an⟩ := a
  obtain ⟨bk, bn⟩ := b
  have h3 : Value.agg #[.int .u8 (ak : Int), .int .i64 an] = .agg #[.int .u8 (bk : Int), .int .i64 bn] := h
  injection h3 with h3
  have h4 := congrArg Array.toList h3
  injection h4 with h5 h6
  injection h6 with h6
  injection h5 with _ h5
  injection h6 with _ h6
  rw [Vl.mk.injEq]
  exact ⟨by omega, h6⟩
theorem vElem_of (u : Vl) (h : u.In) : vElem u.val = some (.lit (kV u), []) := by
  have hx : ∃ u' : Vl, u'.In ∧ u.val = u'.val := ⟨u, h, rfl⟩
  unfold vElem
  rw [dif_pos hx, ← val_inj hx.choose_spec.2]
theorem vElem_inv {v : Value} {z : DataW Unit × List MemPlace} (h : vElem v = some z) : ∃ u : Vl, u.In ∧ v = u.val ∧ z = (.lit (kV u), []) := by
  have h0 := h
  unfold vElem at h
  split at h
  · rename_i hx
    refine ⟨hx.choose, hx.choose_spec.1, hx.choose_spec.2, ?_⟩
    exact (Option.some.inj h).symm
  · cases h
theorem nil_In : nilV.In := by unfold Vl.In Pl.In64 nilV; exact ⟨by decide, by decide, by decide⟩
/-- The types' numbers: the map's, the key's. -/
structure TyS (mt kt : TypeId) : Prop where
  map : Try.prog.underlying mt = some (.map kt 31)
  key : Try.prog.underlying kt = some .string
  zero : ∀ w : World, (zeroValue 31).run Try.prog w = .ok nilV.val w
def kS (s : ByteArray) : Lit := .string s.data.toList
theorem kS_ne {a b : ByteArray} (h : a ≠ b) : kS a ≠ kS b := fun e => h (by
  have h1 : a.data.toList = b.data.toList := by injection e
  cases a; cases b
  exact congrArg ByteArray.mk (Array.toList_inj.1 h1))
theorem kS_key (s : ByteArray) : WideAt.IsKeyLit (kS s) := by unfold kS WideAt.IsKeyLit; trivial
def ShortS (s : ByteArray) : Prop := s.size ≤ maxLen
/-- A map's block, of at most N entries, sz of them, that holds f. -/
def SMapIs (kt : TypeId) (M : Obj) (N sz : Nat) (f : ByteArray → Option Vl) : Prop := ∃ D : DataW Unit, Maps.size D = sz ∧ (∀ (w : World) (mb : Nat), w.heap[mb]? = some M → w.ownsMap Try.prog kt vElem mb N D) ∧
  ∀ s : ByteArray, Maps.has D (kS s) = (f s).isSome ∧ D.atKey (kS s) (.lit (kV nilV)) = .lit (kV ((f s).getD nilV)) ∧ ((f s).getD nilV).In
theorem smap_new (kt : TypeId) : SMapIs kt (.map #[] 0) 0 0 (fun _ => none) :=
  ⟨.map [], rfl, fun w mb h => ⟨#[], 0, h, ⟨by simp, MapKept.stamped_empty 0, by simp⟩, Nat.le_refl _, rfl⟩, fun k => ⟨rfl, rfl, nil_In⟩⟩
section
variable {mt kt : TypeId} {M : Obj} {N sz : Nat} {f : ByteArray → Option Vl} {w : World} {mb : Nat}
theorem SMapIs.congr {g : ByteArray → Option Vl} (h : SMapIs kt M N sz f) (e : ∀ k, g k = f k) : SMapIs kt M N sz g := by
  rw [show g = f from funext e]; exact h
theorem SMapIs.few (h : SMapIs kt M N sz f) (hb : w.heap[mb]? = some M) : sz ≤ N := by
  obtain ⟨D, hs, ho, _⟩ := h
  rw [← hs]
  exact (ho w mb hb).size_le
theorem kS_of (T : TyS mt kt) (s : ByteArray) (h : ShortS s) : keyOf Try.prog kt (.string s) = some (kS s) := WideMaps.keyOf_string_mk T.key h
set_option maxRecDepth 100000 in
theorem SMapIs.look_ok (T : TyS mt kt) (h : SMapIs kt M N sz f) (hb : w.heap[mb]? = some M) (s : ByteArray) (hk : ShortS s) : (Instr.lookup mt (.map (some mb)) (.string s) true).run Try.prog w = .ok (.tuple #[((f s).getD nilV).val, .bool (f s).isSome]) w := by
  obtain ⟨D, _, ho, hf⟩ := h
  obtain ⟨h1, h2, h3⟩ := hf s
  obtain ⟨v, ps, hrun, hv⟩ := (ho w mb hb).look_ok (string_keyed T.key) T.map (T.zero _) (vElem_of nilV nil_In) (kS_of T s hk)
  obtain ⟨u, hu, rfl, hc⟩ := vElem_inv hv
  have hat : D.atKey (kS s) (.lit (kV nilV)) = .lit (kV u) := congrArg Prod.fst hc
  rw [h2] at hat
  have he : (f s).getD nilV = u := by
    by_cases e : (f s).getD nilV = u
    · exact e
    · exact absurd (by injection hat) (kV_ne h3 hu e)
  rw [hrun, h1, he]
theorem SMapIs.len (T : TyS mt kt) (h : SMapIs kt M N sz f) (hb : w.heap[mb]? = some M) (ty : TypeId) : (Builtin.len_ #[mt] ty #[.map (some mb)]).run Try.prog w = .ok (.int .i64 (sz : Int)) w := by
  obtain ⟨D, hs, ho, hf⟩ := h
  rw [← hs]
  exact (ho w mb hb).len T.map ty
/-- What a map's store leaves. -/
def SMapGoes (kt : TypeId) (mb N sz : Nat) (f : ByteArray → Option Vl) (w w' : World) : Prop := ∃ M, w'.heap[mb]? = some M ∧ SMapIs kt M N sz f ∧ w.grownBy w' (some mb) ∧ w'.heap.size = w.heap.size
set_option maxRecDepth 100000 in
theorem SMapIs.store (T : TyS mt kt) (h : SMapIs kt M N sz f) (hb : w.heap[mb]? = some M) (hN : N < 1000000) (s : ByteArray) (v : Vl) (hk : ShortS s) (hv : v.In) : ∃ w', (Instr.mapUpdate mt (.map (some mb)) (.string s) v.val).run Try.prog w = .ok () w' ∧ SMapGoes kt mb (N + 1) (if (f s).isSome then sz else sz + 1) (fun j => if j = s then some v else f j) w w' := by
  obtain ⟨D, hs, ho, hf⟩ := h
  obtain ⟨w', hrun, h1, ht⟩ := (ho w mb hb).store (string_keyed T.key) T.map (by unfold maxLen; omega) (kS_of T s hk) (vElem_of v hv)
  have hD := (ho w mb hb).isMap
  have htd := (ho w mb hb).tidy (string_keyed T.key)
  obtain ⟨es, c, hb1, hr⟩ := h1
  refine ⟨w', hrun, _, hb1, ⟨_, ?_, fun w2 mb2 h2 => ⟨es, c, h2, hr⟩, fun j => ?_⟩, ht.grown, ?_⟩
  · rw [size_put htd, (hf s).1, hs]
  · dsimp only
    by_cases e : j = s
    · subst e
      rw [if_pos rfl]
      exact ⟨has_put_same hD (kS_key _) _, atKey_put_same hD (kS_key _) _ _, hv⟩
    · rw [if_neg e, has_put_other (kS_ne e), atKey_put_other (kS_ne e)]
      exact hf j
  · obtain ⟨_, _, _, _, _, rfl⟩ := ht
    simp [ChangeMaps.setBlock]
end
end Go.Proofs.Ythejclgihhfenaa.Vm

/-
  'for s, v := range m' over a map of texts to values, as a function of what is still to come. Nothing of one layer.
-/
namespace Go.Proofs.Ythejclgihhfenaa.Vm
open Go Go.RowKit Go.Proofs.Ythejclgihhfenaa.Pl Go.Proofs.Ythejclgihhfenaa.Tb Go.Maps Go.WideShapes

/-- Block r goes through the map at block b, which holds f: left tells what is still to come. -/
def SRng (kt : TypeId) (w : World) (b r N : Nat) (f : ByteArray → Option Vl) (left : ByteArray → Bool) (cnt : Nat) : Prop := ∃ (D : DataW Unit) (lf : Lit → Bool),
  w.ranges Try.prog kt vElem b r N D lf cnt ∧ (∀ s, Maps.has D (kS s) = (f s).isSome ∧ D.atKey (kS s) (.lit (kV nilV)) = .lit (kV ((f s).getD nilV)) ∧ ((f s).getD nilV).In) ∧ ∀ s, lf (kS s) = left s
section
variable {mt kt : TypeId} {M : Obj} {N sz cnt b r : Nat} {f : ByteArray → Option Vl} {left : ByteArray → Bool} {w w' : World}
theorem SRng.kept {row : Option Nat} (h : SRng kt w b r N f left cnt) (hg : w.grownBy w' row) (hb : some b ≠ row) (hr : some r ≠ row) : SRng kt w' b r N f left cnt := by
  obtain ⟨D, lf, h1, h2, h3⟩ := h
  exact ⟨D, lf, h1.kept hg hb hr, h2, h3⟩
theorem SRng.left_eq (h : SRng kt w b r N f left cnt) : w.rangeLeft b r = cnt := by
  obtain ⟨D, lf, h1, _, _⟩ := h
  exact h1.left_eq
variable {o : Oper} {a : Act} {ops : Array Oper} {Q : Exit → Act → World → Prop} {rest : List Oper}
theorem wpList_range_s (T : TyS mt kt) (hg : o.guard = none) (m : Operand) (hop : o.op = Op.range mt m) (hm : a.eval m = .map (some b)) (h : SMapIs kt M N sz f) (hb : w.heap[b]? = some M)
    (hK : ∀ w', SRng kt w' b w.heap.size N f (fun s => (f s).isSome) sz → w.grownBy w' none → w'.heap.size = w.heap.size + 1 → wpList Try.prog ops Q rest (a.put o.dst (.pointer (some ⟨w.heap.size, 0, none⟩))) w') : wpList Try.prog ops Q (o :: rest) a w := by
  obtain ⟨D, hs, ho, hf⟩ := h
  refine wpList_range_own w hg m mt hop kt 31 (string_keyed T.key) T.map vElem b N D hm (ho w b hb) (fun w' h1 h2 h3 => hK w' ⟨D, Maps.has D, hs ▸ h1, hf, fun s => (hf s).1⟩ h2 h3)
theorem wpList_next_s (T : TyS mt kt) (hg : o.guard = none) (it : Operand) (hop : o.op = Op.next it false) (hit : a.eval it = .pointer (some ⟨r, 0, none⟩)) (h : SRng kt w b r N f left cnt)
    (hDone : cnt = 0 → (∀ s, left s = false) → wpList Try.prog ops Q rest (a.put o.dst (.tuple #[.bool false])) w)
    (hMore : ∀ (s : ByteArray) (u : Vl) (w' : World) (cnt' : Nat), ShortS s → left s = true → f s = some u → u.In → SRng kt w' b r N f (fun j => left j && !decide (j = s)) cnt' → cnt' < cnt → w.grownBy w' (some r) → w'.heap.size = w.heap.size →
      (Instr.entry (.pointer (some ⟨r, 0, none⟩))).run Try.prog w' = .ok (.tuple #[.string s, u.val]) w' → wpList Try.prog ops Q rest (a.put o.dst (.tuple #[.bool true, .string s, u.val])) w') : wpList Try.prog ops Q (o :: rest) a w := by
  obtain ⟨D, lf, hr, hf, hl⟩ := h
  refine wpList_next_ranges w hg it hop kt (string_keyed T.key) vElem (fun s : ByteArray => Value.string s) Vl.val (fun key kl hk => ?_) (fun v y hv => ?_) b r N D lf cnt hit hr (fun h0 h1 => hDone h0 (fun s => (hl s).symm.trans (h1 _))) ?_
  · obtain ⟨s, rfl, _, _⟩ := WideMaps.string_of_keyOf T.key hk
    exact ⟨s, rfl⟩
  · obtain ⟨u, _, rfl, _⟩ := vElem_inv hv
    exact ⟨u, rfl⟩
  · intro s u kl y w' cnt' hkey hlk hv hat hr' hlt hg' hs' hen
    obtain ⟨s', e1, rfl, hs⟩ := WideMaps.string_of_keyOf T.key hkey
    obtain rfl : s = s' := by injection e1
    obtain ⟨u', hu, e2, rfl⟩ := vElem_inv hv
    obtain rfl := val_inj e2
    obtain ⟨f1, f2, f3⟩ := hf s
    have hsome : (f s).isSome = true := f1.symm.trans (has_true_of_atKey hat)
    have h4 := f2.symm.trans (hat _)
    have he : (f s).getD nilV = u := by
      by_cases e : (f s).getD nilV = u
      · exact e
      · exact absurd (by injection h4) (kV_ne f3 hu e)
    have hfu : f s = some u := by
      cases hx : f s with
      | none => rw [hx] at hsome; cases hsome
      | some x => rw [hx] at he; exact congrArg some he
    refine hMore s u w' cnt' hs ((hl s).symm.trans hlk) hfu hu ⟨D, _, hr', hf, fun j => ?_⟩ hlt hg' hs' hen
    dsimp only
    rw [hl j]
    by_cases e : j = s
    · subst e
      rw [decide_eq_true rfl, show ((Lit.string j.data.toList : Lit)) = kS j from rfl, WideAt.sameKey_self (kS_key j)]
    · rw [decide_eq_false e, show ((Lit.string s.data.toList : Lit)) = kS s from rfl, sameKey_ne (kS_ne e)]
end
end Go.Proofs.Ythejclgihhfenaa.Vm
