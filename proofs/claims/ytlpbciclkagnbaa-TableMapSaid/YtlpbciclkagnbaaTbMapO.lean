/-
  Layer 13: the map and the lists that TableMap keeps, as they lie in blocks of the law's own.
-/
import Derived.Test.YtlpbciclkagnbaaTbMapM
import Derived.Test.YtlpbciclkagnbaaTbBorder
import Derived.Maps.OwnSet
import Derived.ArgAppend
namespace Go.Proofs.Ytlpbciclkagnbaa.Tb
open Go Go.RowKit Go.Proofs.Ytlpbciclkagnbaa.Pl Go.Maps Go.WideShapes

def kI (k : Int) : Lit := .int .i64 k
theorem kI_ne {a b : Int} (h : a ≠ b) : kI a ≠ kI b := fun e => h (by injection e)
theorem kI_key (k : Int) : WideAt.IsKeyLit (kI k) := by first | exact trivial | (unfold WideAt.IsKeyLit kI; simp)
theorem law42 : Keyed Try.prog 3 := int_keyed Try.underlying3
theorem zero64 (w : World) : (zeroValue 2).run Try.prog w = .ok (.int .i64 0) w := by kernel_rfl
/-- A map's block, of at most N entries, that holds f. -/
def MapIs (M : Obj) (N : Nat) (f : Int → Option Int) : Prop := ∃ D : DataW Unit, IsMap D ∧ (∀ (w : World) (mb : Nat), w.heap[mb]? = some M → w.ownsMap Try.prog 3 (plainElem Try.prog 2) mb N D) ∧
  ∀ k, Maps.has D (kI k) = (f k).isSome ∧ D.atKey (kI k) (.lit (.int .i64 0)) = .lit (.int .i64 ((f k).getD 0))
theorem MapIs.congr {M : Obj} {N : Nat} {f g : Int → Option Int} (h : MapIs M N f) (e : ∀ k, g k = f k) : MapIs M N g := by
  rw [show g = f from funext e]; exact h
theorem map_of_owns {w : World} {mb N : Nat} {D : DataW Unit} (h : w.ownsMap Try.prog 3 (plainElem Try.prog 2) mb N D) : ∃ es c, w.heap[mb]? = some (.map es c) ∧ ∀ (w' : World) (mb' : Nat), w'.heap[mb']? = some (.map es c) → w'.ownsMap Try.prog 3 (plainElem Try.prog 2) mb' N D := by
  obtain ⟨es, c, hb, r⟩ := h
  exact ⟨es, c, hb, fun w' mb' h => ⟨es, c, h, r⟩⟩
theorem map_new : MapIs (.map #[] 0) 0 (fun _ => none) :=
  ⟨.map [], isMap_empty, fun w mb h => ⟨#[], 0, h, ⟨by simp, MapKept.stamped_empty 0, by simp⟩, Nat.le_refl _, rfl⟩, fun k => ⟨rfl, rfl⟩⟩
section
variable {M : Obj} {N : Nat} {f : Int → Option Int} {w : World} {mb : Nat}
theorem key42 (k : Int) (h : In64 k) : keyOf Try.prog 3 (.int .i64 k) = some (kI k) := keyOf_int_mk Try.underlying3 (WalkArith.wf_i64 h)
theorem MapIs.look (h : MapIs M N f) (hb : w.heap[mb]? = some M) (k : Int) (hk : In64 k) : (Instr.lookup 46 (.map (some mb)) (.int .i64 k) false).run Try.prog w = .ok (.int .i64 ((f k).getD 0)) w := by
  obtain ⟨D, _, ho, hf⟩ := h
  obtain ⟨c, hrun, hat, _⟩ := (ho w mb hb).lookup_int law42 Try.underlying46 Try.underlying2 (zero64 _) (key42 k hk)
  rw [hrun]
  have := (hf k).2
  rw [hat] at this
  injection this with this
  injection this with _ this
  rw [this]
theorem MapIs.look_ok (h : MapIs M N f) (hb : w.heap[mb]? = some M) (k : Int) (hk : In64 k) : (Instr.lookup 46 (.map (some mb)) (.int .i64 k) true).run Try.prog w = .ok (.tuple #[.int .i64 ((f k).getD 0), .bool (f k).isSome]) w := by
  obtain ⟨D, _, ho, hf⟩ := h
  obtain ⟨v, ps, hrun, hv⟩ := (ho w mb hb).look_ok law42 Try.underlying46 (zero64 _) (plainElem_int Try.underlying2 (by decide)) (key42 k hk)
  obtain ⟨c, rfl, hc, _⟩ := plainElem_int_inv Try.underlying2 hv
  have hat : D.atKey (kI k) (.lit (.int .i64 0)) = .lit (.int .i64 c) := congrArg Prod.fst hc
  rw [hrun, (hf k).1]
  have := (hf k).2
  rw [hat] at this
  injection this with this
  injection this with _ this
  rw [this]
/-- What a map's store or a drop leaves. -/
def MapGoes (mb N : Nat) (f : Int → Option Int) (w w' : World) : Prop := ∃ M, w'.heap[mb]? = some M ∧ MapIs M N f ∧ w.grownBy w' (some mb) ∧ w'.heap.size = w.heap.size
theorem goes_of {D : DataW Unit} {w' : World} (hD : IsMap D) (ho : w'.ownsMap Try.prog 3 (plainElem Try.prog 2) mb N D) (hf : ∀ k, Maps.has D (kI k) = (f k).isSome ∧ D.atKey (kI k) (.lit (.int .i64 0)) = .lit (.int .i64 ((f k).getD 0))) (ht : w.mapTurned w' mb) : MapGoes mb N f w w' := by
  obtain ⟨es, c, hb, hr⟩ := map_of_owns ho
  refine ⟨_, hb, ⟨D, hD, hr, hf⟩, ht.grown, ?_⟩
  obtain ⟨_, _, _, _, _, rfl⟩ := ht
  simp [ChangeMaps.setBlock]
theorem MapIs.store (h : MapIs M N f) (hb : w.heap[mb]? = some M) (hN : N < 1000) (k v : Int) (hk : In64 k) (hv : In64 v) : ∃ w', (Instr.mapUpdate 46 (.map (some mb)) (.int .i64 k) (.int .i64 v)).run Try.prog w = .ok () w' ∧ MapGoes mb (N + 1) (fun j => if j = k then some v else f j) w w' := by
  obtain ⟨D, hD, ho, hf⟩ := h
  obtain ⟨w', hrun, h1, h2⟩ := (ho w mb hb).store law42 Try.underlying46 (by unfold maxLen; omega) (key42 k hk) (plainElem_int Try.underlying2 (WalkArith.wf_i64 hv))
  refine ⟨w', hrun, goes_of (hD.put _ _) h1 (fun j => ?_) h2⟩
  by_cases e : j = k
  · subst e
    rw [if_pos rfl]
    exact ⟨has_put_same hD (kI_key _) _, atKey_put_same hD (kI_key _) _ _⟩
  · rw [if_neg e, has_put_other (kI_ne e), atKey_put_other (kI_ne e)]
    exact hf j
theorem MapIs.drop (h : MapIs M N f) (hb : w.heap[mb]? = some M) (k : Int) (hk : In64 k) (ty : TypeId) : ∃ w', (Builtin.delete_ #[46, 3] ty #[.map (some mb), .int .i64 k]).run Try.prog w = .ok (.tuple #[]) w' ∧ MapGoes mb N (fun j => if j = k then none else f j) w w' := by
  obtain ⟨D, hD, ho, hf⟩ := h
  obtain ⟨w', hrun, h1, h2⟩ := (ho w mb hb).drop law42 Try.underlying46 (key42 k hk) ty
  refine ⟨w', hrun, goes_of (hD.del _) h1 (fun j => ?_) h2⟩
  by_cases e : j = k
  · subst e
    rw [if_pos rfl]
    exact ⟨has_del_same, atKey_del_same _⟩
  · rw [if_neg e, has_del_other (kI_ne e), atKey_del_other (kI_ne e)]
    exact hf j
end
/-- A list in blocks of the law's own, K; an empty one may lie anywhere. -/
def ListIs (v : Value) (xs : List Int) (K : Own) : Prop := (xs = [] ∧ ∃ a, v = .slice a 0 0) ∨ ∃ g cap cur, v = .slice (some ⟨g, 0, none⟩) xs.length cap ∧ (g, Obj.cells cur 3 (0, 0)) ∈ K ∧ xs.length ≤ cap ∧ cap ≤ maxLen ∧ cur.size = cap ∧ cur.toList.take xs.length = ints xs
theorem ListIs.len {v : Value} {xs : List Int} {K : Own} (h : ListIs v xs K) : ∃ a c, v = .slice a xs.length c ∧ xs.length ≤ c := by
  rcases h with ⟨rfl, a, rfl⟩ | ⟨g, cap, cur, rfl, _, hc, _⟩
  · exact ⟨a, 0, rfl, Nat.le_refl _⟩
  · exact ⟨_, cap, rfl, hc⟩
theorem ListIs.mono {v : Value} {xs : List Int} {K K' : Own} (h : ListIs v xs K) (hs : ∀ p ∈ K, p ∈ K') : ListIs v xs K' := by
  rcases h with h | ⟨g, cap, cur, h1, h2, h3⟩
  · exact .inl h
  · exact .inr ⟨g, cap, cur, h1, hs _ h2, h3⟩
theorem ListIs.item {v : Value} {xs : List Int} {K : Own} {w : World} (h : ListIs v xs K) (hK : ∀ p ∈ K, w.heap[p.1]? = some p.2) (j : Nat) (hj : j < xs.length) : ∃ g cap, v = .slice (some ⟨g, 0, none⟩) xs.length cap ∧ w.cell? ⟨g, j, none⟩ = some (.int .i64 xs[j]) := by
  rcases h with ⟨rfl, _⟩ | ⟨g, cap, cur, rfl, hm, _, _, _, ht⟩
  · exact absurd hj (Nat.not_lt_zero _)
  · refine ⟨g, cap, rfl, cell_of (hK _ hm) j _ ?_⟩
    have e : (cur.toList.take xs.length)[j]? = some (.int .i64 xs[j]) := by
      rw [ht, List.getElem?_eq_getElem (by rw [ints_len]; exact hj), ints_get _ _ hj]
    rw [List.getElem?_take_of_lt hj] at e
    simpa using e
theorem list_of_row {w : World} {B : Nat} {v : Value} {xs : List Int} (hr : w.ownsRow B 3 1 v xs.length (ints xs)) : ∃ Kl : Own, ListIs v xs Kl ∧ (∀ p ∈ Kl, w.heap[p.1]? = some p.2 ∧ v.ownBlock = some p.1) := by
  rcases hr.2 with ⟨rfl, h0⟩ | ⟨g, cap, cur, rfl, _, hg, hc, hm, hs, ht⟩
  · exact ⟨[], .inl ⟨List.eq_nil_of_length_eq_zero h0, none, rfl⟩, fun p hp => by cases hp⟩
  · refine ⟨[(g, .cells cur 3 (0, 0))], .inr ⟨g, cap, cur, rfl, List.mem_singleton.2 rfl, hc, hm, by rw [hs, Nat.mul_one], by rw [Nat.mul_one] at ht; exact ht⟩, fun p hp => ?_⟩
    rw [List.mem_singleton.1 hp]
    exact ⟨hg, rfl⟩
/-- 'v = append(v, x)' upon such a list: where the new one lies. -/
def AppGoes (xs : List Int) (x : Int) (K : Own) (w : World) (v' : Value) (w' : World) : Prop :=
  ∃ Kl, ListIs v' (xs ++ [x]) Kl ∧ (∀ p ∈ Kl, w'.heap[p.1]? = some p.2 ∧ ((∃ o, (p.1, o) ∈ K) ∨ w.heap.size ≤ p.1)) ∧ Turns (K.map (·.1)) w w'
theorem wpList_append_list {w : World} {ops : Array Oper} {rest : List Oper} {o : Oper} {a : Act} {Q : Exit → Act → World → Prop} (hgd : o.guard = none) (s x : Operand)
    (ho : o.op = .call { callee := .builtin .append, args := #[s, x], argTypes := #[44, 44] })
    (v : Value) (xs : List Int) (K : Own) (hs : a.eval s = v) (hL : ListIs v xs K) (hK : ∀ p ∈ K, w.heap[p.1]? = some p.2)
    (y : Int) (hx : a.eval x = .slice (some ⟨w.heap.size, 0, none⟩) 1 1) (hlen : xs.length < 1000)
    (h : ∀ v' w', AppGoes xs y K w v' w' → wpList Try.prog ops Q rest (a.put o.dst v') w') : wpList Try.prog ops Q (o :: rest) a (w.alloc (.cells #[.int .i64 y] 3)) := by
  rcases hL with ⟨rfl, ad, rfl⟩ | ⟨g, cap, cur, rfl, hm, hc, hcm, hcs, ht⟩
  · obtain ⟨i, hi, hz, hsize, hby⟩ := info_parts infoInt
    refine wpList_append_grows (w.alloc (.cells #[.int .i64 y] 3)) hgd s x 44 ho 3 i (.int .i64 0) 1 8 Try.underlying44 hi hz hsize hby rfl (by decide) ad 0 0 [] hs (fun _ => ⟨rfl, rfl⟩) rfl (fun _ _ j u hj => by cases hj) ⟨w.heap.size, 0, none⟩ 1 1 [.int .i64 y] hx rfl (fun j u hj => ?_) (fun u hu => ?_) (by decide) (by decide) (by decide) (fun v' w' h1 h2 => ?_)
    · match j, hj with
      | 0, hj => simp at hj; subst hj; simp [Addr.add]
    · simp at hu; subst hu; rfl
    · obtain ⟨Kl, hl, hk⟩ := list_of_row (xs := [y]) h1
      refine h v' w' ⟨Kl, hl, fun p hp => ⟨(hk p hp).1, .inr ?_⟩, ?_⟩
      · have := (h1.lt _ (hk p hp).2).1
        simp at this
        omega
      · have hb : Turns (K.map (·.1)) w (w.alloc (.cells #[.int .i64 y] 3)) := Turns.of_below ((Below.refl _ _).alloc (Nat.le_refl _) _)
        exact hb.trans (G := []) ⟨h2.os, h2.tape, h2.output, h2.size, fun k hk _ => h2.block k hk (by simp)⟩ (fun _ x => absurd x (List.not_mem_nil))
  · have hg := hK _ hm
    have hown : w.ownsRow 0 3 1 (.slice (some ⟨g, 0, none⟩) xs.length cap) xs.length (ints xs) := ⟨by rw [ints_len, Nat.mul_one], .inr ⟨g, cap, cur, rfl, Nat.zero_le _, hg, hc, hcm, by rw [hcs, Nat.mul_one], by rw [Nat.mul_one]; exact ht⟩⟩
    refine wpList_append_at hgd s x 44 ho 0 3 (.int .i64 0) 8 Try.underlying44 infoInt rfl _ xs.length (ints xs) hs hown (.int .i64 y) hx rfl (by unfold maxLen; omega) (by omega) (Nat.zero_le _) (fun v' w' h1 h2 h3 => ?_)
    obtain ⟨Kl, hl, hk⟩ := list_of_row (xs := xs ++ [y]) (v := v') (B := 0) (w := w') (by rw [List.length_append, List.length_singleton]; unfold ints; rw [List.map_append]; exact h1)
    refine h v' w' ⟨Kl, hl, fun p hp => ⟨(hk p hp).1, ?_⟩, ?_⟩
    · rcases h3 with h3 | h3
      · rw [h3] at hk
        have := (hk p hp).2
        injection this with this
        exact .inl ⟨_, by rw [← this]; exact hm⟩
      · rw [h3] at hk
        have := (hk p hp).2
        injection this with this
        exact .inr (by omega)
    · have hb : Turns (K.map (·.1)) w (w.alloc (.cells #[.int .i64 y] 3)) := Turns.of_below ((Below.refl _ _).alloc (Nat.le_refl _) _)
      refine hb.trans (G := [g]) ⟨h2.os, h2.tape, h2.output, h2.size, fun k hk hn => h2.block k hk (fun e => hn (by injection e with e; rw [e]; exact List.mem_singleton.2 rfl))⟩ (fun z hz => .inl ?_)
      rw [List.mem_singleton.1 hz]
      exact List.mem_map.2 ⟨_, hm, rfl⟩
/-- A step of the law's own upon its own blocks. -/
theorem TblAt.mine {TA : TableP} {w0 w w' : World} {b : Nat} {t : Tbl} {K K' : Own} {G : List Nat} (H : TableSays TA) (h : TblAt TA w0 b t K w) (ht : Turns G w w') (hG : ∀ k ∈ G, ∃ o, (k, o) ∈ K) (h0 : ∀ k ∈ G, w0.heap.size ≤ k)
    (hK : ∀ p ∈ K', w'.heap[p.1]? = some p.2 ∧ ((∃ o, (p.1, o) ∈ K) ∨ w.heap.size ≤ p.1)) : TblAt TA w0 b t K' w' := by
  obtain ⟨F, hp, hF, hb, hk⟩ := h
  refine ⟨F, H.keep hp ht (fun k hkF hkG => ?_), hF, hb.trans (ht.to_below hb.size h0), fun p hp2 => ⟨(hK p hp2).1, fun hm => ?_⟩⟩
  · obtain ⟨o, ho⟩ := hG k hkG
    exact (hk _ ho).2 hkF
  · rcases (hK p hp2).2 with ⟨o, ho⟩ | hl
    · exact (hk _ ho).2 hm
    · exact absurd ((H.mem hp).2 _ hm) (Nat.not_lt.2 hl)
end Go.Proofs.Ytlpbciclkagnbaa.Tb
