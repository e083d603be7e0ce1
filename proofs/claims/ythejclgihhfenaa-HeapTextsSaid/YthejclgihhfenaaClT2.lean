import Derived.Test.YthejclgihhfenaaClT1
import Derived.Test.YthejclgihhfenaaCm3
/-
  Layer 14: a heap of texts beside the map that names them: what each step leaves.
-/
namespace Go.Proofs.Ythejclgihhfenaa.Hp
open Go Go.RowKit Go.Proofs.Ythejclgihhfenaa.Pl Go.Proofs.Ythejclgihhfenaa.Tb Go.Proofs.Ythejclgihhfenaa.Vm

theorem tyS : TyS 51 9 := ⟨Try.underlying51, Try.underlying9, fun _ => by kernel_rfl⟩
theorem tyN : TyN 42 2 4 := ⟨Try.underlying42, Try.underlying2, fun _ => by kernel_rfl⟩
/-- The heap holds T, the map at block mb is g, of sz entries, after at most N stores; beside it K. -/
def TxS (HP : HeapP) (w0 : World) (b mb : Nat) (T : List ByteArray) (g : ByteArray → Option Vl) (sz N : Nat) (K : Own) (w : World) : Prop :=
  ∃ M, HpAt HP w0 b (txH 100000 T) ((mb, M) :: K) w ∧ SMapIs 9 M N sz g ∧ w0.heap.size ≤ mb
section
variable {HP : HeapP} {w0 w w' : World} {b mb sz N : Nat} {T : List ByteArray} {g : ByteArray → Option Vl} {K : Own}
theorem TxS.block (h : TxS HP w0 b mb T g sz N K w) : ∃ M, w.heap[mb]? = some M ∧ SMapIs 9 M N sz g := by
  obtain ⟨M, h1, h2, _⟩ := h
  exact ⟨M, h1.own (.head _), h2⟩
theorem TxS.below (H : HeapSays HP) (h : TxS HP w0 b mb T g sz N K w) (hb : Below w.heap.size w w') : TxS HP w0 b mb T g sz N K w' := by
  obtain ⟨M, h1, h2, h3⟩ := h
  exact ⟨M, h1.below H hb, h2, h3⟩
theorem TxS.low (h : TxS HP w0 b mb T g sz N K w) : Below w0.heap.size w0 w := by
  obtain ⟨M, h1, _, _⟩ := h
  exact h1.low
theorem TxS.look_ok (h : TxS HP w0 b mb T g sz N K w) (s : ByteArray) (hs : s.size ≤ 1000) : (Instr.lookup 51 (.map (some mb)) (.string s) true).run Try.prog w = .ok (.tuple #[((g s).getD nilV).val, .bool (g s).isSome]) w := by
  obtain ⟨M, h1, h2⟩ := h.block
  exact h2.look_ok tyS h1 s (by unfold ShortS maxLen; omega)
theorem TxS.len (h : TxS HP w0 b mb T g sz N K w) (ty : TypeId) : (Builtin.len_ #[51] ty #[.map (some mb)]).run Try.prog w = .ok (.int .i64 (sz : Int)) w := by
  obtain ⟨M, h1, h2⟩ := h.block
  exact h2.len tyS h1 ty
/-- A store into the map. -/
theorem TxS.store (H : HeapSays HP) (h : TxS HP w0 b mb T g sz N K w) (hN : N < 1000000) (hK : ∀ p ∈ K, p.1 ≠ mb) (s : ByteArray) (v : Vl) (hs : s.size ≤ 1000) (hv : v.In) :
    ∃ w', (Instr.mapUpdate 51 (.map (some mb)) (.string s) v.val).run Try.prog w = .ok () w' ∧ TxS HP w0 b mb T (fun j => if j = s then some v else g j) (if (g s).isSome then sz else sz + 1) (N + 1) K w' ∧ w'.heap.size = w.heap.size := by
  obtain ⟨M, h1, h2, h3⟩ := h
  obtain ⟨w', hrun, M', hb', hm', hgr, hsz⟩ := h2.store tyS (h1.own (.head _)) hN s v (by unfold ShortS maxLen; omega) hv
  refine ⟨w', hrun, ⟨M', h1.mine H (G := [mb]) ⟨hgr.os, hgr.tape, hgr.output, hgr.size, fun k hk hn => hgr.block k hk (fun e => hn (by rw [Option.some.inj e]; exact List.mem_singleton.2 rfl))⟩ (fun k hk => ⟨M, by rw [List.mem_singleton.1 hk]; exact .head _⟩) (fun k hk => by rw [List.mem_singleton.1 hk]; exact h3) (fun p hp => ?_), hm', h3⟩, hsz⟩
  rcases List.mem_cons.1 hp with rfl | hp
  · exact ⟨hb', .inl ⟨M, .head _⟩⟩
  · have h4 := h1.own (k := p.1) (o := p.2) (.tail _ hp)
    exact ⟨(hgr.block p.1 (lt_of_get h4) (fun e => hK p hp (Option.some.inj e))).trans h4, .inl ⟨p.2, .tail _ hp⟩⟩
/-- A text that is made. -/
theorem TxS.str {L : List ByteArray} (H : HeapSays HP) (h : TxS HP w0 b mb T g sz N K w) (hT : TxOk L T) (s : ByteArray) (hs : s.size ≤ 1000) :
    Calls Try.prog 19 #[.pointer (some ⟨b, 0, none⟩), .string s] w (fun e w' => e = .returned (.tuple #[(txV (ixT (addT T s) s)).val, .int .i64 0]) ∧ TxS HP w0 b mb (addT T s) g sz N K w') := by
  obtain ⟨M, h1, h2, h3⟩ := h
  have hc := h1.chg (fun hp => H.str s hp)
  rw [str_add hT s hs] at hc
  exact hc.mono fun e w1 ⟨he, ha⟩ => ⟨he, M, ha, h2, h3⟩
/-- What such a text tells. -/
theorem TxS.text {L : List ByteArray} (H : HeapSays HP) (h : TxS HP w0 b mb T g sz N K w) (hT : TxOk L T) (s : ByteArray) (hm : s ∈ T) :
    Calls Try.prog 20 #[.pointer (some ⟨b, 0, none⟩), (txV (ixT T s)).val] w (fun e w' => e = .returned (.tuple #[.string s, .bool true]) ∧ TxS HP w0 b mb T g sz N K w') := by
  obtain ⟨M, h1, h2, h3⟩ := h
  have hc := h1.tell H (fun hp => H.text _ hp (txV_in hT s hm))
  rw [text_ix 100000 T s hm] at hc
  exact hc.mono fun e w1 ⟨he, ha⟩ => ⟨he, M, ha, h2, h3⟩
/-- A block more; what stands in the law's own blocks. -/
theorem TxS.alloc (H : HeapSays HP) (h : TxS HP w0 b mb T g sz N K w) (o : Obj) : TxS HP w0 b mb T g sz N ((w.heap.size, o) :: K) (w.alloc o) := by
  obtain ⟨M, h1, h2, h3⟩ := h
  refine ⟨M, (h1.alloc H o).fewer (fun p hp => ?_), h2, h3⟩
  rcases List.mem_cons.1 hp with rfl | hp
  · exact .tail _ (.head _)
  rcases List.mem_cons.1 hp with rfl | hp
  · exact .head _
  · exact .tail _ (.tail _ hp)
theorem TxS.own (h : TxS HP w0 b mb T g sz N K w) {k : Nat} {o : Obj} (hm : (k, o) ∈ K) : w.heap[k]? = some o := by
  obtain ⟨M, h1, _, _⟩ := h
  exact h1.own (.tail _ hm)
theorem TxS.lt (h : TxS HP w0 b mb T g sz N K w) : mb < w.heap.size := by
  obtain ⟨M, h1, _, _⟩ := h
  exact lt_of_get (h1.own (.head _))
theorem TxS.fewer {K' : Own} (h : TxS HP w0 b mb T g sz N K w) (hs : ∀ p ∈ K', p ∈ K) : TxS HP w0 b mb T g sz N K' w := by
  obtain ⟨M, h1, h2, h3⟩ := h
  exact ⟨M, h1.fewer (fun p hp => by
    rcases List.mem_cons.1 hp with rfl | hp
    · exact .head _
    · exact .tail _ (hs p hp)), h2, h3⟩
end
end Go.Proofs.Ythejclgihhfenaa.Hp

/-
  Layer 14: going through the map of texts, with the set of their numbers beside: what each step leaves.
-/
namespace Go.Proofs.Ythejclgihhfenaa.Hp
open Go Go.RowKit Go.Proofs.Ythejclgihhfenaa.Pl Go.Proofs.Ythejclgihhfenaa.Tb Go.Proofs.Ythejclgihhfenaa.Vm

/-- The map at block mb names the texts T; block r goes through it, left is still to come; at block nb stands the set fn of numbers, after at most N stores. -/
def NumS (HP : HeapP) (w0 : World) (b mb nb r : Nat) (T : List ByteArray) (N : Nat) (fn : Int → Bool) (left : ByteArray → Bool) (cnt : Nat) (K : Own) (w : World) : Prop :=
  (mb ≠ nb ∧ nb ≠ r ∧ mb ≠ r) ∧ (w0.heap.size ≤ mb ∧ w0.heap.size ≤ nb ∧ w0.heap.size ≤ r) ∧ (∀ p ∈ K, p.1 ≠ mb ∧ p.1 ≠ nb ∧ p.1 ≠ r) ∧
  (∀ n, fn n = true → ∃ s v, seenT T s = some v ∧ left s = false ∧ v.n = n) ∧
  ∃ M Mn o Ns, HpAt HP w0 b (txH 100000 T) ((mb, M) :: (nb, Mn) :: (r, o) :: K) w ∧ SMapIs 9 M Ns T.length (seenT T) ∧ NMapIs 2 Mn N fn ∧ SRng 9 w mb r Ns (seenT T) left cnt
section
variable {HP : HeapP} {w0 w w' : World} {b mb nb r N cnt : Nat} {T : List ByteArray} {fn : Int → Bool} {left : ByteArray → Bool} {K : Own}
theorem turns_of_grown {w w' : World} {k : Nat} (h : w.grownBy w' (some k)) : Turns [k] w w' := ⟨h.os, h.tape, h.output, h.size, fun j hj hn => h.block j hj (fun e => hn (by rw [Option.some.inj e]; exact List.mem_singleton.2 rfl))⟩
theorem turns_of_grown0 {w w' : World} (h : w.grownBy w' none) : Turns [] w w' := ⟨h.os, h.tape, h.output, h.size, fun j hj _ => h.block j hj (fun e => by cases e)⟩
theorem NumS.look (h : NumS HP w0 b mb nb r T N fn left cnt K w) (n : Int) (hn : In64 n) : (Instr.lookup 42 (.map (some nb)) (.int .i64 n) false).run Try.prog w = .ok (.bool (fn n)) w := by
  obtain ⟨_, _, _, _, M, Mn, o, Ns, h1, _, h3, _⟩ := h
  exact h3.look tyN (h1.own (.tail _ (.head _))) n hn
theorem NumS.left_eq (h : NumS HP w0 b mb nb r T N fn left cnt K w) : w.rangeLeft mb r = cnt := by
  obtain ⟨_, _, _, _, M, Mn, o, Ns, _, _, _, h4⟩ := h
  exact h4.left_eq
theorem NumS.low (h : NumS HP w0 b mb nb r T N fn left cnt K w) : Below w0.heap.size w0 w := by
  obtain ⟨_, _, _, _, M, Mn, o, Ns, h1, _, _, _⟩ := h
  exact h1.low
/-- What is left when the going through is done. -/
theorem NumS.done (h : NumS HP w0 b mb nb r T N fn left cnt K w) : ∃ Ns, TxS HP w0 b mb T (seenT T) T.length Ns K w := by
  obtain ⟨_, ⟨h0, _, _⟩, _, _, M, Mn, o, Ns, h1, h2, _, _⟩ := h
  exact ⟨Ns, M, h1.fewer (fun p hp => by
    rcases List.mem_cons.1 hp with rfl | hp
    · exact .head _
    · exact .tail _ (.tail _ (.tail _ hp))), h2, h0⟩
/-- A block more. -/
theorem NumS.alloc (H : HeapSays HP) (h : NumS HP w0 b mb nb r T N fn left cnt K w) (o : Obj) : NumS HP w0 b mb nb r T N fn left cnt K (w.alloc o) := by
  obtain ⟨e1, e2, e3, e4, M, Mn, o', Ns, h1, h2, h3, h4⟩ := h
  exact ⟨e1, e2, e3, e4, M, Mn, o', Ns, (h1.alloc H o).fewer (fun p hp => .tail _ hp), h2, h3, h4.kept (World.grownBy_alloc w o none) (by simp) (by simp)⟩
/-- A number more. -/
theorem NumS.store (H : HeapSays HP) (h : NumS HP w0 b mb nb r T N fn left cnt K w) (hN : N < 1000000) (u : Vl) (hu : u.In) (s : ByteArray) (hs : seenT T s = some u) (hl : left s = false) :
    ∃ w', (Instr.mapUpdate 42 (.map (some nb)) (.int .i64 u.n) (.bool true)).run Try.prog w = .ok () w' ∧ NumS HP w0 b mb nb r T (N + 1) (fun j => if j = u.n then true else fn j) left cnt K w' ∧ w'.heap.size = w.heap.size := by
  obtain ⟨e1, e2, e3, e4, M, Mn, o', Ns, h1, h2, h3, h4⟩ := h
  obtain ⟨w', hrun, M', hb', hm', hgr, hsz⟩ := h3.store tyN (h1.own (.tail _ (.head _))) hN u.n true hu.2
  have keep : ∀ {k : Nat} {x : Obj}, w.heap[k]? = some x → k ≠ nb → w'.heap[k]? = some x := fun hx hk => (hgr.block _ (lt_of_get hx) (fun e => hk (Option.some.inj e))).trans hx
  refine ⟨w', hrun, ⟨e1, e2, e3, fun n hn => ?_, M, M', o', Ns, h1.mine H (turns_of_grown hgr) (fun k hk => ⟨Mn, by rw [List.mem_singleton.1 hk]; exact .tail _ (.head _)⟩) (fun k hk => by rw [List.mem_singleton.1 hk]; exact e2.2.1) (fun p hp => ?_), h2, hm', h4.kept hgr (fun e => e1.1 (Option.some.inj e)) (fun e => e1.2.1 (Option.some.inj e).symm)⟩, hsz⟩
  · dsimp only at hn
    by_cases e : n = u.n
    · exact ⟨s, u, hs, hl, e.symm⟩
    · rw [if_neg e] at hn
      exact e4 n hn
  · rcases List.mem_cons.1 hp with rfl | hp
    · exact ⟨keep (h1.own (.head _)) e1.1, .inl ⟨M, .head _⟩⟩
    rcases List.mem_cons.1 hp with rfl | hp
    · exact ⟨hb', .inl ⟨Mn, .tail _ (.head _)⟩⟩
    rcases List.mem_cons.1 hp with rfl | hp
    · exact ⟨keep (h1.own (.tail _ (.tail _ (.head _)))) e1.2.1.symm, .inl ⟨o', .tail _ (.tail _ (.head _))⟩⟩
    · exact ⟨keep (h1.own (k := p.1) (o := p.2) (.tail _ (.tail _ (.tail _ hp)))) (e3 p hp).2.1, .inl ⟨p.2, .tail _ (.tail _ (.tail _ hp))⟩⟩
variable {o : Oper} {a : Act} {ops : Array Oper} {Q : Exit → Act → World → Prop} {rest : List Oper}
/-- The going through begins. -/
theorem wpList_range_num (H : HeapSays HP) {Ns : Nat} {Mn : Obj} (h : TxS HP w0 b mb T (seenT T) T.length Ns ((nb, Mn) :: K) w) (hMn : NMapIs 2 Mn N (fun _ => false)) (hne : mb ≠ nb) (hnb : w0.heap.size ≤ nb) (hK : ∀ p ∈ K, p.1 ≠ mb ∧ p.1 ≠ nb)
    (hg : o.guard = none) (m : Operand) (hop : o.op = Op.range 51 m) (hm : a.eval m = .map (some mb))
    (hQ : ∀ w', NumS HP w0 b mb nb w.heap.size T N (fun _ => false) (fun s => (seenT T s).isSome) T.length K w' → w'.heap.size = w.heap.size + 1 → wpList Try.prog ops Q rest (a.put o.dst (.pointer (some ⟨w.heap.size, 0, none⟩))) w') : wpList Try.prog ops Q (o :: rest) a w := by
  obtain ⟨M, h1, h2, h3⟩ := h
  have lt : ∀ {k : Nat} {x : Obj}, (k, x) ∈ (mb, M) :: (nb, Mn) :: K → k < w.heap.size := fun hx => lt_of_get (h1.own hx)
  refine wpList_range_s tyS hg m hop hm h2 (h1.own (.head _)) (fun w' hr hgr hsz => hQ w' ?_ hsz)
  obtain ⟨o', ho'⟩ : ∃ o', w'.heap[w.heap.size]? = some o' := ⟨_, Array.getElem?_eq_getElem (by omega)⟩
  refine ⟨⟨hne, Nat.ne_of_lt (lt (.tail _ (.head _))), Nat.ne_of_lt (lt (.head _))⟩, ⟨h3, hnb, h1.low.size⟩, fun p hp => ⟨(hK p hp).1, (hK p hp).2, Nat.ne_of_lt (lt (k := p.1) (x := p.2) (.tail _ (.tail _ hp)))⟩, fun n hn => (by cases hn), M, Mn, o', Ns,
    h1.mine H (turns_of_grown0 hgr) (fun k hk => by cases hk) (fun k hk => by cases hk) (fun p hp => ?_), h2, hMn, hr⟩
  have keep : ∀ {k : Nat} {x : Obj}, w.heap[k]? = some x → w'.heap[k]? = some x := fun hx => (hgr.block _ (lt_of_get hx) (fun e => by cases e)).trans hx
  rcases List.mem_cons.1 hp with rfl | hp
  · exact ⟨keep (h1.own (.head _)), .inl ⟨M, .head _⟩⟩
  rcases List.mem_cons.1 hp with rfl | hp
  · exact ⟨keep (h1.own (.tail _ (.head _))), .inl ⟨Mn, .tail _ (.head _)⟩⟩
  rcases List.mem_cons.1 hp with rfl | hp
  · exact ⟨ho', .inr (Nat.le_refl _)⟩
  · exact ⟨keep (h1.own (k := p.1) (o := p.2) (.tail _ (.tail _ hp))), .inl ⟨p.2, .tail _ (.tail _ hp)⟩⟩
/-- An entry comes, or none is left. -/
theorem wpList_next_num (H : HeapSays HP) (h : NumS HP w0 b mb nb r T N fn left cnt K w) (hg : o.guard = none) (it : Operand) (hop : o.op = Op.next it false) (hit : a.eval it = .pointer (some ⟨r, 0, none⟩))
    (hDone : wpList Try.prog ops Q rest (a.put o.dst (.tuple #[.bool false])) w)
    (hMore : ∀ (s : ByteArray) (u : Vl) (w' : World) (cnt' : Nat), seenT T s = some u → u.In → fn u.n = false → NumS HP w0 b mb nb r T N fn (fun j => left j && !decide (j = s)) cnt' K w' → cnt' < cnt → w'.heap.size = w.heap.size →
      (Instr.entry (.pointer (some ⟨r, 0, none⟩))).run Try.prog w' = .ok (.tuple #[.string s, .agg #[.int .u8 (u.kind : Int), .int .i64 u.n]]) w' → wpList Try.prog ops Q rest (a.put o.dst (.tuple #[.bool true, .string s, .agg #[.int .u8 (u.kind : Int), .int .i64 u.n]])) w') : wpList Try.prog ops Q (o :: rest) a w := by
  obtain ⟨e1, e2, e3, e4, M, Mn, o', Ns, h1, h2, h3, h4⟩ := h
  refine wpList_next_s tyS hg it hop hit h4 (fun _ _ => hDone) (fun s u w' cnt' hs hl hf hu hr hlt hgr hsz hen => hMore s u w' cnt' hf hu ?_ ?_ hlt hsz hen)
  · cases hx : fn u.n with
    | false => rfl
    | true =>
      obtain ⟨s', v, q1, q2, q3⟩ := e4 _ hx
      have := seen_apart T s' s v u q1 hf q3
      subst this
      rw [hl] at q2
      cases q2
  · obtain ⟨o2, ho2⟩ : ∃ o2, w'.heap[r]? = some o2 := ⟨_, Array.getElem?_eq_getElem (by have := lt_of_get (h1.own (.tail _ (.tail _ (.head _)))); omega)⟩
    have keep : ∀ {k : Nat} {x : Obj}, w.heap[k]? = some x → k ≠ r → w'.heap[k]? = some x := fun hx hk => (hgr.block _ (lt_of_get hx) (fun e => hk (Option.some.inj e))).trans hx
    refine ⟨e1, e2, e3, fun n hn => ?_, M, Mn, o2, Ns, h1.mine H (turns_of_grown hgr) (fun k hk => ⟨o', by rw [List.mem_singleton.1 hk]; exact .tail _ (.tail _ (.head _))⟩) (fun k hk => by rw [List.mem_singleton.1 hk]; exact e2.2.2) (fun p hp => ?_), h2, h3, hr⟩
    · obtain ⟨s', v, q1, q2, q3⟩ := e4 n hn
      exact ⟨s', v, q1, by dsimp only; rw [q2]; rfl, q3⟩
    · rcases List.mem_cons.1 hp with rfl | hp
      · exact ⟨keep (h1.own (.head _)) e1.2.2, .inl ⟨M, .head _⟩⟩
      rcases List.mem_cons.1 hp with rfl | hp
      · exact ⟨keep (h1.own (.tail _ (.head _))) e1.2.1, .inl ⟨Mn, .tail _ (.head _)⟩⟩
      rcases List.mem_cons.1 hp with rfl | hp
      · exact ⟨ho2, .inl ⟨o', .tail _ (.tail _ (.head _))⟩⟩
      · exact ⟨keep (h1.own (k := p.1) (o := p.2) (.tail _ (.tail _ (.tail _ hp)))) (e3 p hp).2.2, .inl ⟨p.2, .tail _ (.tail _ (.tail _ hp))⟩⟩
/-- How many objects there are. -/
theorem TxS.objects {g : ByteArray → Option Vl} {sz : Nat} (H : HeapSays HP) (h : TxS HP w0 b mb T g sz N K w) :
    Calls Try.prog 17 #[.pointer (some ⟨b, 0, none⟩)] w (fun e w' => ∃ ao cap, e = .returned (.slice ao T.length cap) ∧ TxS HP w0 b mb T g sz N K w') := by
  obtain ⟨M, h1, h2, h3⟩ := h
  refine (h1.list H (fun hp => H.objects hp)).mono fun e w1 ⟨v, Kl, he, ⟨ao, cap, hv, _, _⟩, ha⟩ => ⟨ao, cap, ?_, M, ha.fewer (fun p hp => List.mem_append_right _ hp), h2, h3⟩
  rw [objects_tx] at hv
  rw [he, hv]
end
end Go.Proofs.Ythejclgihhfenaa.Hp
