/-
  Layer 13: what stands while TableMap runs: the table, the map, the order, what is left of it, and blocks beside.
-/
import Derived.Test.YtlpbciclkagnbaaTbMapO
namespace Go.Proofs.Ytlpbciclkagnbaa.Tb
open Go Go.RowKit Go.Proofs.Ytlpbciclkagnbaa.Pl Go.Maps Go.WideShapes

theorem turns_put {w w' : World} {G : List Nat} {g i : Nat} {v : Value} (h : Turns G w w') (hg : g ∈ G) : Turns G w (w'.setCell ⟨g, i, none⟩ v) :=
  ⟨h.os, h.tape, h.output, by have := h.size; simpa using this, fun k hk hn => by
    rw [← h.block k hk hn]
    exact heap_setCell_other _ _ k _ (fun e => hn ((show k = g from e) ▸ hg))⟩
/-- The table t at block b; the map f at block mb; the lists xs, ys; the blocks X. -/
def St (TA : TableP) (w0 : World) (b mb : Nat) (t : Tbl) (f : Int → Option Int) (N : Nat) (vo : Value) (xs : List Int) (vl : Value) (ys : List Int) (X : Own) (w : World) : Prop :=
  w0.heap.size ≤ mb ∧ ∃ M Ko Kl, TblAt TA w0 b t ((mb, M) :: (X ++ (Ko ++ Kl))) w ∧ MapIs M N f ∧ ListIs vo xs Ko ∧ ListIs vl ys Kl ∧ (∀ p ∈ Ko ++ Kl, w0.heap.size ≤ p.1 ∧ p.1 ≠ mb) ∧ (∀ p ∈ Ko, ∀ q ∈ Kl, p.1 ≠ q.1) ∧ ∀ p ∈ X, p.1 ≠ mb ∧ ∀ q ∈ Ko ++ Kl, p.1 ≠ q.1
section
variable {TA : TableP} {w0 w w' : World} {b mb : Nat} {t t' : Tbl} {f g : Int → Option Int} {N : Nat} {vo vl : Value} {xs ys : List Int} {X : Own}
theorem St.below (H : TableSays TA) (h : St TA w0 b mb t f N vo xs vl ys X w) (hb : Below w.heap.size w w') : St TA w0 b mb t f N vo xs vl ys X w' := by
  obtain ⟨h0, M, Ko, Kl, ht, r⟩ := h
  exact ⟨h0, M, Ko, Kl, ht.below H hb, r⟩
theorem St.low (h : St TA w0 b mb t f N vo xs vl ys X w) : Below w0.heap.size w0 w := by
  obtain ⟨_, M, Ko, Kl, ht, r⟩ := h
  exact ht.low
theorem St.congr (h : St TA w0 b mb t f N vo xs vl ys X w) (e : ∀ k, g k = f k) : St TA w0 b mb t g N vo xs vl ys X w := by
  rw [show g = f from funext e]; exact h
theorem St.fewer {X' : Own} (h : St TA w0 b mb t f N vo xs vl ys X w) (hs : ∀ p ∈ X', p ∈ X) : St TA w0 b mb t f N vo xs vl ys X' w := by
  obtain ⟨h0, M, Ko, Kl, ht, r1, r2, r3, r4, r5, r6⟩ := h
  refine ⟨h0, M, Ko, Kl, ht.fewer (fun p hp => ?_), r1, r2, r3, r4, r5, fun p hp => r6 p (hs p hp)⟩
  rcases List.mem_cons.1 hp with e | hp
  · rw [e]; exact List.mem_cons_self ..
  · rcases List.mem_append.1 hp with hp | hp
    · exact List.mem_cons_of_mem _ (List.mem_append_left _ (hs p hp))
    · exact List.mem_cons_of_mem _ (List.mem_append_right _ hp)
theorem St.alloc (H : TableSays TA) (h : St TA w0 b mb t f N vo xs vl ys X w) (o : Obj) : St TA w0 b mb t f N vo xs vl ys ((w.heap.size, o) :: X) (w.alloc o) := by
  obtain ⟨h0, M, Ko, Kl, ht, r1, r2, r3, r4, r5, r6⟩ := h
  refine ⟨h0, M, Ko, Kl, (ht.alloc H o).fewer (fun p hp => ?_), r1, r2, r3, r4, r5, fun p hp => ?_⟩
  rotate_left
  · rcases List.mem_cons.1 hp with e | hp
    · rw [e]
      refine ⟨fun e => ?_, fun q hq e => ?_⟩
      · have h1 := lt_of_get (ht.own (k := mb) (o := M) (List.mem_cons_self ..))
        dsimp only at e
        omega
      · have h1 := lt_of_get (ht.own (k := q.1) (o := q.2) (List.mem_cons_of_mem _ (List.mem_append_right _ hq)))
        dsimp only at e
        omega
    · exact r6 p hp
  rcases List.mem_cons.1 hp with e | hp
  · rw [e]; exact List.mem_cons_of_mem _ (List.mem_cons_self ..)
  · rcases List.mem_cons.1 hp with e | hp
    · rw [e]; exact List.mem_cons_self ..
    · exact List.mem_cons_of_mem _ (List.mem_cons_of_mem _ hp)
theorem St.block (h : St TA w0 b mb t f N vo xs vl ys X w) {k : Nat} {o : Obj} (hm : (k, o) ∈ X) : w.heap[k]? = some o := by
  obtain ⟨h0, M, Ko, Kl, ht, r⟩ := h
  exact ht.own (List.mem_cons_of_mem _ (List.mem_append_left _ hm))
theorem St.two (h : St TA w0 b mb t f N vo xs vl ys X w) {k : Nat} {x y : Value} {T : TypeId} (hm : (k, Obj.cells #[x, y] T (0, 0)) ∈ X) : w.cell? ⟨k, 0, none⟩ = some x ∧ w.cell? ⟨k, 1, none⟩ = some y :=
  ⟨cell_of (h.block hm) 0 _ rfl, cell_of (h.block hm) 1 _ rfl⟩
theorem St.set (H : TableSays TA) (k v : Vl) (y : Int) (hk : k.In) (hv : v.In) (hl : t.length < 65536) (he : setT t k v = (t', y)) (h : St TA w0 b mb t f N vo xs vl ys X w) : Calls Try.prog 8 #[.pointer (some ⟨b, 0, none⟩), k.val, v.val] w (fun e w' => e = .returned (.int .i64 y) ∧ St TA w0 b mb t' f N vo xs vl ys X w') := by
  obtain ⟨h0, M, Ko, Kl, ht, r⟩ := h
  exact (set_at H k v t' y hk hv hl he ht).mono fun e w1 ⟨h1, h2⟩ => ⟨h1, h0, M, Ko, Kl, h2, r⟩
theorem St.get (H : TableSays TA) (k v : Vl) (hk : k.In) (he : getT t k = v) (h : St TA w0 b mb t f N vo xs vl ys X w) : Calls Try.prog 9 #[.pointer (some ⟨b, 0, none⟩), k.val] w (fun e w' => e = .returned v.val ∧ St TA w0 b mb t f N vo xs vl ys X w') := by
  obtain ⟨h0, M, Ko, Kl, ht, r⟩ := h
  exact (get_at H k v hk he ht).mono fun e w1 ⟨h1, h2⟩ => ⟨h1, h0, M, Ko, Kl, h2, r⟩
theorem St.next (H : TableSays TA) (k a c : Vl) (y : Int) (hk : k.In) (he : nextT t k = (a, c, y)) (h : St TA w0 b mb t f N vo xs vl ys X w) : Calls Try.prog 7 #[.pointer (some ⟨b, 0, none⟩), k.val] w (fun e w' => e = .returned (.tuple #[a.val, c.val, .int .i64 y]) ∧ St TA w0 b mb t f N vo xs vl ys X w') := by
  obtain ⟨h0, M, Ko, Kl, ht, r⟩ := h
  exact (next_at H k a c y hk he ht).mono fun e w1 ⟨h1, h2⟩ => ⟨h1, h0, M, Ko, Kl, h2, r⟩
theorem St.look (h : St TA w0 b mb t f N vo xs vl ys X w) (k : Int) (hk : In64 k) : (Instr.lookup 46 (.map (some mb)) (.int .i64 k) false).run Try.prog w = .ok (.int .i64 ((f k).getD 0)) w := by
  obtain ⟨h0, M, Ko, Kl, ht, hm, r⟩ := h
  exact hm.look (ht.own (List.mem_cons_self ..)) k hk
theorem St.look_ok (h : St TA w0 b mb t f N vo xs vl ys X w) (k : Int) (hk : In64 k) : (Instr.lookup 46 (.map (some mb)) (.int .i64 k) true).run Try.prog w = .ok (.tuple #[.int .i64 ((f k).getD 0), .bool (f k).isSome]) w := by
  obtain ⟨h0, M, Ko, Kl, ht, hm, r⟩ := h
  exact hm.look_ok (ht.own (List.mem_cons_self ..)) k hk
theorem St.goes (H : TableSays TA) {N' : Nat} (h : St TA w0 b mb t f N vo xs vl ys [] w) (hg : MapGoes mb N' g w w') : St TA w0 b mb t g N' vo xs vl ys [] w' := by
  obtain ⟨h0, M, Ko, Kl, ht, hm, h1, h2, h3, h4, h5x⟩ := h
  obtain ⟨M', hb, hm', hgr, hsz⟩ := hg
  simp only [List.nil_append] at ht
  refine ⟨h0, M', Ko, Kl, ?_, hm', h1, h2, h3, h4, h5x⟩
  simp only [List.nil_append]
  refine TblAt.mine H ht (G := [mb]) ⟨hgr.os, hgr.tape, hgr.output, hgr.size, fun k hk hn => hgr.block k hk (fun e => hn (by injection e with e; rw [e]; exact List.mem_singleton.2 rfl))⟩ (fun k hk => ⟨M, by rw [List.mem_singleton.1 hk]; exact List.mem_cons_self ..⟩) (fun k hk => by rw [List.mem_singleton.1 hk]; exact h0) (fun p hp => ?_)
  rcases List.mem_cons.1 hp with e | hp
  · rw [e]; exact ⟨hb, .inl ⟨M, List.mem_cons_self ..⟩⟩
  · have h5 := ht.own (k := p.1) (o := p.2) (List.mem_cons_of_mem _ hp)
    exact ⟨(hgr.block p.1 (lt_of_get h5) (fun x => (h3 p hp).2 (by injection x))).trans h5, .inl ⟨p.2, List.mem_cons_of_mem _ hp⟩⟩
theorem St.store (H : TableSays TA) (h : St TA w0 b mb t f N vo xs vl ys [] w) (hN : N < 1000) (k v : Int) (hk : In64 k) (hv : In64 v) : ∃ w', (Instr.mapUpdate 46 (.map (some mb)) (.int .i64 k) (.int .i64 v)).run Try.prog w = .ok () w' ∧ St TA w0 b mb t (fun j => if j = k then some v else f j) (N + 1) vo xs vl ys [] w' := by
  have h' := h
  obtain ⟨h0, M, Ko, Kl, ht, hm, r⟩ := h
  obtain ⟨w', hrun, hg⟩ := hm.store (ht.own (List.mem_cons_self ..)) hN k v hk hv
  exact ⟨w', hrun, h'.goes H hg⟩
theorem St.drop (H : TableSays TA) (h : St TA w0 b mb t f N vo xs vl ys [] w) (k : Int) (hk : In64 k) (ty : TypeId) : ∃ w', (Builtin.delete_ #[46, 3] ty #[.map (some mb), .int .i64 k]).run Try.prog w = .ok (.tuple #[]) w' ∧ St TA w0 b mb t (fun j => if j = k then none else f j) N vo xs vl ys [] w' := by
  have h' := h
  obtain ⟨h0, M, Ko, Kl, ht, hm, r⟩ := h
  obtain ⟨w', hrun, hg⟩ := hm.drop (ht.own (List.mem_cons_self ..)) k hk ty
  exact ⟨w', hrun, h'.goes H hg⟩
theorem St.lens (h : St TA w0 b mb t f N vo xs vl ys X w) : (∃ a c, vo = .slice a xs.length c ∧ xs.length ≤ c) ∧ ∃ a c, vl = .slice a ys.length c ∧ ys.length ≤ c := by
  obtain ⟨h0, M, Ko, Kl, ht, hm, h1, h2, _⟩ := h
  exact ⟨h1.len, h2.len⟩
theorem St.item (h : St TA w0 b mb t f N vo xs vl ys X w) (j : Nat) (hj : j < xs.length) : ∃ g cap, vo = .slice (some ⟨g, 0, none⟩) xs.length cap ∧ w.cell? ⟨g, j, none⟩ = some (.int .i64 xs[j]) := by
  obtain ⟨h0, M, Ko, Kl, ht, hm, h1, h2, _⟩ := h
  exact h1.item (fun p hp => ht.own (List.mem_cons_of_mem _ (List.mem_append_right _ (List.mem_append_left _ hp)))) j hj
/-- No list is left yet. -/
theorem St.begin (h : St TA w0 b mb t f N vo xs vl ys X w) (a : Option Addr) : St TA w0 b mb t f N vo xs (.slice a 0 0) [] X w := by
  obtain ⟨h0, M, Ko, Kl, ht, hm, h1, h2, h3, h4, h5x⟩ := h
  refine ⟨h0, M, Ko, [], ht.fewer (fun p hp => ?_), hm, h1, .inl ⟨rfl, a, rfl⟩, fun p hp => h3 p ?_, fun _ _ q hq => absurd hq (List.not_mem_nil), fun p hp => ⟨(h5x p hp).1, fun q hq => (h5x p hp).2 q ?_⟩⟩
  rotate_right
  · rw [List.append_nil] at hq
    exact List.mem_append_left _ hq
  · rw [List.append_nil] at hp
    rcases List.mem_cons.1 hp with e | hp
    · rw [e]; exact List.mem_cons_self ..
    · rcases List.mem_append.1 hp with hp | hp
      · exact List.mem_cons_of_mem _ (List.mem_append_left _ hp)
      · exact List.mem_cons_of_mem _ (List.mem_append_right _ (List.mem_append_left _ hp))
  · rw [List.append_nil] at hp
    exact List.mem_append_left _ hp
/-- The list that is left becomes the order. -/
theorem St.shift (h : St TA w0 b mb t f N vo xs vl ys X w) : St TA w0 b mb t f N vl ys (.slice none 0 0) [] X w := by
  obtain ⟨h0, M, Ko, Kl, ht, hm, h1, h2, h3, h4, h5x⟩ := h
  refine ⟨h0, M, Kl, [], ht.fewer (fun p hp => ?_), hm, h2, .inl ⟨rfl, none, rfl⟩, fun p hp => h3 p ?_, fun _ _ q hq => absurd hq (List.not_mem_nil), fun p hp => ⟨(h5x p hp).1, fun q hq => (h5x p hp).2 q ?_⟩⟩
  rotate_right
  · rw [List.append_nil] at hq
    exact List.mem_append_right _ hq
  · rw [List.append_nil] at hp
    rcases List.mem_cons.1 hp with e | hp
    · rw [e]; exact List.mem_cons_self ..
    · rcases List.mem_append.1 hp with hp | hp
      · exact List.mem_cons_of_mem _ (List.mem_append_left _ hp)
      · exact List.mem_cons_of_mem _ (List.mem_append_right _ (List.mem_append_right _ hp))
  · rw [List.append_nil] at hp
    exact List.mem_append_right _ hp
theorem wpList_append_left (H : TableSays TA) {ops : Array Oper} {rest : List Oper} {o : Oper} {a : Act} {Q : Exit → Act → World → Prop} (hgd : o.guard = none) (s x : Operand)
    (ho : o.op = .call { callee := .builtin .append, args := #[s, x], argTypes := #[44, 44] })
    (h : St TA w0 b mb t f N vo xs vl ys [] w) (hs : a.eval s = vl) (y : Int) (hx : a.eval x = .slice (some ⟨w.heap.size, 0, none⟩) 1 1) (hlen : ys.length < 1000)
    (hk : ∀ v' w', St TA w0 b mb t f N vo xs v' (ys ++ [y]) [] w' → wpList Try.prog ops Q rest (a.put o.dst v') w') : wpList Try.prog ops Q (o :: rest) a (w.alloc (.cells #[.int .i64 y] 3)) := by
  obtain ⟨h0, M, Ko, Kl, ht, hm, h1, h2, h3, h4, h5x⟩ := h
  simp only [List.nil_append] at ht
  refine wpList_append_list hgd s x ho vl ys Kl hs h2 (fun p hp => ht.own (List.mem_cons_of_mem _ (List.mem_append_right _ hp))) y hx hlen (fun v' w' hgo => hk v' w' ?_)
  obtain ⟨Kl', hl, hkl, htu⟩ := hgo
  have hM := ht.own (k := mb) (o := M) (List.mem_cons_self ..)
  have hMl := lt_of_get hM
  have hold : ∀ z, (∃ o, (z, o) ∈ Kl) → z ∈ Kl.map (·.1) := fun z ⟨o, ho⟩ => List.mem_map.2 ⟨_, ho, rfl⟩
  refine ⟨h0, M, Ko, Kl', ?_, hm, h1, hl, fun p hp => ?_, fun p hp q hq e => ?_, fun _ hp => absurd hp (List.not_mem_nil)⟩
  · simp only [List.nil_append]
    refine TblAt.mine H ht (G := Kl.map (·.1)) htu (fun k hk => ?_) (fun k hk => ?_) (fun p hp => ?_)
    · obtain ⟨p, hp, rfl⟩ := List.mem_map.1 hk
      exact ⟨p.2, List.mem_cons_of_mem _ (List.mem_append_right _ hp)⟩
    · obtain ⟨p, hp, rfl⟩ := List.mem_map.1 hk
      exact (h3 p (List.mem_append_right _ hp)).1
    · rcases List.mem_cons.1 hp with e | hp
      · rw [e]
        refine ⟨(htu.block mb hMl (fun hm2 => ?_)).trans hM, .inl ⟨M, List.mem_cons_self ..⟩⟩
        obtain ⟨p, hp, e⟩ := List.mem_map.1 hm2
        exact (h3 p (List.mem_append_right _ hp)).2 e
      · rcases List.mem_append.1 hp with hp | hp
        · have h5 := ht.own (k := p.1) (o := p.2) (List.mem_cons_of_mem _ (List.mem_append_left _ hp))
          refine ⟨(htu.block p.1 (lt_of_get h5) (fun hm2 => ?_)).trans h5, .inl ⟨p.2, List.mem_cons_of_mem _ (List.mem_append_left _ hp)⟩⟩
          obtain ⟨q, hq, e⟩ := List.mem_map.1 hm2
          exact h4 p hp q hq e.symm
        · refine ⟨(hkl p hp).1, ?_⟩
          rcases (hkl p hp).2 with ⟨o, ho⟩ | hn
          · exact .inl ⟨o, List.mem_cons_of_mem _ (List.mem_append_right _ ho)⟩
          · exact .inr hn
  · rcases List.mem_append.1 hp with hp | hp
    · exact h3 p (List.mem_append_left _ hp)
    · rcases (hkl p hp).2 with ⟨o, ho⟩ | hn
      · exact h3 (p.1, o) (List.mem_append_right _ ho)
      · exact ⟨Nat.le_trans ht.low.size hn, by omega⟩
  · rcases (hkl q hq).2 with ⟨o, ho⟩ | hn
    · exact h4 p hp (q.1, o) ho e
    · have h5 := lt_of_get (ht.own (k := p.1) (o := p.2) (List.mem_cons_of_mem _ (List.mem_append_left _ hp)))
      omega
/-- A store into a block beside. -/
theorem St.put (H : TableSays TA) {k : Nat} {cs : Array Value} {T : TypeId} (h : St TA w0 b mb t f N vo xs vl ys ((k, .cells cs T (0, 0)) :: X) w) (hk : w0.heap.size ≤ k) (hX : ∀ p ∈ X, p.1 ≠ k) (j : Nat) (v : Value) :
    St TA w0 b mb t f N vo xs vl ys ((k, .cells (cs.setIfInBounds j v) T (0, 0)) :: X) (w.setCell ⟨k, j, none⟩ v) := by
  obtain ⟨h0, M, Ko, Kl, ht, hm, h1, h2, h3, h4, h5⟩ := h
  have hb := ht.own (k := k) (List.mem_cons_of_mem _ (List.mem_cons_self ..))
  have h6 := h5 _ (List.mem_cons_self ..)
  have hother : ∀ z o, w.heap[z]? = some o → z ≠ k → (w.setCell ⟨k, j, none⟩ v).heap[z]? = some o := fun z o hz hne => (heap_setCell_other w ⟨k, j, none⟩ z v hne).trans hz
  refine ⟨h0, M, Ko, Kl, ?_, hm, h1, h2, h3, h4, fun p hp => ?_⟩
  · refine TblAt.mine H ht (G := [k]) (turns_put (Turns.refl _ _) (List.mem_singleton.2 rfl)) (fun z hz => ⟨.cells cs T (0, 0), by rw [List.mem_singleton.1 hz]; exact List.mem_cons_of_mem _ (List.mem_cons_self ..)⟩) (fun z hz => by rw [List.mem_singleton.1 hz]; exact hk) (fun p hp => ?_)
    rcases List.mem_cons.1 hp with e | hp
    · rw [e]
      exact ⟨hother mb M (ht.own (List.mem_cons_self ..)) (fun e => h6.1 e.symm), .inl ⟨M, List.mem_cons_self ..⟩⟩
    · rcases List.mem_cons.1 hp with e | hp
      · rw [e]
        exact ⟨heap_setCell_same w k j cs T v hb, .inl ⟨_, List.mem_cons_of_mem _ (List.mem_cons_self ..)⟩⟩
      · have h7 := ht.own (k := p.1) (o := p.2) (List.mem_cons_of_mem _ (List.mem_cons_of_mem _ hp))
        refine ⟨hother _ _ h7 (fun e => ?_), .inl ⟨p.2, List.mem_cons_of_mem _ (List.mem_cons_of_mem _ hp)⟩⟩
        rcases List.mem_append.1 hp with hp | hp
        · exact hX p hp e
        · exact h6.2 p hp e.symm
  · rcases List.mem_cons.1 hp with e | hp
    · rw [e]; exact h6
    · exact h5 p (List.mem_cons_of_mem _ hp)
end
end Go.Proofs.Ytlpbciclkagnbaa.Tb
