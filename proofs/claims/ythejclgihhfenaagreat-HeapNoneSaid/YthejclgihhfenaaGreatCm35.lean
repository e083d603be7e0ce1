import Derived.Test.YthejclgihhfenaaGreatCm34
/-
  Layer 14: a list in a box that grows; the developers' table: Values.
-/
namespace Go.Proofs.YthejclgihhfenaaGreat.Hd
open Go Go.RowKit Go.Proofs.YthejclgihhfenaaGreat.Pl Go.Proofs.YthejclgihhfenaaGreat.Tb Go.Proofs.YthejclgihhfenaaGreat.Vm Go.Proofs.YthejclgihhfenaaGreat.Hp Go.Proofs.YthejclgihhfenaaGreat.Td

theorem wp_append_run {P : Program} {o : Go.Oper} {a : Act} {w w2 : World} {K : Act → World → Prop} {Q : Exit → Act → World → Prop} {x y : Operand} {t ty : TypeId} {u v v2 : Value} (hr : (Builtin.append_ #[t, t] ty #[u, v]).run P w = .ok v2 w2)
    (ho : o = { dst := o.dst, op := .call { callee := .builtin .append, args := #[x, y], argTypes := #[t, t] }, type := ty, pos := o.pos, after := o.after, guard := o.guard }) (hx : a.eval x = u) (hy : a.eval y = v) (hK : K (a.put o.dst v2) w2) : o.wp P a w K Q := by
  unfold Oper.wp execOp
  have e1 : o.op = .call { callee := .builtin .append, args := #[x, y], argTypes := #[t, t] } := by rw [ho]
  have e2 : o.type = ty := by rw [ho]
  simp only [e1, e2, resolve, invoke, builtin, Sem.run_bind, Sem.run_pure, Result.andThen_ok, List.map_toArray, List.map_cons, List.map_nil, hx, hy, hr]
  exact hK
abbrev listT : TypeId := 31
/-- A list of the call's own whose slice stands in the box κ. -/
structure Kd (w : World) (κ B : Nat) (L : List Vl) (v : Value) : Prop where
  shape : Shape w κ listT 1
  cell : w.cell? ⟨κ, 0, none⟩ = some v
  own : OwnV B w v L
  ne : v.ownBlock ≠ some κ
def kF (κ : Nat) (v : Value) : List Nat := κ :: v.ownBlock.toList
/-- The list has become L', and nothing else has turned. -/
def KS (κ B : Nat) (v : Value) (w : World) (L' : List Vl) (w' : World) : Prop :=
  ∃ v', Kd w' κ B L' v' ∧ Turns (kF κ v) w w' ∧ (v'.ownBlock = v.ownBlock ∨ ∃ x, v'.ownBlock = some x ∧ w.heap.size ≤ x)
section
variable {w w' w1 : World} {κ B : Nat} {L L' L2 : List Vl} {v v1 : Value} {G : List Nat}
theorem in_kF {x : Nat} : x ∈ kF κ v ↔ x = κ ∨ v.ownBlock = some x := by
  unfold kF
  rw [List.mem_cons, Option.mem_toList]
theorem Kd.turns (h : Kd w κ B L v) (ht : Turns G w w') (hn : ∀ x ∈ kF κ v, x ∉ G) : Kd w' κ B L v :=
  ⟨h.shape.turns ht (hn κ (in_kF.2 (.inl rfl))), cell_turns h.cell ht (hn κ (in_kF.2 (.inl rfl))), h.own.turns ht (fun x hx => hn x (in_kF.2 (.inr hx))), h.ne⟩
theorem Kd.below (h : Kd w κ B L v) (hb : Below w.heap.size w w') : Kd w' κ B L v := h.turns (G := []) (Turns.of_below hb) (fun _ _ => List.not_mem_nil)
theorem Kd.lt (h : Kd w κ B L v) : ∀ x ∈ kF κ v, x < w.heap.size := fun x hx => by
  rcases in_kF.1 hx with e | e
  · rw [e]; exact h.shape.lt
  · exact (h.own.lt e).2
theorem KS.refl (h : Kd w κ B L v) : KS κ B v w L w := ⟨v, h, Turns.refl _ _, .inl rfl⟩
theorem KS.kd (h : KS κ B v w L' w1) : ∃ v', Kd w1 κ B L' v' ∧ (∀ x ∈ kF κ v', x ∈ kF κ v ∨ w.heap.size ≤ x) := by
  obtain ⟨v', h1, h2, h3⟩ := h
  refine ⟨v', h1, fun x hx => ?_⟩
  rcases in_kF.1 hx with e | e
  · exact .inl (in_kF.2 (.inl e))
  · rcases h3 with e2 | ⟨y, e2, hy⟩
    · exact .inl (in_kF.2 (.inr (by rw [← e2]; exact e)))
    · rw [e2] at e
      have e := Option.some.inj e
      exact .inr (by omega)
theorem KS.turns (h : KS κ B v w L' w1) : Turns (kF κ v) w w1 := by
  obtain ⟨_, _, h2, _⟩ := h
  exact h2
/-- A step upon a step. -/
theorem KS.step (h : KS κ B v w L' w1) (h2 : ∀ v', Kd w1 κ B L' v' → KS κ B v' w1 L2 w') : KS κ B v w L2 w' := by
  obtain ⟨v1, a1, a2, a3⟩ := h
  obtain ⟨v2, b1, b2, b3⟩ := h2 v1 a1
  refine ⟨v2, b1, a2.trans b2 (fun x hx => ?_), ?_⟩
  · rcases in_kF.1 hx with e | e
    · exact .inl (in_kF.2 (.inl e))
    · rcases a3 with e2 | ⟨y, e2, hy⟩
      · exact .inl (in_kF.2 (.inr (by rw [← e2]; exact e)))
      · rw [e2] at e
        have e := Option.some.inj e
        exact .inr (by omega)
  · rcases b3 with e | ⟨y, e, hy⟩
    · rcases a3 with e2 | ⟨z, e2, hz⟩
      · exact .inl (e.trans e2)
      · exact .inr ⟨z, e.trans e2, hz⟩
    · exact .inr ⟨y, e, Nat.le_trans a2.size hy⟩
theorem KS.then {v' : Value} (h : KS κ B v w L' w1) (hk : Kd w1 κ B L' v') (h2 : KS κ B v' w1 L2 w') : KS κ B v w L2 w' :=
  h.step (fun v2 hk2 => by
    have e := hk2.cell
    rw [hk.cell] at e
    have e := Option.some.inj e
    rw [← e]
    exact h2)
theorem KS.below (h : KS κ B v w L' w1) (hb : Below w1.heap.size w1 w') : KS κ B v w L' w' := by
  obtain ⟨v', h1, h2, h3⟩ := h
  exact ⟨v', h1.below hb, h2.trans (Turns.of_below (F := []) hb) (fun x hx => absurd hx List.not_mem_nil), h3⟩
theorem KS.from (hb : Below w.heap.size w w1) (h : KS κ B v w1 L' w') : KS κ B v w L' w' := by
  obtain ⟨v', h1, h2, h3⟩ := h
  exact ⟨v', h1, (Turns.of_below hb).trans h2 (fun x hx => .inl hx), h3.imp id (fun ⟨x, e, hx⟩ => ⟨x, e, Nat.le_trans hb.size hx⟩)⟩
/-- The box's cell is stored anew. -/
theorem kd_store {w2 : World} (h : Kd w κ B L v) (ht : Turns v.ownBlock.toList w w2) (ho : OwnV B w2 v1 L') (hv : v1.ownBlock = v.ownBlock ∨ ∃ x, v1.ownBlock = some x ∧ w.heap.size ≤ x) : KS κ B v w L' (w2.setCell ⟨κ, 0, none⟩ v1) := by
  have hκ : κ ∉ v.ownBlock.toList := fun hm => h.ne (Option.mem_toList.1 hm)
  have hne : v1.ownBlock ≠ some κ := by
    rcases hv with e | ⟨x, e, hx⟩
    · rw [e]; exact h.ne
    · rw [e]
      intro e2
      have e2 := Option.some.inj e2
      have := h.shape.lt
      omega
  have t2 := turns_cell w2 κ 0 v1
  refine ⟨v1, ⟨(h.shape.turns ht hκ).set, cell_put (cell_turns h.cell ht hκ), ho.turns t2 (fun x hx hm => hne (by rw [← List.mem_singleton.1 hm]; exact hx)), hne⟩, (ht.mono (fun x hx => List.mem_cons_of_mem _ hx)).trans t2 (fun x hx => .inl (by rw [List.mem_singleton.1 hx]; exact List.mem_cons_self ..)), hv⟩
/-- 'append(l, k, u)'. -/
theorem append_two (h : OwnV B w v L) (k u : Vl) (hl : L.length ≤ 500000) (hB : B ≤ w.heap.size) :
    ∃ a c w2, (Builtin.append_ #[listT, listT] listT #[v, .slice (some ⟨w.heap.size, 0, none⟩) 2 2]).run Tryz.prog (w.alloc (.cells #[.int .u8 (k.kind : Int), .int .i64 k.n, .int .u8 (u.kind : Int), .int .i64 u.n] 37)).drew = .ok (.slice a (L.length + 2) c) w2 ∧
      OwnV B w2 (.slice a (L.length + 2) c) (L ++ [k, u]) ∧ Turns v.ownBlock.toList w w2 ∧ ((Value.slice a (L.length + 2) c).ownBlock = v.ownBlock ∨ ∃ x, (Value.slice a (L.length + 2) c).ownBlock = some x ∧ w.heap.size ≤ x) := by
  obtain ⟨inf, hi, hz, hsize, hby⟩ := info_parts infoVl
  have hal : Below w.heap.size w (w.alloc (.cells #[.int .u8 (k.kind : Int), .int .i64 k.n, .int .u8 (u.kind : Int), .int .i64 u.n] 37)).drew := ((Below.refl _ _).alloc (Nat.le_refl _) _).drew
  have hnb := new_block w (.cells #[.int .u8 (k.kind : Int), .int .i64 k.n, .int .u8 (u.kind : Int), .int .i64 u.n] 37)
  obtain ⟨v2, w2, hr, h1, h2, _, h4⟩ := run_append_own_at (P := Tryz.prog) (w.alloc (.cells #[.int .u8 (k.kind : Int), .int .i64 k.n, .int .u8 (u.kind : Int), .int .i64 u.n] 37)).drew B listT listT 37 inf _ 2 16 Tryz.underlying31 hi hz hsize hby rfl (by decide) v L.length (vcl L) (h.below hal) ⟨w.heap.size, 0, none⟩ 2 2 [.int .u8 (k.kind : Int), .int .i64 k.n, .int .u8 (u.kind : Int), .int .i64 u.n] rfl (fun j y hj => by
      match j, hj with
      | 0, hj => simp at hj; subst hj; exact cell_of hnb 0 _ rfl
      | 1, hj => simp at hj; subst hj; exact cell_of hnb 1 _ rfl
      | 2, hj => simp at hj; subst hj; exact cell_of hnb 2 _ rfl
      | 3, hj => simp at hj; subst hj; exact cell_of hnb 3 _ rfl) (fun y hy => by
      simp at hy
      rcases hy with rfl | rfl | rfl | rfl <;> rfl) (Nat.le_trans (m := 500002) (by omega) (by decide)) (Nat.le_trans (Nat.mul_le_mul_right 16 (m := 500002) (by omega)) (by decide)) (by simp; omega)
  obtain ⟨a, c, rfl⟩ : ∃ a c, v2 = .slice a (L.length + 2) c := by
    rcases h1.2 with ⟨_, h0⟩ | ⟨g, cap, cur, rfl, _⟩
    · omega
    · exact ⟨_, _, rfl⟩
  refine ⟨a, c, w2, hr, ?_, ?_, ?_⟩
  · unfold OwnV
    rw [List.length_append]
    have e : vcl (L ++ [k, u]) = vcl L ++ [.int .u8 (k.kind : Int), .int .i64 k.n, .int .u8 (u.kind : Int), .int .i64 u.n] := by unfold vcl; rw [List.flatMap_append]; rfl
    rw [e]
    exact h1
  · exact (Turns.of_below hal).trans ⟨h2.os, h2.tape, h2.output, h2.size, fun j hj hn => h2.block j hj (fun e => hn (Option.mem_toList.2 e.symm))⟩ (fun x hx => .inl hx)
  · rcases h4 with e | e
    · exact .inl e
    · refine .inr ⟨_, e, ?_⟩
      simp
set_option maxRecDepth 100000 in
theorem val1_fn {p : Plc} (hN : NodeAt w p) (hK : Kd w κ B L v) (hn : p.b ∉ kF κ v) (hl : L.length ≤ 500000) (hB : B ≤ w.heap.size) :
    Calls Tryz.prog 138 #[.pointer (some ⟨p.b, 0, none⟩), .pointer (some ⟨κ, 0, none⟩)] w fun e w' => e = .returned (.bool false) ∧ KS κ B v w (L ++ [p.k, p.v]) w' := by
  have k0 := hN.k0
  have k1 := hN.k1
  have v0 := hN.v0
  have v1 := hN.v1
  obtain ⟨a, c, w2, hrun, ho, ht, hv⟩ := append_two hK.own p.k p.v hl hB
  have S0 : (w.alloc (.cells #[.int .u8 (p.k.kind : Int), .int .i64 p.k.n, .int .u8 (p.v.kind : Int), .int .i64 p.v.n] 37)).drew.cell? ⟨κ, 0, none⟩ = some v := (((Below.refl w.heap.size w).alloc (Nat.le_refl _) _).drew.cell (p := ⟨κ, 0, none⟩) hK.shape.lt).trans hK.cell
  have hN1 := hN.turns (G := []) (Turns.of_below (((Below.refl w.heap.size w).alloc (Nat.le_refl _) (.cells #[.int .u8 (p.k.kind : Int), .int .i64 p.k.n, .int .u8 (p.v.kind : Int), .int .i64 p.v.n] 37)).drew)) List.not_mem_nil
  have hN2 := hN.turns ht (fun hm => hn (in_kF.2 (.inr (Option.mem_toList.1 hm))))
  have hN3 := hN2.off (g := κ) (i := 0) (x := .slice a (L.length + 2) c) (fun e => hn (in_kF.2 (.inl e.symm)))
  have n0 := hN1.k0
  have n1 := hN1.k1
  have n2 := hN1.v0
  have n3 := hN1.v1
  have m0 := hN2.k0
  have m1 := hN2.k1
  have m2 := hN2.v0
  have m3 := hN2.v1
  have q0 := hN3.k0
  have q1 := hN3.k1
  have q2 := hN3.v0
  have q3 := hN3.v1
  have kc := hK.cell
  have hκ : κ ∉ v.ownBlock.toList := fun hm => hK.ne (Option.mem_toList.1 hm)
  have kc2 := cell_turns hK.cell ht hκ
  have kf2 := (hK.shape.turns ht hκ).free 0
  have HF := Lib.hid (kd_store hK ht ho hv)
  clear hN hN1 hN2 hN3 ho ht hv hK hn hl hB hκ
  generalize p.k = ku at *
  generalize p.v = vu at *
  generalize p.b = g at *
  obtain ⟨kk, kn⟩ := ku
  obtain ⟨vk, vn⟩ := vu
  dsimp only at *
  unfold listT at hrun
  go_enter Tryz.func138, Tryz.ntmps138
  go_upto_region 1 with fail
  refine wp_region_held_drew (S := fun w' => w'.cell? ⟨g, 0, none⟩ = some (.int .u8 (kk : Int)) ∧ w'.cell? ⟨g, 1, none⟩ = some (.int .i64 kn) ∧ w'.cell? ⟨g, 2, none⟩ = some (.int .u8 (vk : Int)) ∧ w'.cell? ⟨g, 3, none⟩ = some (.int .i64 vn)) mixed ⟨k0, k1, v0, v1⟩ (fun hS => ?_)
  refine wpAnyH_take (i := 1) (v := ?va1) rfl (by kernel_rfl) (by kernel_rfl) (by kernel_rfl) (fun _ _ _ h => h) (.inl ⟨by rfl, ?ha1⟩) hS ?ra1
  case ha1 =>
    intro w' hs
    (try dsimp only at hs)
    go_split_ands
    go_simp
    try with_reducible rfl
  simp only [List.getElem_toArray, List.getElem_cons_succ, List.getElem_cons_zero, Act.put, List.setIfInBounds_toArray, List.set_cons_zero, List.set_cons_succ]
  refine wpAnyH_take (i := 2) (v := ?va2) rfl (by kernel_rfl) (by kernel_rfl) (by kernel_rfl) (fun _ _ _ h => h) (.inl ⟨by rfl, ?ha2⟩) hS ?ra2
  case ha2 =>
    intro w' hs
    (try dsimp only at hs)
    go_split_ands
    go_simp
    try with_reducible rfl
  simp only [List.getElem_toArray, List.getElem_cons_succ, List.getElem_cons_zero, Act.put, List.setIfInBounds_toArray, List.set_cons_zero, List.set_cons_succ]
  refine wpAnyH_take (i := 3) (v := ?va3) rfl (by kernel_rfl) (by kernel_rfl) (by kernel_rfl) (fun _ _ _ h => h) (.inl ⟨by rfl, ?ha3⟩) hS ?ra3
  case ha3 =>
    intro w' hs
    (try dsimp only at hs)
    go_split_ands
    go_simp
    try with_reducible rfl
  simp only [List.getElem_toArray, List.getElem_cons_succ, List.getElem_cons_zero, Act.put, List.setIfInBounds_toArray, List.set_cons_zero, List.set_cons_succ]
  refine wpAnyH_take (i := 4) (v := ?va4) rfl (by kernel_rfl) (by kernel_rfl) (by kernel_rfl) (fun _ _ _ h => h) (.inl ⟨by rfl, ?ha4⟩) hS ?ra4
  case ha4 =>
    intro w' hs
    (try dsimp only at hs)
    go_split_ands
    go_simp
    try with_reducible rfl
  simp only [List.getElem_toArray, List.getElem_cons_succ, List.getElem_cons_zero, Act.put, List.setIfInBounds_toArray, List.set_cons_zero, List.set_cons_succ]
  refine wpAnyH_take (i := 5) (v := ?va5) rfl (by kernel_rfl) (by kernel_rfl) (by kernel_rfl) (fun _ _ _ h => h) (.inl ⟨by rfl, ?ha5⟩) hS ?ra5
  case ha5 =>
    intro w' hs
    (try dsimp only at hs)
    go_split_ands
    go_simp
    try with_reducible rfl
  simp only [List.getElem_toArray, List.getElem_cons_succ, List.getElem_cons_zero, Act.put, List.setIfInBounds_toArray, List.set_cons_zero, List.set_cons_succ]
  refine wpAnyH_take (i := 6) (v := ?va6) rfl (by kernel_rfl) (by kernel_rfl) (by kernel_rfl) (fun _ _ _ h => h) (.inl ⟨by rfl, ?ha6⟩) hS ?ra6
  case ha6 =>
    intro w' hs
    (try dsimp only at hs)
    go_split_ands
    go_simp
    try with_reducible rfl
  simp only [List.getElem_toArray, List.getElem_cons_succ, List.getElem_cons_zero, Act.put, List.setIfInBounds_toArray, List.set_cons_zero, List.set_cons_succ]
  refine wpAnyH_take (i := 7) (v := ?va7) rfl (by kernel_rfl) (by kernel_rfl) (by kernel_rfl) (fun _ _ _ h => h) (.inl ⟨by rfl, ?ha7⟩) hS ?ra7
  case ha7 =>
    intro w' hs
    (try dsimp only at hs)
    go_split_ands
    go_simp
    try with_reducible rfl
  simp only [List.getElem_toArray, List.getElem_cons_succ, List.getElem_cons_zero, Act.put, List.setIfInBounds_toArray, List.set_cons_zero, List.set_cons_succ]
  refine wpAnyH_take (i := 8) (v := ?va8) rfl (by kernel_rfl) (by kernel_rfl) (by kernel_rfl) (fun _ _ _ h => h) (.inl ⟨by rfl, ?ha8⟩) hS ?ra8
  case ha8 =>
    intro w' hs
    (try dsimp only at hs)
    go_split_ands
    go_simp
    try with_reducible rfl
  simp only [List.getElem_toArray, List.getElem_cons_succ, List.getElem_cons_zero, Act.put, List.setIfInBounds_toArray, List.set_cons_zero, List.set_cons_succ]
  refine wpAnyH_ready (rs := [0, 9]) (by kernel_rfl) (by simp) (AllReadyH.cons rfl (fun K hK => ?_) (AllReadyH.cons rfl (fun K hK => ?_) AllReadyH.nil))
  · go_simp
    refine hK.out _ _ ⟨k0, k1, v0, v1⟩ (fun hS => ?_)
    clear hK
    refine wpAnyH_ready (rs := [9]) (by kernel_rfl) (by simp) (AllReadyH.cons rfl (fun K hK => ?_) AllReadyH.nil)
    go_simp
    refine hK.out _ _ ⟨n0, n1, n2, n3⟩ (fun hS => ?_)
    clear hK
    refine wpAnyH_ready (rs := [10]) (by kernel_rfl) (by simp) (AllReadyH.cons rfl (fun K hK => ?_) AllReadyH.nil)
    refine wp_append_run hrun rfl rfl rfl ?_
    refine hK.out _ _ ⟨m0, m1, m2, m3⟩ (fun hS => ?_)
    clear hK
    refine wpAnyH_ready (rs := [11]) (by kernel_rfl) (by simp) (AllReadyH.cons rfl (fun K hK => ?_) AllReadyH.nil)
    go_simp
    refine hK.out _ _ ⟨q0, q1, q2, q3⟩ (fun hS => ?_)
    clear hK
    refine wpAnyH_done (by kernel_rfl) ?_ _
    clear hS
    go_wp2_with fail
    go_ret
    exact ⟨rfl, HF.out⟩
  · go_simp
    refine hK.out _ _ ⟨n0, n1, n2, n3⟩ (fun hS => ?_)
    clear hK
    refine wpAnyH_ready (rs := [0]) (by kernel_rfl) (by simp) (AllReadyH.cons rfl (fun K hK => ?_) AllReadyH.nil)
    go_simp
    refine hK.out _ _ ⟨n0, n1, n2, n3⟩ (fun hS => ?_)
    clear hK
    refine wpAnyH_ready (rs := [10]) (by kernel_rfl) (by simp) (AllReadyH.cons rfl (fun K hK => ?_) AllReadyH.nil)
    refine wp_append_run hrun rfl rfl rfl ?_
    refine hK.out _ _ ⟨m0, m1, m2, m3⟩ (fun hS => ?_)
    clear hK
    refine wpAnyH_ready (rs := [11]) (by kernel_rfl) (by simp) (AllReadyH.cons rfl (fun K hK => ?_) AllReadyH.nil)
    go_simp
    refine hK.out _ _ ⟨q0, q1, q2, q3⟩ (fun hS => ?_)
    clear hK
    refine wpAnyH_done (by kernel_rfl) ?_ _
    clear hS
    go_wp2_with fail
    go_ret
    exact ⟨rfl, HF.out⟩
end
end Go.Proofs.YthejclgihhfenaaGreat.Hd

/-
  Layer 14: the developers' table: Values, whole; what leads on is told to a closure.
-/
namespace Go.Proofs.YthejclgihhfenaaGreat.Hd
open Go Go.RowKit Go.Proofs.YthejclgihhfenaaGreat.Pl Go.Proofs.YthejclgihhfenaaGreat.Tb Go.Proofs.YthejclgihhfenaaGreat.Vm Go.Proofs.YthejclgihhfenaaGreat.Hp Go.Proofs.YthejclgihhfenaaGreat.Td

def plV (l : List Plc) : List Vl := l.flatMap (fun p => [p.k, p.v])
theorem plV_len (l : List Plc) : (plV l).length = 2 * l.length := by
  induction l with
  | nil => rfl
  | cons p l ih =>
    show (_ :: _ :: plV l).length = _
    rw [List.length_cons, List.length_cons, ih, List.length_cons]; omega
theorem plV_app (l : List Plc) (p : Plc) : plV (l ++ [p]) = plV l ++ [p.k, p.v] := by unfold plV; rw [List.flatMap_append]; rfl
theorem plV_tbl (l : List Plc) : plV l = valuesT (tblOf l) := by
  unfold plV valuesT tblOf
  rw [List.flatMap_map]
  rfl
section
variable {w w' : World} {b mb κ B : Nat} {l : List Plc} {lv ln : Int} {L : List Vl} {v : Value}
set_option maxRecDepth 100000 in
theorem behind_all (h : TM w b mb l lv ln) (hK : Kd w κ B [] v) (hb : b ∉ kF κ v) (hm : mb ∉ kF κ v) (hn : ∀ p ∈ l, p.b ∉ kF κ v) (hl : l.length ≤ 65536) (hB : B ≤ w.heap.size) :
    Calls Tryz.prog 122 #[.pointer (some ⟨b, 0, none⟩), .pointer (some ⟨b, 2, none⟩), .func (.func 138) #[] #[.pointer (some ⟨κ, 0, none⟩)]] w fun e w' => (∃ a, e = .returned a) ∧ KS κ B v w (plV l) w' := by
  have HH := Lib.hid h
  have HK := Lib.hid hK
  have HN := Lib.hid (And.intro hb (And.intro hm hn))
  have HL := Lib.hid hl
  have HB := Lib.hid hB
  have hx : w.cell? ⟨b, 2 + 5, none⟩ = some (.pointer (some (nextA b l))) := h.firsts
  clear h hK hb hm hn hl hB
  go_enter Tryz.func122, Tryz.ntmps122
  go_wp2_with fail
  go_loopg [1] l.length (fun r x wr => ∃ l3 l4 : List Plc, r = l3.length ∧ x = .pointer (some (nextA b l3)) ∧ l = l4 ++ l3 ∧ KS κ B v w (plV l4) wr)
  case atStart => exact ⟨l, [], rfl, rfl, rfl, KS.refl HK.out⟩
  case round =>
    obtain ⟨l3, l4, rfl, rfl, hl, hks⟩ := hrel
    have HLL := Lib.hid hl
    have HKS := Lib.hid hks
    have hT := HH.out.turns hks.turns HN.out.1 HN.out.2.1 HN.out.2.2
    have HT := Lib.hid hT
    clear hl hks hT
    cases l3 with
    | nil =>
      have hq := neq_same ⟨b, 2, none⟩ wr
      rw [show nextA b [] = ⟨b, 2, none⟩ from rfl]
      go_wp2_with fail
      go_ret
      have h1 := HLL.out
      rw [List.append_nil] at h1
      exact ⟨⟨_, rfl⟩, by rw [h1]; exact HKS.out⟩
    | cons q l3 =>
      have hq : q ∈ l := by rw [HLL.out]; simp
      have hd := HT.out.differs hq
      have hn : wr.cell? ⟨q.b, 5, none⟩ = some (.pointer (some (nextA b l3))) := by
        have h1 := HT.out
        rw [HLL.out] at h1
        exact h1.nexts
      obtain ⟨v', hkd, hsub⟩ := HKS.out.kd
      have hqb : q.b ∉ kF κ v' := fun hm => by
        rcases hsub _ hm with h1 | h1
        · exact HN.out.2.2 q hq h1
        · have h2 := (HH.out.nodes q hq).shape.lt
          omega
      have hl4 : (plV l4).length ≤ 500000 := by
        have h1 := HL.out
        have h2 := congrArg List.length HLL.out
        rw [List.length_append] at h2
        rw [plV_len]
        omega
      have c := val1_fn (HT.out.nodes q hq) hkd hqb hl4 (Nat.le_trans HB.out HKS.out.turns.size)
      have HQ := Lib.hid (And.intro hkd (And.intro hq hqb))
      rw [show nextA b (q :: l3) = ⟨q.b, 0, none⟩ from rfl]
      clear hkd hsub hqb hl4 hq
      go_wp2_with fail
      refine c.mono ?_
      rintro e w1 ⟨rfl, hks⟩
      have hnx : w1.cell? ⟨q.b, 5, none⟩ = some (.pointer (some (nextA b l3))) := cell_turns hn hks.turns HQ.out.2.2
      have HKS2 := Lib.hid (HKS.out.then HQ.out.1 hks)
      clear hks hn hd c
      go_wp2_with fail
      go_roundg l3.length
      case rel => exact ⟨l3, l4 ++ [q], rfl, rfl, by rw [HLL.out]; simp, by rw [plV_app]; exact HKS2.out⟩
      case measure => exact Nat.lt_succ_self _
set_option maxRecDepth 100000 in
/-- The table's values: a list of the call's own. -/
theorem values_fn {b : Nat} {t : Tbl} {F : List Nat} (h : TA w b t F) (hl : t.length ≤ 65536) :
    Calls Tryz.prog 126 #[.pointer (some ⟨b, 0, none⟩)] w fun e w' => ∃ v, e = .returned v ∧ OwnV w.heap.size w' v (valuesT t) ∧ Below w.heap.size w w' := by
  obtain ⟨mb, l, vf, fd, lv, ln, hT, hF, hI, rfl, rfl⟩ := h
  have hl : l.length ≤ 65536 := by rw [show l.length = (tblOf l).length from (List.length_map _).symm]; exact hl
  rw [← plV_tbl]
  have hself := hT.head.self
  have hm := hT.head.map
  obtain ⟨M, hM, hp⟩ := hT.map
  have hlen : ∀ ty : TypeId, (Builtin.len_ #[137] ty #[.map (some mb)]).run Tryz.prog w = .ok (.int .i64 (l.length : Int)) w := fun ty => by
    obtain ⟨D, hs, ho, _⟩ := hp
    rw [← hs]
    rw [← hs] at ho
    exact (ho w mb hM).len Tryz.underlying137 ty
  have HT := Lib.hid hT
  have HL := Lib.hid hl
  obtain ⟨n, hn⟩ : ∃ n, l.length = n := ⟨_, rfl⟩
  have HN := Lib.hid hn
  rw [hn] at hlen hl
  have hmul := IntWalk.i64_in (2 * (n : Int)) (by omega)
  clear hT hF hI hp hn
  obtain ⟨MC, hMC⟩ : ∃ MC, MC = madeCells #[Value.int .u8 0, Value.int .i64 0] ((2 * n) * 2) := ⟨_, rfl⟩
  obtain ⟨iB, hiB, hzB, hsB, hbB⟩ := info_parts infoVl
  have hmk : ∀ W : World, (Instr.makeSlice 31 (.int .i64 0) (.int .i64 (2 * (n : Int)))).run Tryz.prog W = .ok (.slice (some ⟨W.heap.size, 0, none⟩) 0 (2 * n)) (W.alloc (.cells MC 37)) := fun W => by
    have := run_make (P := Tryz.prog) W 31 37 iB (.agg #[.int .u8 0, .int .i64 0]) Tryz.underlying31 hiB hzB .i64 .i64 0 (2 * (n : Int)) (by omega) (by omega) (by rw [hbB]; omega) (by omega)
    rw [hsB] at this
    rw [show (2 * (n : Int)).toNat = 2 * n by omega] at this
    simp only [Int.toNat_zero] at this
    rw [this, hMC]
    rfl
  have HOW := Lib.hid (World.ownsRow_made (base := w.heap.size) (size := 2) (e := 37) w MC (2 * n) (Nat.le_refl _) (Nat.le_trans (m := 131072) (by omega) (by decide)) (by rw [hMC, size_madeCells]))
  clear hMC hiB hzB hsB hbB
  go_enter Tryz.func126, Tryz.ntmps126
  go_wp2_with fail
  refine (Td.made_fn b w hself).mono ?_
  rintro e w1 ⟨rfl, hw⟩
  subst hw
  obtain ⟨W, hW⟩ : ∃ W, (w1.alloc (.cells MC 37)).alloc (.cells #[.slice (some ⟨w1.heap.size, 0, none⟩) 0 (2 * n)] listT) = W := ⟨_, rfl⟩
  have hbW : Below w1.heap.size w1 W := by
    rw [← hW]
    exact ((Below.refl _ _).alloc (Nat.le_refl _) _).alloc (by simp) _
  have hnW : W.heap[w1.heap.size + 1]? = some (.cells #[.slice (some ⟨w1.heap.size, 0, none⟩) 0 (2 * n)] listT (0, 0)) := by
    rw [← hW, ← size_alloc' w1 (.cells MC 37)]
    exact new_block _ _
  have hoW : OwnV w1.heap.size W (.slice (some ⟨w1.heap.size, 0, none⟩) 0 (2 * n)) [] := by
    rw [← hW]
    unfold OwnV
    exact World.ownsRow.alloc HOW.out _
  have hK : Kd W (w1.heap.size + 1) w1.heap.size [] (.slice (some ⟨w1.heap.size, 0, none⟩) 0 (2 * n)) := ⟨⟨_, hnW, rfl⟩, cell_of hnW 0 _ rfl, hoW, fun e => by
    have e := Option.some.inj e
    dsimp only at e
    omega⟩
  have hkf : ∀ x, x < w1.heap.size → x ∉ kF (w1.heap.size + 1) (.slice (some ⟨w1.heap.size, 0, none⟩) 0 (2 * n)) := fun x hx hm => by
    rcases in_kF.1 hm with e | e
    · omega
    · have e := Option.some.inj e
      dsimp only at e
      omega
  have c := behind_all (HT.out.below hbW) hK (hkf _ HT.out.head.shape.lt) (hkf _ HT.out.mapLt) (fun p hp => hkf _ (HT.out.nodes p hp).shape.lt) HL.out hbW.size
  have HBW := Lib.hid hbW
  unfold listT at hW
  clear hnW hoW hK hkf hbW
  go_wp2_with fail
  refine c.mono ?_
  rintro e w2 ⟨⟨a, rfl⟩, hks⟩
  obtain ⟨v', hkd, _⟩ := hks.kd
  have hc := hkd.cell
  have HO := Lib.hid hkd.own
  have HB2 := Lib.hid (HBW.out.trans (hks.turns.to_below HBW.out.size (fun x hx => by
    rcases in_kF.1 hx with e | e
    · omega
    · have e := Option.some.inj e
      dsimp only at e
      omega)))
  clear c hks hkd
  go_wp2_with fail
  go_ret
  exact ⟨_, rfl, HO.out, HB2.out⟩
end
end Go.Proofs.YthejclgihhfenaaGreat.Hd
