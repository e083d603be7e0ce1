/-
  Layer 5: Same.
-/
import Derived.Test.YtmddffacjkkeiaaDvRight
import Derived.Test.YtmddffacjkkeiaaDvSame
import Derived.Test.YtmddffacjkkeiaaDvSameMath
namespace Go.Proofs.Ytmddffacjkkeiaa.Nd
open Go Go.RowKit Go.ChangeShapes Go.WideShapes Go.Shelf
open Go.Proofs.Ytmddffacjkkeiaa.Rf

attribute [local go_sem] Oper.semAt_some

theorem own_right (v : Value) (l : List Nd) (root : Int) (w : World) (hS : SynAt w v l root) (hl9 : l.length ≤ 1000000) (hfine : ∀ n ∈ l, Fine n) :
    Calls Try.prog 8 #[v] w (SaysR w l root) := callsIn_wide.1 (right_fn v l root w hS hl9 hfine)

/-- What Same answers. -/
def SaysS (w : World) (l m : List Nd) (x y : Int) (e : Ending) (w' : World) : Prop := ∃ b, e = .returned (.bool b) ∧ (b = true ↔ SameC (rowD nmD) l x m y) ∧ Below w.heap.size w w'

theorem leave_same {n : Nat} {tmps : Array Value} {R : Ending → World → Prop} {w : World} {b : Bool} {g : Nat} (ht : tmps[4]?.getD undef = .pointer (some ⟨g, 0, none⟩)) (hc : w.cell? ⟨g, 0, none⟩ = some (.bool b)) (h : R (.returned (.bool b)) w) : LeavesInM Fence.wide n Try.prog Try.f12 tmps R [] .returning w := by
  refine ⟨.bool b, ?_, h⟩
  simp [results, Try.f12, go_sem, ht, hc]

/-- What a round of Same's first loop turns. -/
def pcS (n₁ Bs g : Nat) (o : Obj) : Bool := decide (n₁ ≤ g) && decide (g ≠ Bs) && tyIn [3, 28] o
theorem pcS_cells {n₁ Bs g : Nat} {o : Obj} (h : pcS n₁ Bs g o = true) : o.isCells = true := by
  unfold pcS at h
  rw [Bool.and_eq_true] at h
  exact tyIn_cells h.2
theorem pcS_yes {n₁ Bs g : Nat} {cs : Array Value} {t : TypeId} {fr : Nat × Nat} (hg : n₁ ≤ g) (hb : g ≠ Bs) (ht : [3, 28].contains t = true) : pcS n₁ Bs g (.cells cs t fr) = true := by
  unfold pcS tyIn
  rw [decide_eq_true hg, decide_eq_true hb]
  exact ht
theorem pcS_ge {n₁ Bs g : Nat} {o : Obj} (h : pcS n₁ Bs g o = true) : n₁ ≤ g := by
  unfold pcS at h
  simp only [Bool.and_eq_true, decide_eq_true_iff] at h
  exact h.1.1
theorem pcS_low {n₁ Bs g : Nat} {o : Obj} (h : g < n₁) : pcS n₁ Bs g o = false := by
  unfold pcS
  rw [decide_eq_false (by omega)]; rfl
theorem pcS_syn {n₁ g : Nat} {o : Obj} : pcS n₁ g g o = false := by
  unfold pcS
  rw [decide_eq_false (show ¬ g ≠ g by simp), Bool.and_false]; rfl
theorem pcS_pb {n₀ n₁ Bs B g : Nat} {o : Obj} (h : pcS n₁ Bs g o = true) (hn : n₀ ≤ n₁) : pbW n₀ Bs B g o = true := by
  unfold pcS at h
  unfold pbW
  simp only [Bool.and_eq_true, decide_eq_true_iff] at h
  obtain ⟨⟨h1, h2⟩, h3⟩ := h
  rw [decide_eq_true (show n₀ ≤ g by omega), decide_eq_true h2]
  cases o with
  | cells c t fr =>
    have h4 : [3, 28].contains t = true := h3
    have h5 : t = 3 ∨ t = 28 := by simpa using h4
    rcases h5 with rfl | rfl <;> rfl
  | _ => simp [tyIn] at h3

/-- So far all of b's nodes are as a's. -/
def AlikeS (l m : List Nd) (x : Int) (pre : List PV) : Prop := ∀ (j : Nat) (p q : PV), (allV l x)[j]? = some p → pre[j]? = some q → Like (at' l p.1) (at' m q.1)
theorem vis_more (l : List Nd) : ∀ (k j : Nat) (T : List PV), ∃ r, vis l (k + j) T = vis l k T ++ r
  | 0, j, T => ⟨vis l (0 + j) T, rfl⟩
  | k + 1, j, [] => ⟨[], by rw [vis_nil, vis_nil]; rfl⟩
  | k + 1, j, x :: t => by
    obtain ⟨r, h⟩ := vis_more l k j (kidsLev l x ++ t)
    refine ⟨r, ?_⟩
    rw [show k + 1 + j = (k + j) + 1 by omega]
    show x :: vis l (k + j) _ = x :: vis l k _ ++ r
    rw [h]; rfl
theorem vis_at {l : List Nd} {root : Int} (ht : Tied l root) {k j : Nat} {q : PV} (h : (vis l k [(root, 0)])[j]? = some q) : (allV l root)[j]? = some q := by
  rcases Nat.le_total k l.length with h1 | h1
  · obtain ⟨r, hr⟩ := vis_more l k (l.length - k) [(root, 0)]
    rw [show k + (l.length - k) = l.length by omega] at hr
    show (vis l l.length [(root, 0)])[j]? = some q
    rw [hr, List.getElem?_append_left (List.getElem?_eq_some_iff.1 h).1, h]
  · rw [(walk_done k l.length h1 (walk_ends ht)).1] at h
    exact h
theorem cellS {A C : World} {b j : Nat} {v : Value} (h : Below A.heap.size A C) (hc : A.cell? ⟨b, j, none⟩ = some v) : C.cell? ⟨b, j, none⟩ = some v := (h.cell (p := ⟨b, j, none⟩) (lt_cell hc)).trans hc
theorem _root_.Go.Proofs.Ytmddffacjkkeiaa.Rf.Tame.of_grow {p : Nat → Obj → Bool} {A C : World} (h : Below A.heap.size A C) : Tame p A C := ⟨h.os, h.tape, h.output, h.size, fun g _ ho _ => (h.block g (lt_of_heap ho)).trans ho⟩

set_option maxRecDepth 100000 in
set_option maxHeartbeats 40000000 in
theorem same_fn (va vb : Value) (l m : List Nd) (x y : Int) (w : World) (hS : SynAt w va l x) (hT : SynAt w vb m y) (hl9 : l.length ≤ 1000000) (hm9 : m.length ≤ 1000000) (hfine : ∀ n ∈ l, Fine n) (hfine2 : ∀ n ∈ m, Fine n) :
    CallsIn Fence.wide 8 Try.prog 12 #[va, vb] w (SaysS w l m x y) := by
  have HSA := Lib.hid hS
  have HSB := Lib.hid hT
  obtain ⟨ao, c, rfl, hNd, hr1, hr2⟩ := hS.open
  obtain ⟨bo, d, rfl, hMd, hq1, hq2⟩ := hT.open
  have HND := Lib.hid hNd
  have HMD := Lib.hid hMd
  have HFINE := Lib.hid hfine
  have HFINE2 := Lib.hid hfine2
  have rA : ∀ W, Below w.heap.size w W → Calls Try.prog 8 #[.agg #[.slice ao l.length c, .int .i64 x]] W (SaysR W l x) := fun W hW => own_right _ l x W (HSA.out.below hW) hl9 hfine
  have rB : ∀ W, Below w.heap.size w W → Calls Try.prog 8 #[.agg #[.slice bo m.length d, .int .i64 y]] W (SaysR W m y) := fun W hW => own_right _ m y W (HSB.out.below hW) hm9 hfine2
  have RA := Lib.hid rA
  have RB := Lib.hid rB
  clear hS hT hNd hMd hfine hfine2 rA rB
  obtain ⟨N, hN⟩ : ∃ N, N = l.length := ⟨_, rfl⟩
  obtain ⟨M, hM⟩ : ∃ M, M = m.length := ⟨_, rfl⟩
  rw [← hN] at hl9 HND HSA RA ⊢
  rw [← hM] at hm9 HMD HSB RB ⊢
  have HN := Lib.hid hN
  have HM := Lib.hid hM
  -- the three boxes
  have hB : Below w.heap.size w (((w.alloc (.cells #[.slice ao N c, .int .i64 x] 24)).alloc (.cells #[.slice bo M d, .int .i64 y] 24)).alloc (.cells #[.bool false] 4)) := (((Below.refl _ _).alloc (Nat.le_refl _) _).alloc (by simp) _).alloc (by simp; omega) _
  have hX1 : (((w.alloc (.cells #[.slice ao N c, .int .i64 x] 24)).alloc (.cells #[.slice bo M d, .int .i64 y] 24)).alloc (.cells #[.bool false] 4)).heap[w.heap.size]? = some (.cells #[.slice ao N c, .int .i64 x] 24 (0, 0)) := (Below.heap_alloc _ _ _ (by simp; omega)).trans ((Below.heap_alloc _ _ _ (by simp)).trans (new_block w _))
  have hX2 : (((w.alloc (.cells #[.slice ao N c, .int .i64 x] 24)).alloc (.cells #[.slice bo M d, .int .i64 y] 24)).alloc (.cells #[.bool false] 4)).heap[w.heap.size + 1]? = some (.cells #[.slice bo M d, .int .i64 y] 24 (0, 0)) := (Below.heap_alloc _ _ _ (by simp)).trans (by
    have := new_block (w.alloc (.cells #[.slice ao N c, .int .i64 x] 24)) (.cells #[.slice bo M d, .int .i64 y] 24)
    rwa [World.size_alloc] at this)
  have hX3 : (((w.alloc (.cells #[.slice ao N c, .int .i64 x] 24)).alloc (.cells #[.slice bo M d, .int .i64 y] 24)).alloc (.cells #[.bool false] 4)).heap[w.heap.size + 2]? = some (.cells #[.bool false] 4 (0, 0)) := by
    have := new_block ((w.alloc (.cells #[.slice ao N c, .int .i64 x] 24)).alloc (.cells #[.slice bo M d, .int .i64 y] 24)) (.cells #[.bool false] 4)
    rwa [World.size_alloc, World.size_alloc] at this
  obtain ⟨w1, hw1⟩ : ∃ w1, ((w.alloc (.cells #[.slice ao N c, .int .i64 x] 24)).alloc (.cells #[.slice bo M d, .int .i64 y] 24)).alloc (.cells #[.bool false] 4) = w1 := ⟨_, rfl⟩
  rw [hw1] at hB hX1 hX2 hX3
  have HB := Lib.hid hB
  have HX1 := Lib.hid hX1
  have HX2 := Lib.hid hX2
  have HX3 := Lib.hid hX3
  have hno : ¬ SameC (rowD nmD) l x m y → ∀ w', Below w.heap.size w w' → w'.heap[w.heap.size + 2]? = some (.cells #[.bool false] 4 (0, 0)) → ∀ tmps : Array Value, tmps[4]?.getD undef = .pointer (some ⟨w.heap.size + 2, 0, none⟩) → LeavesInM Fence.wide 8 Try.prog Try.f12 tmps (SaysS w l m x y) [] .returning w' := fun h w' hb hx tmps ht =>
    leave_same (g := w.heap.size + 2) (b := false) ht (cell_of hx 0 _ rfl) ⟨false, rfl, ⟨fun e => Bool.noConfusion e, fun e => absurd e h⟩, hb⟩
  have HNO := Lib.hid hno
  have c0 := cell_of hX1 0 (.slice ao N c) rfl
  have c1 := cell_of hX1 1 (.int .i64 x) rfl
  clear hB hX1 hX2 hX3 hno hN hM
  refine callsIn_of_wp_marks Try.func12 rfl trivial ?_ rfl
  simp only [Try.ntmps12, List.size_toArray, List.length_cons, List.length_nil, Nat.reduceAdd, Nat.reduceSub, Array.replicate_succ, Array.replicate_zero, List.push_toArray, List.append_toArray, List.nil_append, List.cons_append]
  gi_wp2_with fail
  refine ⟨trivial, (callsIn_wide.2 (RA.out _ HB.out)).mono ?_⟩
  rintro e w2 ⟨b1, rfl, hb1, b2⟩
  have hB2 := HB.out.trans (b2.mono HB.out.size)
  have x1 := (b2.block _ (lt_of_heap HX1.out)).trans HX1.out
  have x2 := (b2.block _ (lt_of_heap HX2.out)).trans HX2.out
  have x3 := (b2.block _ (lt_of_heap HX3.out)).trans HX3.out
  have HB2 := Lib.hid hB2
  have HY1 := Lib.hid x1
  have HY2 := Lib.hid x2
  have HY3 := Lib.hid x3
  have HR1 := Lib.hid hb1
  have r0 := cell_of x3 0 (.bool false) rfl
  have rf := free_of x3 0
  have d0 := cell_of x2 0 (.slice bo M d) rfl
  have d1 := cell_of x2 1 (.int .i64 y) rfl
  clear b2 hB2 x1 x2 x3 hb1 c0 c1
  cases b1 with
  | false =>
    gi_wp2_with fail
    refine ⟨trivial, ?_⟩
    gi_wp2_with fail
    exact HNO.out (fun H => by have := HR1.out.2 H.one; cases this) _ (HB2.out.setCell (p := ⟨w.heap.size + 2, 0, none⟩) (by show w.heap.size ≤ w.heap.size + 2; omega) _) (Joins.block_setCell (i := 0) HY3.out _) _ rfl
  | true =>
  have hRA := HR1.out.1 rfl
  have HRA := Lib.hid hRA
  clear hRA
  gi_wp2_with fail
  refine ⟨trivial, (callsIn_wide.2 (RB.out _ HB2.out)).mono ?_⟩
  rintro e w3 ⟨b1, rfl, hb1, b2⟩
  have hB3 := HB2.out.trans (b2.mono HB2.out.size)
  have x1 := (b2.block _ (lt_of_heap HY1.out)).trans HY1.out
  have x2 := (b2.block _ (lt_of_heap HY2.out)).trans HY2.out
  have x3 := (b2.block _ (lt_of_heap HY3.out)).trans HY3.out
  have HB3 := Lib.hid hB3
  have HZ1 := Lib.hid x1
  have HZ2 := Lib.hid x2
  have HZ3 := Lib.hid x3
  have HR2 := Lib.hid hb1
  have p0 := cell_of x3 0 (.bool false) rfl
  have pf := free_of x3 0
  have c0 := cell_of x1 0 (.slice ao N c) rfl
  have q0 := cell_of x2 0 (.slice bo M d) rfl
  clear b2 hB3 x1 x2 x3 hb1 d0 d1 r0 rf
  have hset : Below w.heap.size w (w3.setCell ⟨w.heap.size + 2, 0, none⟩ (.bool false)) ∧ (w3.setCell ⟨w.heap.size + 2, 0, none⟩ (.bool false)).heap[w.heap.size + 2]? = some (.cells #[.bool false] 4 (0, 0)) := ⟨HB3.out.setCell (p := ⟨w.heap.size + 2, 0, none⟩) (by show w.heap.size ≤ w.heap.size + 2; omega) _, Joins.block_setCell (i := 0) HZ3.out _⟩
  have HSET := Lib.hid hset
  clear hset
  cases b1 with
  | false =>
    gi_wp2_with fail
    exact HNO.out (fun H => by have := HR2.out.2 H.two; cases this) _ HSET.out.1 HSET.out.2 _ rfl
  | true =>
  have hRB := HR2.out.1 rfl
  have HRB := Lib.hid hRB
  clear hRB
  by_cases hNM : N = M
  case neg =>
    have e1 : ((N : Int) != (M : Int)) = true := by rw [bne_iff_ne]; omega
    have HNM := Lib.hid hNM
    clear hNM
    gi_wp2_with fail
    exact HNO.out (fun H => HNM.out (by rw [HN.out, HM.out]; exact H.len)) _ HSET.out.1 HSET.out.2 _ rfl
  subst hNM
  have e1 : ((N : Int) != (N : Int)) = false := by simp
  obtain ⟨B, hB⟩ : ∃ B, w3.heap.size = B := ⟨_, rfl⟩
  have z1 := lt_of_heap HZ1.out
  have z2 := lt_of_heap HZ2.out
  have z3 := lt_of_heap HZ3.out
  have hb5 : Below w.heap.size w ((w3.alloc (.cells #[.slice none 0 0] 28)).alloc (.cells #[.slice ao N c, .int .i64 x] 24)) := (HB3.out.alloc HB3.out.size _).alloc (by have := HB3.out.size; simp; omega) _
  have hx1 : ((w3.alloc (.cells #[.slice none 0 0] 28)).alloc (.cells #[.slice ao N c, .int .i64 x] 24)).heap[w.heap.size]? = some (.cells #[.slice ao N c, .int .i64 x] 24 (0, 0)) := (Below.heap_alloc _ _ _ (by simp; omega)).trans ((Below.heap_alloc w3 _ _ z1).trans HZ1.out)
  have hx2 : ((w3.alloc (.cells #[.slice none 0 0] 28)).alloc (.cells #[.slice ao N c, .int .i64 x] 24)).heap[w.heap.size + 1]? = some (.cells #[.slice bo N d, .int .i64 y] 24 (0, 0)) := (Below.heap_alloc _ _ _ (by simp; omega)).trans ((Below.heap_alloc w3 _ _ z2).trans HZ2.out)
  have hx3 : ((w3.alloc (.cells #[.slice none 0 0] 28)).alloc (.cells #[.slice ao N c, .int .i64 x] 24)).heap[w.heap.size + 2]? = some (.cells #[.bool false] 4 (0, 0)) := (Below.heap_alloc _ _ _ (by simp; omega)).trans ((Below.heap_alloc w3 _ _ z3).trans HZ3.out)
  have hq5 : ((w3.alloc (.cells #[.slice none 0 0] 28)).alloc (.cells #[.slice ao N c, .int .i64 x] 24)).heap[B]? = some (.cells #[.slice none 0 0] 28 (0, 0)) := by
    rw [← hB]
    exact (Below.heap_alloc _ _ _ (by simp)).trans (new_block w3 _)
  have hy5 : ((w3.alloc (.cells #[.slice none 0 0] 28)).alloc (.cells #[.slice ao N c, .int .i64 x] 24)).heap[B + 1]? = some (.cells #[.slice ao N c, .int .i64 x] 24 (0, 0)) := by
    rw [← hB]
    have := new_block (w3.alloc (.cells #[.slice none 0 0] 28)) (.cells #[.slice ao N c, .int .i64 x] 24)
    rwa [World.size_alloc] at this
  have hB1 : w.heap.size + 2 < B := by omega
  have hxa := (Below.heap_alloc w3 (.cells #[.slice none 0 0] 28) _ z1).trans HZ1.out
  have k0 := cell_of hxa 0 (.slice ao N c) rfl
  have k1 := cell_of hxa 1 (.int .i64 x) rfl
  have cc1 := cell_of HZ1.out 1 (.int .i64 x) rfl
  clear hxa z1 z2 z3
  gi_wp2_with fail
  refine ⟨trivial, (callsIn_wide.2 (own_walk _ _ _ _ _)).mono ?_⟩
  rintro e w6 ⟨rfl, rfl⟩
  gi_wp2_with fail
  obtain ⟨W5, hW5⟩ : ∃ W5, (w3.alloc (.cells #[.slice none 0 0] 28)).alloc (.cells #[.slice ao N c, .int .i64 x] 24) = W5 := ⟨_, rfl⟩
  rw [hW5] at hb5 hx1 hx2 hx3 hq5 hy5 ⊢
  have s5 : W5.heap.size = B + 2 := by rw [← hW5, ← hB]; simp
  have HS5 := Lib.hid s5
  have HB1 := Lib.hid hB1
  have hseq := walk_seq (B + 1) ao c l x w W5 (by have := HN.out; rw [← this]; exact HND.out) HRA.out.tied (by have := HN.out; omega) (by have := HN.out; rw [← this]; exact hy5) hb5
  have hI0 : ∃ u, W5.heap[B]? = some (.cells #[u] 28 (0, 0)) ∧ W5.ownsRow B 3 1 u (List.length (α := PV) []) ((([] : List PV).map fun p => Value.int .i64 p.1)) ∧ W5.heap[w.heap.size]? = some (.cells #[.slice ao N c, .int .i64 x] 24 (0, 0)) ∧ W5.heap[w.heap.size + 1]? = some (.cells #[.slice bo N d, .int .i64 y] 24 (0, 0)) ∧ W5.heap[w.heap.size + 2]? = some (.cells #[.bool false] 4 (0, 0)) ∧ Below w.heap.size w W5 ∧ W5.heap[B + 1]? = some (.cells #[.slice ao N c, .int .i64 x] 24 (0, 0)) := ⟨_, hq5, ⟨rfl, .inl ⟨rfl, rfl⟩⟩, hx1, hx2, hx3, hb5, hy5⟩
  have HI0 := Lib.hid hI0
  clear hI0 hy5 hq5 hx1 hx2 hx3 hb5 hB1 hW5 s5
  refine range_law (w0 := W5) (by decide) (gf := 45) (lb := #[.pointer (some ⟨B + 1, 0, none⟩)]) (by first | rfl | (simp [hB]; done)) (enters_of Try.func45 (by kernel_rfl) rfl)
    hseq (Below.refl _ _) (fun _ => rfl) (pc := pcS B (B + 1)) (fun g o h => pcS_cells h) ?hpb
    (fun pre Wb => ∃ u, Wb.heap[B]? = some (.cells #[u] 28 (0, 0)) ∧ Wb.ownsRow B 3 1 u pre.length (pre.map fun p => Value.int .i64 p.1) ∧ Wb.heap[w.heap.size]? = some (.cells #[.slice ao N c, .int .i64 x] 24 (0, 0)) ∧ Wb.heap[w.heap.size + 1]? = some (.cells #[.slice bo N d, .int .i64 y] 24 (0, 0)) ∧ Wb.heap[w.heap.size + 2]? = some (.cells #[.bool false] 4 (0, 0)) ∧ Below w.heap.size w Wb ∧ Wb.heap[B + 1]? = some (.cells #[.slice ao N c, .int .i64 x] 24 (0, 0)))
    (fun _ _ => False) ?hI (fun _ _ _ h _ => h) HI0.out ?a₁ ?assign ?body ?done ?stop
  case assign =>
    intro l y Wb K hK
    gi_wp2
    exact hK
  case hpb =>
    intro g' o h
    rw [Bool.or_eq_true] at h
    have h5 := HS5.out
    have h6 := HB1.out
    rcases h with h | h
    · exact pcS_pb h (by omega)
    · unfold own at h
      simp only [Bool.and_eq_true, decide_eq_true_iff, Bool.not_eq_true'] at h
      exact pbW_own h.1.1 (by omega) (by omega) (by omega)
  case hI =>
    rintro s A C ⟨u, h1, h2, h3, h4, h5, h6, h9⟩ hT
    have h7 := HS5.out
    have h8 := HB1.out
    exact ⟨u, hT.same _ _ h1 (turn_no (by omega)), own_tame h2 hT (fun g cs => turn_ty rfl), hT.same _ _ h3 (turn_no (by omega)), hT.same _ _ h4 (turn_no (by omega)), hT.same _ _ h5 (turn_no (by omega)), h6.trans (hT.below (fun g o h => by have := turn_ge h; omega) h6.size), hT.same _ _ h9 (turn_no (by omega))⟩
  case stop =>
    intro D pre Wb _ _ h
    exact h.elim
  case done =>
    rintro D ys Wb hD ⟨m', hys, hend⟩ ⟨u, h1, h2, h3, h4, h5, h6, h9⟩ hK
    have hys2 : ys = allV l x := hys.trans (allV_of HRA.out.tied hend)
    rw [hys2] at h2
    have hlenA : (allV l x).length = N := HRA.out.all.trans HN.out.symm
    have hlenB : (allV m y).length = N := HRB.out.all.trans HM.out.symm
    have hpos : 0 < N := by
      have := HRA.out.tied.top
      unfold inR at this
      have := HN.out
      omega
    rw [hlenA] at h2
    have hrow := h2.2
    rcases hrow with ⟨_, hrow⟩ | ⟨g, cap, cur, rfl, hgB, hg, -, -, -, hcur⟩
    · omega
    have hcurAt : ∀ (j : Nat) (p : PV), (allV l x)[j]? = some p → cur[j]? = some (.int .i64 p.1) := by
      intro j p hp
      have hj : j < N := by rw [← hlenA]; exact (List.getElem?_eq_some_iff.1 hp).1
      have h7 : ((allV l x).map fun p => Value.int .i64 p.1)[j]? = some (.int .i64 p.1) := by rw [List.getElem?_map, hp]; rfl
      rw [← hcur, List.getElem?_take, if_pos (by omega), Array.getElem?_toList] at h7
      exact h7
    have HCUR := Lib.hid hcurAt
    have HLENA := Lib.hid hlenA
    have HLENB := Lib.hid hlenB
    obtain ⟨BB, hBB⟩ : ∃ BB, Wb.heap.size = BB := ⟨_, rfl⟩
    have z1 := lt_of_heap h1
    have z3 := lt_of_heap h3
    have z4 := lt_of_heap h4
    have z5 := lt_of_heap h5
    have zg := lt_of_heap hg
    have zk := lt_of_heap hK
    rw [hBB] at z1 z3 z4 z5 zg zk
    have keep : ∀ (k : Nat) (o : Obj), Wb.heap[k]? = some o → ((Wb.alloc (.cells #[.int .i64 0] 3)).alloc (.cells #[.slice bo N d, .int .i64 y] 24)).heap[k]? = some o := fun k o h => (Below.heap_alloc _ _ _ (by have := lt_of_heap h; simp; omega)).trans ((Below.heap_alloc _ _ _ (lt_of_heap h)).trans h)
    have hq5 : ((Wb.alloc (.cells #[.int .i64 0] 3)).alloc (.cells #[.slice bo N d, .int .i64 y] 24)).heap[BB]? = some (.cells #[.int .i64 0] 3 (0, 0)) := by
      rw [← hBB]
      exact (Below.heap_alloc _ _ _ (by simp)).trans (new_block Wb _)
    have hy5 : ((Wb.alloc (.cells #[.int .i64 0] 3)).alloc (.cells #[.slice bo N d, .int .i64 y] 24)).heap[BB + 1]? = some (.cells #[.slice bo N d, .int .i64 y] 24 (0, 0)) := by
      rw [← hBB]
      have := new_block (Wb.alloc (.cells #[.int .i64 0] 3)) (.cells #[.slice bo N d, .int .i64 y] 24)
      rwa [World.size_alloc] at this
    have hb5 : Below w.heap.size w ((Wb.alloc (.cells #[.int .i64 0] 3)).alloc (.cells #[.slice bo N d, .int .i64 y] 24)) := (h6.alloc h6.size _).alloc (by have := h6.size; simp; omega) _
    have hI0 : ((Wb.alloc (.cells #[.int .i64 0] 3)).alloc (.cells #[.slice bo N d, .int .i64 y] 24)).heap[BB]? = some (.cells #[.int .i64 ((List.length (α := PV) [] : Nat) : Int)] 3 (0, 0)) ∧ ((Wb.alloc (.cells #[.int .i64 0] 3)).alloc (.cells #[.slice bo N d, .int .i64 y] 24)).heap[B]? = some (.cells #[.slice (some ⟨g, 0, none⟩) N cap] 28 (0, 0)) ∧ ((Wb.alloc (.cells #[.int .i64 0] 3)).alloc (.cells #[.slice bo N d, .int .i64 y] 24)).heap[g]? = some (.cells cur 3 (0, 0)) ∧ ((Wb.alloc (.cells #[.int .i64 0] 3)).alloc (.cells #[.slice bo N d, .int .i64 y] 24)).heap[w.heap.size]? = some (.cells #[.slice ao N c, .int .i64 x] 24 (0, 0)) ∧ ((Wb.alloc (.cells #[.int .i64 0] 3)).alloc (.cells #[.slice bo N d, .int .i64 y] 24)).heap[w.heap.size + 1]? = some (.cells #[.slice bo N d, .int .i64 y] 24 (0, 0)) ∧ ((Wb.alloc (.cells #[.int .i64 0] 3)).alloc (.cells #[.slice bo N d, .int .i64 y] 24)).heap[w.heap.size + 2]? = some (.cells #[.bool false] 4 (0, 0)) ∧ Below w.heap.size w ((Wb.alloc (.cells #[.int .i64 0] 3)).alloc (.cells #[.slice bo N d, .int .i64 y] 24)) ∧ ((Wb.alloc (.cells #[.int .i64 0] 3)).alloc (.cells #[.slice bo N d, .int .i64 y] 24)).heap[D]? = some (.deferred (some [])) ∧ AlikeS l m x [] :=
      ⟨hq5, keep _ _ h1, keep _ _ hg, keep _ _ h3, keep _ _ h4, keep _ _ h5, hb5, keep _ _ hK, fun j p q _ h => by cases h⟩
    have hxa := (Below.heap_alloc Wb (.cells #[.int .i64 0] 3) _ (lt_of_heap h4)).trans h4
    have k0 := cell_of hxa 0 (.slice bo N d) rfl
    have k1 := cell_of hxa 1 (.int .i64 y) rfl
    have l0 := cell_of h4 0 (.slice bo N d) rfl
    have l1 := cell_of h4 1 (.int .i64 y) rfl
    clear h1 h2 h3 h4 h5 h6 h9 hK hys hys2 hend hcurAt hlenA hlenB hcur hg hxa keep hq5
    gi_wp2_with fail
    refine ⟨trivial, (callsIn_wide.2 (own_walk _ _ _ _ _)).mono ?_⟩
    rintro e w6 ⟨rfl, rfl⟩
    gi_wp2_with fail
    obtain ⟨W7, hW7⟩ : ∃ W7, (Wb.alloc (.cells #[.int .i64 0] 3)).alloc (.cells #[.slice bo N d, .int .i64 y] 24) = W7 := ⟨_, rfl⟩
    rw [hW7] at hI0 hy5 hb5 ⊢
    have s7 : W7.heap.size = BB + 2 := by rw [← hW7, ← hBB]; simp
    have HS7 := Lib.hid s7
    have HI2 := Lib.hid hI0
    have HZ := Lib.hid (show B < BB ∧ w.heap.size + 2 < BB ∧ g < BB ∧ D < BB ∧ W5.heap.size ≤ D ∧ 0 < N from ⟨z1, z5, zg, zk, hD, hpos⟩)
    have hseq := walk_seq (BB + 1) bo d m y w W7 (by have := HM.out; rw [← this]; exact HMD.out) HRB.out.tied (by have := HM.out; omega) (by have := HM.out; rw [← this]; exact hy5) hb5
    clear hI0 hy5 hb5 hW7 s7 k0 k1 l0 l1 z1 z3 z4 z5 zg zk hD hpos
    refine range_law (w0 := W7) (by decide) (gf := 45) (lb := #[.pointer (some ⟨BB + 1, 0, none⟩)]) (by first | rfl | (simp [hBB]; done)) (enters_of Try.func45 (by kernel_rfl) rfl)
      hseq (Below.refl _ _) (fun _ => rfl) (pc := pcR (w.heap.size + 1) (BB + 1)) (fun g o h => pcR_cells h) ?hpb2
      (fun pre W => W.heap[BB]? = some (.cells #[.int .i64 ((pre.length : Nat) : Int)] 3 (0, 0)) ∧ W.heap[B]? = some (.cells #[.slice (some ⟨g, 0, none⟩) N cap] 28 (0, 0)) ∧ W.heap[g]? = some (.cells cur 3 (0, 0)) ∧ W.heap[w.heap.size]? = some (.cells #[.slice ao N c, .int .i64 x] 24 (0, 0)) ∧ W.heap[w.heap.size + 1]? = some (.cells #[.slice bo N d, .int .i64 y] 24 (0, 0)) ∧ W.heap[w.heap.size + 2]? = some (.cells #[.bool false] 4 (0, 0)) ∧ Below w.heap.size w W ∧ W.heap[D]? = some (.deferred (some [])) ∧ AlikeS l m x pre)
      (fun pre W => W.heap[w.heap.size + 2]? = some (.cells #[.bool false] 4 (0, 0)) ∧ Below w.heap.size w W ∧ W.heap[D]? = some (.deferred (some [])) ∧ ¬ AlikeS l m x pre) ?hI2 ?hIx2 HI2.out ?a₂ ?assign2 ?body2 ?done2 ?stop2
    case assign2 =>
      intro l y Wb K hK
      gi_wp2
      exact hK
    case hpb2 =>
      intro g' o h
      rw [Bool.or_eq_true] at h
      have h5 := HS7.out
      obtain ⟨q1, q2, q3, q4, q5, q6⟩ := HZ.out
      rcases h with h | h
      · exact pcR_pb h (by omega)
      · unfold own at h
        simp only [Bool.and_eq_true, decide_eq_true_iff, Bool.not_eq_true'] at h
        exact pbW_own h.1.1 (by omega) (by omega) (by omega)
    case hI2 =>
      rintro s A C ⟨g1, g2, g3, g4, g5, g6, g7, g8, g9⟩ hT
      have h5 := HS7.out
      obtain ⟨q1, q2, q3, q4, q5, q6⟩ := HZ.out
      exact ⟨hT.same _ _ g1 (turn_no (by omega)), hT.same _ _ g2 (turn_no (by omega)), hT.same _ _ g3 (turn_no (by omega)), hT.same _ _ g4 (turn_no (by omega)), hT.same _ _ g5 (turn_no (by omega)), hT.same _ _ g6 (turn_no (by omega)), g7.trans (hT.below (fun g o h => by have := turn_ge h; omega) g7.size), hT.same _ _ g8 (turn_no (by omega)), g9⟩
    case hIx2 =>
      rintro s A C ⟨g6, g7, g8, g9⟩ hT
      have h5 := HS7.out
      obtain ⟨q1, q2, q3, q4, q5, q6⟩ := HZ.out
      exact ⟨hT.same _ _ g6 (turn_no (by omega)), g7.trans (hT.below (fun g o h => by have := turn_ge h; omega) g7.size), hT.same _ _ g8 (turn_no (by omega)), g9⟩
    case stop2 =>
      rintro D2 pre Wr hD2 ⟨m2, hpre, hlen⟩ ⟨g6, g7, g8, g9⟩ hK2
      have hdiff : ¬ SameC (rowD nmD) l x m y := fun H => g9 fun j p q hp hq => H.like j p q hp (vis_at HRB.out.tied (by rw [← hpre]; exact hq))
      have HDIFF := Lib.hid hdiff
      clear hdiff
      have h5 := HS7.out
      obtain ⟨q1, q2, q3, q4, q5, q6⟩ := HZ.out
      gi_wp2_with fail
      refine leaves_marks (B := W5.heap.size) [_, _] Wr ⟨⟨D2, rfl, by omega, hK2, fun e he => by rw [List.mem_singleton] at he; subst he; intro h; cases h; omega⟩, ⟨D, rfl, q5, g8, fun e he => by cases he⟩, trivial⟩ fun w' hw' => ?_
      have h8 := HS5.out
      have h7 := HB1.out
      exact HNO.out HDIFF.out w' (g7.trans (hw'.below (fun g o h => by have := turn_ge h; omega) g7.size)) (hw'.same _ _ g6 turn_nil) _ rfl
    case done2 =>
      rintro D2 zs Wr hD2 ⟨m2, hzs, hend2⟩ ⟨g1, g2, g3, g4, g5, g6, g7, g8, g9⟩ hK2
      have hzs2 : zs = allV m y := hzs.trans (allV_of HRB.out.tied hend2)
      rw [hzs2] at g9
      have qr := cell_of g6 0 (.bool false) rfl
      have qf := free_of g6 0
      have h5 := HS7.out
      have h8 := HS5.out
      have h7 := HB1.out
      obtain ⟨q1, q2, q3, q4, q5, q6⟩ := HZ.out
      have hyes : SameC (rowD nmD) l x m y := ⟨HRA.out, HRB.out, HN.out.symm.trans HM.out, g9⟩
      have hset : Below w.heap.size w (Wr.setCell ⟨w.heap.size + 2, 0, none⟩ (.bool true)) ∧ (Wr.setCell ⟨w.heap.size + 2, 0, none⟩ (.bool true)).heap[w.heap.size + 2]? = some (.cells #[.bool true] 4 (0, 0)) ∧ (Wr.setCell ⟨w.heap.size + 2, 0, none⟩ (.bool true)).heap[D]? = some (.deferred (some [])) ∧ (Wr.setCell ⟨w.heap.size + 2, 0, none⟩ (.bool true)).heap[D2]? = some (.deferred (some [])) :=
        ⟨g7.setCell (p := ⟨w.heap.size + 2, 0, none⟩) (by show w.heap.size ≤ w.heap.size + 2; omega) _, Joins.block_setCell (i := 0) g6 _, (Below.heap_setCell _ _ _ _ (by dsimp only; omega)).trans g8, (Below.heap_setCell _ _ _ _ (by dsimp only; omega)).trans hK2⟩
      have HSET2 := Lib.hid hset
      have HYES := Lib.hid hyes
      clear hset hyes g1 g2 g3 g4 g5 g6 g7 g8 g9 hK2 hzs hzs2 hend2
      gi_wp2_with fail
      refine leaves_marks (B := W5.heap.size) [_, _] _ ⟨⟨D2, rfl, by omega, HSET2.out.2.2.2, fun e he => by rw [List.mem_singleton] at he; subst he; intro h; cases h; omega⟩, ⟨D, rfl, q5, HSET2.out.2.2.1, fun e he => by cases he⟩, trivial⟩ fun w' hw' => ?_
      exact leave_same (g := w.heap.size + 2) (b := true) rfl (cell_of (hw'.same _ _ HSET2.out.2.1 turn_nil) 0 _ rfl) ⟨true, rfl, ⟨fun _ => HYES.out, fun _ => rfl⟩, HSET2.out.1.trans (hw'.below (fun g o h => by have := turn_ge h; omega) HSET2.out.1.size)⟩
    case body2 =>
      rintro lr pre ⟨i, v⟩ Wr ⟨g1, g2, g3, g4, g5, g6, g7, g8, g9⟩ ⟨m2, hm, hlen⟩
      have hinv := Inv.upto HRB.out.tied m2
      have hfew : pre.length + 1 ≤ N := by
        have h8 := hinv.few HRB.out.tied
        rw [← hm, List.length_append, List.length_singleton] at h8
        have := HM.out
        omega
      have hir : inR m i := hinv.inR HRB.out.tied (x := (i, v)) (List.mem_append_left _ (by rw [← hm]; simp))
      obtain ⟨d2, rfl, hd2⟩ := of_inR hir
      obtain ⟨q, hq⟩ : ∃ q, pre.length = q := ⟨_, rfl⟩
      rw [hq] at g1 hfew
      obtain ⟨⟨pi, pv⟩, hpp⟩ : ∃ p, (allV l x)[q]? = some p := ⟨_, List.getElem?_eq_getElem (show q < (allV l x).length by rw [HLENA.out]; omega)⟩
      have hpr : inR l pi := (allV_inv HRA.out.tied).inR HRA.out.tied (x := (pi, pv)) (by rw [List.append_nil]; exact List.mem_of_getElem? hpp)
      obtain ⟨d1, rfl, hd1⟩ := of_inR hpr
      have hcq := HCUR.out q _ hpp
      obtain ⟨ga, offa, hga, rfl, hna⟩ := HND.out.at hd1
      obtain ⟨gb, offb, hgb, rfl, hnb⟩ := HMD.out.at hd2
      obtain ⟨n1, hn1⟩ : ∃ n1, at' l (d1 : Int) = n1 := ⟨_, rfl⟩
      obtain ⟨n2, hn2⟩ : ∃ n2, at' m (d2 : Int) = n2 := ⟨_, rfl⟩
      rw [hn1] at hna
      rw [hn2] at hnb
      obtain ⟨an1, cn1, ak1, ck1, e0, e1, e2, e3, e4, e5, hv1⟩ := hna.open
      obtain ⟨an2, cn2, ak2, ck2, f0, f1, f2, f3, f4, f5, hv2⟩ := hnb.open
      rw [← g7.cell (p := ⟨ga, _, none⟩) hga] at e0 e1 e2 e3 e4 e5
      rw [← g7.cell (p := ⟨gb, _, none⟩) hgb] at f0 f1 f2 f3 f4 f5
      obtain ⟨LB, hLB⟩ : ∃ LB, likeB n1 n2 = LB := ⟨_, rfl⟩
      have cal : ∀ W, Below w.heap.size w W → Calls Try.prog 31 #[.agg #[.int .u8 (n1.k : Int), .int .i64 n1.n, .string n1.name, .slice an1 n1.names.length cn1, .slice ak1 n1.kids.length ck1, .int .i64 n1.line], .agg #[.int .u8 (n2.k : Int), .int .i64 n2.n, .string n2.name, .slice an2 n2.names.length cn2, .slice ak2 n2.kids.length ck2, .int .i64 n2.line]] W fun e w' => e = .returned (.bool LB) ∧ Below W.heap.size W w' := fun W hW => by
        rw [← hLB]
        exact own_alike _ _ n1 n2 W (hv1.below hW) (hv2.below hW)
      have CAL := Lib.hid cal
      have KA := cell_of g4 0 (.slice (some ⟨ga, offa, none⟩) N c) rfl
      have KB := cell_of g5 0 (.slice (some ⟨gb, offb, none⟩) N d) rfl
      have KU := cell_of g2 0 (.slice (some ⟨g, 0, none⟩) N cap) rfl
      have KT := cell_of g1 0 (.int .i64 (q : Int)) rfl
      have KG := cell_of g3 q (.int .i64 (d1 : Int)) hcq
      have KR := cell_of g6 0 (.bool false) rfl
      have HG := Lib.hid (show Below w.heap.size w Wr ∧ Wr.heap[w.heap.size + 2]? = some (.cells #[.bool false] 4 (0, 0)) ∧ Wr.heap[BB]? = some (.cells #[.int .i64 (q : Int)] 3 (0, 0)) from ⟨g7, g6, g1⟩)
      obtain ⟨z1, z2, z3, z4, z5, z6⟩ := HZ.out
      have hstop : ∀ w5, Below Wr.heap.size Wr w5 → LB = false → Tame (pcR (w.heap.size + 1) (BB + 1)) Wr (w5.setCell ⟨w.heap.size + 2, 0, none⟩ (.bool false)) ∧ (w5.setCell ⟨w.heap.size + 2, 0, none⟩ (.bool false)).heap[w.heap.size + 2]? = some (.cells #[.bool false] 4 (0, 0)) ∧ Below w.heap.size w (w5.setCell ⟨w.heap.size + 2, 0, none⟩ (.bool false)) ∧ (w5.setCell ⟨w.heap.size + 2, 0, none⟩ (.bool false)).heap[D]? = some (.deferred (some [])) ∧ ¬ AlikeS l m x (pre ++ [((d2 : Int), v)]) := fun w5 hw e => by
        have x6 := (hw.block _ (lt_of_heap g6)).trans g6
        have s5 := HS5.out
        have s6 := HB1.out
        refine ⟨(Tame.of_grow hw).trans (Tame.setCell (p := pcR (w.heap.size + 1) (BB + 1)) w5 ⟨w.heap.size + 2, 0, none⟩ _ x6 (pcR_yes (by show w.heap.size + 1 ≤ w.heap.size + 2; omega) (by show w.heap.size + 2 ≠ BB + 1; omega) (by decide))), Joins.block_setCell (i := 0) x6 _, (g7.trans (hw.mono g7.size)).setCell (p := ⟨w.heap.size + 2, 0, none⟩) (by show w.heap.size ≤ w.heap.size + 2; omega) _, (Below.heap_setCell _ _ _ _ (by dsimp only; omega)).trans ((hw.block _ (lt_of_heap g8)).trans g8), fun H => ?_⟩
        have h8 := H q _ ((d2 : Int), v) hpp (by rw [List.getElem?_append_right (by omega), hq, Nat.sub_self]; rfl)
        dsimp only at h8
        rw [hn1, hn2, ← likeB_iff, hLB, e] at h8
        cases h8
      have hgoes : ∀ w5, Below Wr.heap.size Wr w5 → LB = true → Tame (pcR (w.heap.size + 1) (BB + 1)) Wr (w5.setCell ⟨BB, 0, none⟩ (.int .i64 ((q : Int) + 1))) ∧ (w5.setCell ⟨BB, 0, none⟩ (.int .i64 ((q : Int) + 1))).heap[BB]? = some (.cells #[.int .i64 (((pre ++ [((d2 : Int), v)]).length : Nat) : Int)] 3 (0, 0)) ∧ (w5.setCell ⟨BB, 0, none⟩ (.int .i64 ((q : Int) + 1))).heap[B]? = some (.cells #[.slice (some ⟨g, 0, none⟩) N cap] 28 (0, 0)) ∧ (w5.setCell ⟨BB, 0, none⟩ (.int .i64 ((q : Int) + 1))).heap[g]? = some (.cells cur 3 (0, 0)) ∧ (w5.setCell ⟨BB, 0, none⟩ (.int .i64 ((q : Int) + 1))).heap[w.heap.size]? = some (.cells #[.slice (some ⟨ga, offa, none⟩) N c, .int .i64 x] 24 (0, 0)) ∧ (w5.setCell ⟨BB, 0, none⟩ (.int .i64 ((q : Int) + 1))).heap[w.heap.size + 1]? = some (.cells #[.slice (some ⟨gb, offb, none⟩) N d, .int .i64 y] 24 (0, 0)) ∧ (w5.setCell ⟨BB, 0, none⟩ (.int .i64 ((q : Int) + 1))).heap[w.heap.size + 2]? = some (.cells #[.bool false] 4 (0, 0)) ∧ Below w.heap.size w (w5.setCell ⟨BB, 0, none⟩ (.int .i64 ((q : Int) + 1))) ∧ (w5.setCell ⟨BB, 0, none⟩ (.int .i64 ((q : Int) + 1))).heap[D]? = some (.deferred (some [])) ∧ AlikeS l m x (pre ++ [((d2 : Int), v)]) := fun w5 hw e => by
        have x1 := (hw.block _ (lt_of_heap g1)).trans g1
        have other : ∀ (k : Nat) (o : Obj), k ≠ BB → Wr.heap[k]? = some o → (w5.setCell ⟨BB, 0, none⟩ (.int .i64 ((q : Int) + 1))).heap[k]? = some o := fun k o hk h => (Below.heap_setCell _ _ _ _ hk).trans ((hw.block _ (lt_of_heap h)).trans h)
        refine ⟨(Tame.of_grow hw).trans (Tame.setCell (p := pcR (w.heap.size + 1) (BB + 1)) w5 ⟨BB, 0, none⟩ _ x1 (pcR_yes (by show w.heap.size + 1 ≤ BB; omega) (by show BB ≠ BB + 1; omega) (by decide))), by
          rw [List.length_append, hq, List.length_singleton]
          exact Joins.block_setCell (i := 0) x1 _, other _ _ (by omega) g2, other _ _ (by omega) g3, other _ _ (by omega) g4, other _ _ (by omega) g5, other _ _ (by omega) g6, (g7.trans (hw.mono g7.size)).setCell (p := ⟨BB, 0, none⟩) (by show w.heap.size ≤ BB; omega) _, other _ _ (by omega) g8, fun j p r hp hr => ?_⟩
        rcases Nat.lt_or_ge j pre.length with h1 | h1
        · rw [List.getElem?_append_left h1] at hr
          exact g9 j p r hp hr
        · have hj : j = q := by
            have h2 := (List.getElem?_eq_some_iff.1 hr).1
            rw [List.length_append, List.length_singleton] at h2
            omega
          subst hj
          rw [List.getElem?_append_right h1, hq, Nat.sub_self] at hr
          have hr2 : r = ((d2 : Int), v) := (Option.some.inj hr).symm
          have hp2 : p = ((d1 : Int), pv) := Option.some.inj (hp.symm.trans hpp)
          rw [hr2, hp2]
          dsimp only
          rw [hn1, hn2, ← likeB_iff, hLB, e]
      have HSTOP := Lib.hid hstop
      have HGOES := Lib.hid hgoes
      have hmx : Try.prog.follows .mixedOrders = true := by kernel_rfl
      have hq1 : IntKind.i64.wrap ((q : Int) + 1) = (q : Int) + 1 := IntWalk.i64_in _ (by omega)
      have hq2 : wrap64 ((q : Int) + 1) = (q : Int) + 1 := Num.wrap64_of_in ⟨by omega, by omega⟩
      have i0 : (0 : Int) ≤ q := Int.natCast_nonneg _
      have i1 : (q : Int) < N := Int.ofNat_lt.2 hfew
      have i2 : (0 : Int) ≤ d1 := Int.natCast_nonneg _
      have i3 : (d1 : Int) < N := Int.ofNat_lt.2 (by rw [HN.out]; exact hd1)
      have i4 : (0 : Int) ≤ d2 := Int.natCast_nonneg _
      have i5 : (d2 : Int) < N := Int.ofNat_lt.2 (by rw [HM.out]; exact hd2)
      clear hstop hgoes cal hv1 hv2 hLB hn1 hn2 hna hnb hga hgb hcq hpr hd1 hpp hir hd2 hfew hinv hm hlen g1 g2 g3 g4 g5 g6 g7 g8 g9 z1 z2 z3 z4 z5 z6 hq
      gi_wp2_with fail
      refine region_round (fun W' => Below Wr.heap.size Wr W') lr _ hmx (by kernel_rfl) (by rintro ⟨_, _, h⟩; exact h) (Below.refl _ _).drew (fun hS => ?_)
      refine wpAnyH_take (i := 0) (v := .pointer (some ⟨w.heap.size, 0, none⟩)) rfl (by kernel_rfl) (by kernel_rfl) (by kernel_rfl) (fun _ _ _ h => h) (.inl ⟨by rfl, fun w' hs => ?_⟩) hS ?_
      · clear hs
        go_simp
      simp only [List.getElem_toArray, List.getElem_cons_zero, Act.put, List.setIfInBounds_toArray, List.set_cons_zero, List.set_cons_succ]
      refine wpAnyH_take (i := 1) (v := .slice (some ⟨ga, offa, none⟩) N c) rfl (by kernel_rfl) (by kernel_rfl) (by kernel_rfl) (fun _ _ _ h => h) (.inl ⟨by rfl, fun w' hs => ?_⟩) hS ?_
      · have x0 := cellS hs KA
        clear hs
        go_simp
      simp only [List.getElem_toArray, List.getElem_cons_succ, List.getElem_cons_zero, Act.put, List.setIfInBounds_toArray, List.set_cons_zero, List.set_cons_succ]
      refine wpAnyH_take (i := 2) (v := .slice (some ⟨g, 0, none⟩) N cap) rfl (by kernel_rfl) (by kernel_rfl) (by kernel_rfl) (fun _ _ _ h => h) (.inl ⟨by rfl, fun w' hs => ?_⟩) hS ?_
      · have x0 := cellS hs KU
        clear hs
        go_simp
      simp only [List.getElem_toArray, List.getElem_cons_succ, List.getElem_cons_zero, Act.put, List.setIfInBounds_toArray, List.set_cons_zero, List.set_cons_succ]
      refine wpAnyH_take (i := 3) (v := .int .i64 (q : Int)) rfl (by kernel_rfl) (by kernel_rfl) (by kernel_rfl) (fun _ _ _ h => h) (.inl ⟨by rfl, fun w' hs => ?_⟩) hS ?_
      · have x0 := cellS hs KT
        clear hs
        go_simp
      simp only [List.getElem_toArray, List.getElem_cons_succ, List.getElem_cons_zero, Act.put, List.setIfInBounds_toArray, List.set_cons_zero, List.set_cons_succ]
      refine wpAnyH_take (i := 4) (v := .pointer (some ⟨g, q, none⟩)) rfl (by kernel_rfl) (by kernel_rfl) (by kernel_rfl) (fun _ _ _ h => h) (.inl ⟨by rfl, fun w' hs => ?_⟩) hS ?_
      · clear hs
        go_simp
      simp only [List.getElem_toArray, List.getElem_cons_succ, List.getElem_cons_zero, Act.put, List.setIfInBounds_toArray, List.set_cons_zero, List.set_cons_succ]
      refine wpAnyH_take (i := 5) (v := .int .i64 (d1 : Int)) rfl (by kernel_rfl) (by kernel_rfl) (by kernel_rfl) (fun _ _ _ h => h) (.inl ⟨by rfl, fun w' hs => ?_⟩) hS ?_
      · have x0 := cellS hs KG
        clear hs
        go_simp
      simp only [List.getElem_toArray, List.getElem_cons_succ, List.getElem_cons_zero, Act.put, List.setIfInBounds_toArray, List.set_cons_zero, List.set_cons_succ]
      refine wpAnyH_take (i := 6) (v := .pointer (some ⟨ga, offa + d1 * 6, none⟩)) rfl (by kernel_rfl) (by kernel_rfl) (by kernel_rfl) (fun _ _ _ h => h) (.inl ⟨by rfl, fun w' hs => ?_⟩) hS ?_
      · clear hs
        go_simp
      simp only [List.getElem_toArray, List.getElem_cons_succ, List.getElem_cons_zero, Act.put, List.setIfInBounds_toArray, List.set_cons_zero, List.set_cons_succ]
      refine wpAnyH_take (i := 7) (v := .agg #[.int .u8 (n1.k : Int), .int .i64 n1.n, .string n1.name, .slice an1 n1.names.length cn1, .slice ak1 n1.kids.length ck1, .int .i64 n1.line]) rfl (by kernel_rfl) (by kernel_rfl) (by kernel_rfl) (fun _ _ _ h => h) (.inl ⟨by rfl, fun w' hs => ?_⟩) hS ?_
      · have x0 := cellS hs e0
        have x1 := cellS hs e1
        have x2 := cellS hs e2
        have x3 := cellS hs e3
        have x4 := cellS hs e4
        have x5 := cellS hs e5
        clear hs
        go_simp
      simp only [List.getElem_toArray, List.getElem_cons_succ, List.getElem_cons_zero, Act.put, List.setIfInBounds_toArray, List.set_cons_zero, List.set_cons_succ]
      refine wpAnyH_take (i := 8) (v := .pointer (some ⟨w.heap.size + 1, 0, none⟩)) rfl (by kernel_rfl) (by kernel_rfl) (by kernel_rfl) (fun _ _ _ h => h) (.inl ⟨by rfl, fun w' hs => ?_⟩) hS ?_
      · clear hs
        go_simp
      simp only [List.getElem_toArray, List.getElem_cons_succ, List.getElem_cons_zero, Act.put, List.setIfInBounds_toArray, List.set_cons_zero, List.set_cons_succ]
      refine wpAnyH_take (i := 9) (v := .slice (some ⟨gb, offb, none⟩) N d) rfl (by kernel_rfl) (by kernel_rfl) (by kernel_rfl) (fun _ _ _ h => h) (.inl ⟨by rfl, fun w' hs => ?_⟩) hS ?_
      · have x0 := cellS hs KB
        clear hs
        go_simp
      simp only [List.getElem_toArray, List.getElem_cons_succ, List.getElem_cons_zero, Act.put, List.setIfInBounds_toArray, List.set_cons_zero, List.set_cons_succ]
      refine wpAnyH_take (i := 10) (v := .int .i64 (d2 : Int)) rfl (by kernel_rfl) (by kernel_rfl) (by kernel_rfl) (fun _ _ _ h => h) (.inl ⟨by rfl, fun w' hs => ?_⟩) hS ?_
      · clear hs
        go_simp
      simp only [List.getElem_toArray, List.getElem_cons_succ, List.getElem_cons_zero, Act.put, List.setIfInBounds_toArray, List.set_cons_zero, List.set_cons_succ]
      refine wpAnyH_take (i := 11) (v := .pointer (some ⟨gb, offb + d2 * 6, none⟩)) rfl (by kernel_rfl) (by kernel_rfl) (by kernel_rfl) (fun _ _ _ h => h) (.inl ⟨by rfl, fun w' hs => ?_⟩) hS ?_
      · clear hs
        go_simp
      simp only [List.getElem_toArray, List.getElem_cons_succ, List.getElem_cons_zero, Act.put, List.setIfInBounds_toArray, List.set_cons_zero, List.set_cons_succ]
      refine wpAnyH_take (i := 12) (v := .agg #[.int .u8 (n2.k : Int), .int .i64 n2.n, .string n2.name, .slice an2 n2.names.length cn2, .slice ak2 n2.kids.length ck2, .int .i64 n2.line]) rfl (by kernel_rfl) (by kernel_rfl) (by kernel_rfl) (fun _ _ _ h => h) (.inl ⟨by rfl, fun w' hs => ?_⟩) hS ?_
      · have x0 := cellS hs f0
        have x1 := cellS hs f1
        have x2 := cellS hs f2
        have x3 := cellS hs f3
        have x4 := cellS hs f4
        have x5 := cellS hs f5
        clear hs
        go_simp
      simp only [List.getElem_toArray, List.getElem_cons_succ, List.getElem_cons_zero, Act.put, List.setIfInBounds_toArray, List.set_cons_zero, List.set_cons_succ]
      refine wpAnyH_ready (rs := [13]) (by kernel_rfl) (by simp) (AllReadyH.cons rfl (fun K hK => ?_) AllReadyH.nil)
      go_simp
      refine (CAL.out _ (HG.out.1.trans (hS.mono HG.out.1.size))).mono ?_
      rintro e w5 ⟨rfl, b⟩
      refine hK.out _ _ (hS.trans (b.mono hS.size)) (fun hS => ?_)
      clear hK b
      cases LB with
      | false =>
        refine wpAnyH_take (i := 14) (v := .bool true) rfl (by kernel_rfl) (by kernel_rfl) (by kernel_rfl) (fun _ _ _ h => h) (.inl ⟨by rfl, fun w' hs => ?_⟩) hS ?_
        · clear hs
          go_simp
        simp only [List.getElem_toArray, List.getElem_cons_succ, List.getElem_cons_zero, Act.put, List.setIfInBounds_toArray, List.set_cons_zero, List.set_cons_succ]
        refine wpAnyH_done (by kernel_rfl) ?_ _
        have x0 := cellS hS KR
        have x1 := cellS hS KT
        have y0 := free_of ((hS.block _ (lt_of_heap HG.out.2.1)).trans HG.out.2.1) 0
        have y1 := free_of ((hS.block _ (lt_of_heap HG.out.2.2)).trans HG.out.2.2) 0
        have HS := Lib.hid hS
        clear hS
        gi_wp2_with fail
        exact HSTOP.out _ HS.out (by first | rfl | trivial)
      | true =>
        refine wpAnyH_take (i := 14) (v := .bool false) rfl (by kernel_rfl) (by kernel_rfl) (by kernel_rfl) (fun _ _ _ h => h) (.inl ⟨by rfl, fun w' hs => ?_⟩) hS ?_
        · clear hs
          go_simp
        simp only [List.getElem_toArray, List.getElem_cons_succ, List.getElem_cons_zero, Act.put, List.setIfInBounds_toArray, List.set_cons_zero, List.set_cons_succ]
        refine wpAnyH_done (by kernel_rfl) ?_ _
        have x0 := cellS hS KR
        have x1 := cellS hS KT
        have y0 := free_of ((hS.block _ (lt_of_heap HG.out.2.1)).trans HG.out.2.1) 0
        have y1 := free_of ((hS.block _ (lt_of_heap HG.out.2.2)).trans HG.out.2.2) 0
        have HS := Lib.hid hS
        clear hS
        gi_wp2_with fail
        exact HGOES.out _ HS.out (by first | rfl | trivial)
  case body =>
    rintro lr pre ⟨i, v⟩ Wb ⟨u, h1, h2, h3, h4, h5, h6, h9⟩ ⟨m', hm, hlen⟩
    have hfew : pre.length + 1 ≤ 1000000 := by
      have h8 := (Inv.upto HRA.out.tied m').few HRA.out.tied
      rw [← hm, List.length_append, List.length_singleton] at h8
      have := HN.out
      omega
    have c9 := cell_of h1 0 u rfl
    have f9 := free_of h1 0
    have H1 := Lib.hid h1
    have H2 := Lib.hid h2
    have H3 := Lib.hid h3
    have H4 := Lib.hid h4
    have H5 := Lib.hid h5
    have H6 := Lib.hid h6
    have H9 := Lib.hid h9
    have hsz : B ≤ Wb.heap.size := by have := lt_of_heap h9; omega
    clear h1 h2 h3 h4 h5 h6 h9 hm hlen
    have hown : ∀ kk, u.ownBlock = some kk → B ≤ kk ∧ ∃ cur, (Wb.alloc (.cells #[.int .i64 i] 3)).heap[kk]? = some (.cells cur 3 (0, 0)) := by
      intro kk e
      rcases (H2.out.alloc (.cells #[.int .i64 i] 3)).2 with ⟨e1, _⟩ | ⟨g1, _, cur, e1, hg1, hh, _⟩
      · rw [e1] at e; cases e
      · rw [e1] at e
        cases e
        exact ⟨hg1, cur, hh⟩
    have HOWN := Lib.hid hown
    clear hown
    refine wpIn_block ?_
    refine region_list_round lr 6 (by kernel_rfl) (by rintro ⟨_, _, h⟩; exact h) ?_
    go_wp2_with (at_builtin; refine wpList_append_one rfl (.tmp 30) (.tmp 32) 28 rfl B 3 (.int .i64 0) 8 Try.underlying28 infoInt rfl u pre.length _ rfl H2.out (.int .i64 i) rfl rfl ?z1 ?z2 ?z3 ?_)
    case z1 => unfold maxLen; omega
    case z2 => omega
    case z3 => exact hsz
    intro v' w' ho hg
    obtain ⟨gn, cn', rfl⟩ := ownsRow_succ ho
    have bx0 := (Below.heap_alloc Wb (.cells #[.int .i64 i] 3) _ (lt_of_heap H1.out)).trans H1.out
    have sy0 := (Below.heap_alloc Wb (.cells #[.int .i64 i] 3) _ (lt_of_heap H9.out)).trans H9.out
    have bx := (hg.block _ (lt_of_heap bx0) (fun e => by
      obtain ⟨_, cur, h2⟩ := HOWN.out _ e.symm
      rw [bx0] at h2
      cases h2)).trans bx0
    have tw : Tame (pcS B (B + 1)) Wb w' := (Tame.alloc _ _ _).trans (Tame.grown hg (fun kk o e ho => by
      obtain ⟨h1, cur, h2⟩ := HOWN.out kk e
      rw [h2] at ho
      cases ho
      exact pcS_yes h1 (fun e3 => by rw [e3, sy0] at h2; cases h2) (by decide)))
    have tw2 := tw.trans (Tame.setCell (p := pcS B (B + 1)) w' ⟨B, 0, none⟩ (.slice (some ⟨gn, 0, none⟩) (pre.length + 1) cn') bx (pcS_yes (Nat.le_refl _) (by show B ≠ B + 1; omega) (by decide)))
    have h8 := HB1.out
    have hend : ∃ u', (w'.setCell ⟨B, 0, none⟩ (.slice (some ⟨gn, 0, none⟩) (pre.length + 1) cn')).heap[B]? = some (.cells #[u'] 28 (0, 0)) ∧ (w'.setCell ⟨B, 0, none⟩ (.slice (some ⟨gn, 0, none⟩) (pre.length + 1) cn')).ownsRow B 3 1 u' (pre ++ [((i, v) : PV)]).length ((pre ++ [((i, v) : PV)]).map fun p => Value.int .i64 p.1) ∧ (w'.setCell ⟨B, 0, none⟩ (.slice (some ⟨gn, 0, none⟩) (pre.length + 1) cn')).heap[w.heap.size]? = some (.cells #[.slice ao N c, .int .i64 x] 24 (0, 0)) ∧ (w'.setCell ⟨B, 0, none⟩ (.slice (some ⟨gn, 0, none⟩) (pre.length + 1) cn')).heap[w.heap.size + 1]? = some (.cells #[.slice bo N d, .int .i64 y] 24 (0, 0)) ∧ (w'.setCell ⟨B, 0, none⟩ (.slice (some ⟨gn, 0, none⟩) (pre.length + 1) cn')).heap[w.heap.size + 2]? = some (.cells #[.bool false] 4 (0, 0)) ∧ Below w.heap.size w (w'.setCell ⟨B, 0, none⟩ (.slice (some ⟨gn, 0, none⟩) (pre.length + 1) cn')) ∧ (w'.setCell ⟨B, 0, none⟩ (.slice (some ⟨gn, 0, none⟩) (pre.length + 1) cn')).heap[B + 1]? = some (.cells #[.slice ao N c, .int .i64 x] 24 (0, 0)) := by
      refine ⟨_, Joins.block_setCell (i := 0) bx _, ?_, tw2.same _ _ H3.out (pcS_low (by omega)), tw2.same _ _ H4.out (pcS_low (by omega)), tw2.same _ _ H5.out (pcS_low (by omega)), H6.out.trans (tw2.below (fun g o h => by have := pcS_ge h; omega) H6.out.size), tw2.same _ _ H9.out pcS_syn⟩
      rw [List.length_append, List.length_singleton, List.map_append]
      exact own_other ho bx (by decide)
    have HEND := Lib.hid hend
    have HTW := Lib.hid tw2
    have b0 := cell_of bx 0 u rfl
    have bf := free_of bx 0
    clear hend tw2 tw bx sy0 bx0 ho hg
    go_wp2_with fail
    exact ⟨HTW.out, HEND.out⟩

end Go.Proofs.Ytmddffacjkkeiaa.Nd
