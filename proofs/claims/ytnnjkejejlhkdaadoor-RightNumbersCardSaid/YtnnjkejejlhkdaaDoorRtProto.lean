/-
  Layer 9: whether a program has a function, and that is right.
-/
import Derived.Test.YtnnjkejejlhkdaaDoorRtFits2
import Derived.Deep.RegionHeld3
namespace Go.Proofs.YtnnjkejejlhkdaaDoor.Rt
open Go Go.RowKit

def protoB (p : Pg) (n : Int) : Bool := if n < 0 ∨ (p.protos.length : Int) ≤ n then false else fitsB (p.protos.getD n.toNat default) p.strs.length p.protos.length

set_option maxHeartbeats 4000000 in
set_option maxRecDepth 100000 in
theorem proto_fn (B : Nat) (v : Value) (p : Pg) (n : Int) (w : World) (hp : PgV B w v p) (hB : B ≤ w.heap.size) (hR : RowsTab w) :
    Calls Tryd.prog 10 #[v, .int .i64 n] w fun e w' => e = .returned (.bool (protoB p n)) ∧ Below w.heap.size w w' := by
  obtain ⟨vs, vp, rfl, h1, h2⟩ := hp
  have H2 := Lib.hid h2
  obtain ⟨a1, c1, rfl, hl1⟩ := h1.slice
  obtain ⟨a2, c2, rfl, hl2⟩ := h2.slice
  rw [texts_len] at hl1 ⊢
  unfold protoB
  unfold Len at hl1 hl2
  clear h1 h2
  by_cases hn : n < 0
  · rw [if_pos (.inl hn)]
    go_enter Tryd.func10, Tryd.ntmps10
    go_wp2_with fail
    go_ret
    exact ⟨rfl, (Below.refl _ _).alloc (Nat.le_refl _) _⟩
  by_cases hm : (p.protos.length : Int) ≤ n
  · rw [if_pos (.inr hm)]
    go_enter Tryd.func10, Tryd.ntmps10
    go_wp2_with fail
    go_ret
    exact ⟨rfl, (Below.refl _ _).alloc (Nat.le_refl _) _⟩
  rw [if_neg (fun h => h.elim hn hm)]
  obtain ⟨m, rfl⟩ : ∃ m : Nat, n = m := ⟨n.toNat, by omega⟩
  rw [Int.toNat_natCast]
  have hml : m < p.protos.length := by omega
  have hml' : (m : Int) < p.protos.length := by omega
  rw [show p.protos.getD m default = p.protos[m] from by rw [List.getD_eq_getElem?_getD, List.getElem?_eq_getElem hml]; rfl]
  obtain ⟨O, hO⟩ : ∃ O, O = Obj.cells #[.slice a1 p.strs.length c1, .slice a2 p.protos.length c2] 26 (0, 0) := ⟨_, rfl⟩
  have hb1 := (Below.refl w.heap.size w).alloc (Nat.le_refl _) O
  obtain ⟨w1, hw1⟩ : ∃ w1, w1 = w.alloc O := ⟨_, rfl⟩
  rw [← hw1] at hb1
  have hsz1 : w1.heap.size = w.heap.size + 1 := by rw [hw1]; simp
  have hO1 : w1.heap[w.heap.size]? = some O := by rw [hw1]; exact new_block _ _
  have d0 : w1.cell? ⟨w.heap.size, 0, none⟩ = some (.slice a1 p.strs.length c1) := cell_of (hO1.trans (congrArg some hO)) 0 _ rfl
  have d1 : w1.cell? ⟨w.heap.size, 1, none⟩ = some (.slice a2 p.protos.length c2) := cell_of (hO1.trans (congrArg some hO)) 1 _ rfl
  obtain ⟨g, off, cap, cs, hg, hv, _, hC, hcell⟩ := (H2.out.below (hb1.mono hB) (fun _ _ h => h.below (hb1.mono hB))).item hml
  injection hv with e1 e2 e3
  subst e1
  subst e3
  have HC := Lib.hid hC
  obtain ⟨vb, vu, vst, ve, rfl, q1, q2, q3, q4, i1, i2, i3⟩ := hC
  obtain ⟨ab, cb, rfl, _⟩ := q1.slice
  obtain ⟨au, cu, rfl, _⟩ := q2.slice
  obtain ⟨at5, ct5, rfl, _⟩ := q3.slice
  obtain ⟨ae, ce, rfl, _⟩ := q4.slice
  obtain ⟨_, x0⟩ := hcell 0 (by decide)
  have x0 : w1.cell? ⟨g, off + m * 8, none⟩ = some (.int .i64 p.protos[m].params) := x0
  obtain ⟨_, x1⟩ := hcell 1 (by decide)
  have x1 : w1.cell? ⟨g, off + m * 8 + 1, none⟩ = some (.bool p.protos[m].more) := x1
  obtain ⟨_, x2⟩ := hcell 2 (by decide)
  have x2 : w1.cell? ⟨g, off + m * 8 + 2, none⟩ = some (.int .i64 p.protos[m].slots) := x2
  obtain ⟨_, x3⟩ := hcell 3 (by decide)
  have x3 : w1.cell? ⟨g, off + m * 8 + 3, none⟩ = some (.slice ab (bools p.protos[m].boxed).length cb) := x3
  obtain ⟨_, x4⟩ := hcell 4 (by decide)
  have x4 : w1.cell? ⟨g, off + m * 8 + 4, none⟩ = some (.slice au p.protos[m].ups.length cu) := x4
  obtain ⟨_, x5⟩ := hcell 5 (by decide)
  have x5 : w1.cell? ⟨g, off + m * 8 + 5, none⟩ = some (.slice at5 p.protos[m].stmts.length ct5) := x5
  obtain ⟨_, x6⟩ := hcell 6 (by decide)
  have x6 : w1.cell? ⟨g, off + m * 8 + 6, none⟩ = some (.slice ae p.protos[m].exprs.length ce) := x6
  obtain ⟨_, x7⟩ := hcell 7 (by decide)
  have x7 : w1.cell? ⟨g, off + m * 8 + 7, none⟩ = some (.int .i64 p.protos[m].start) := x7
  clear hcell e2 hO1 hn hm
  generalize p.protos[m] = f at *
  have hF : ∀ w2, w2 = (w1.alloc (.cells #[.int .i64 f.params, .bool f.more, .int .i64 f.slots, .slice ab (bools f.boxed).length cb, .slice au f.ups.length cu, .slice at5 f.stmts.length ct5, .slice ae f.exprs.length ce, .int .i64 f.start, .int .i64 (p.strs.length : Int), .int .i64 (p.protos.length : Int)] 57)).drew → (FnAt (w.heap.size + 1) f p.strs.length p.protos.length w2 ∧ RowsTab w2 ∧ Below w.heap.size w w2) := fun w2 h2 => by
    have hb2 : Below w1.heap.size w1 w2 := by rw [h2]; exact ((Below.refl _ _).alloc (Nat.le_refl _) _).drew
    have hB1 : B ≤ w1.heap.size := by omega
    have hB2 : B ≤ w2.heap.size := Nat.le_trans hB1 hb2.size
    have hq := hb2.mono hB1
    refine ⟨⟨_, _, _, _, ?_, (q1.below hq).mono hB2, (q2.below hq (fun _ _ h => h)).mono hB2 (fun _ _ h => h), (q3.below hq (fun _ _ h => h.below hq)).mono hB2 (fun _ _ h => h.mono hB2), (q4.below hq (fun _ _ h => h.below hq)).mono hB2 (fun _ _ h => h.mono hB2), i1, i2, i3, hl1, hl2⟩, (hR.below hb1).below hb2, hb1.trans (hb2.mono (by omega))⟩
    rw [h2, ← hsz1]
    exact new_block w1 _
  have HF := Lib.hid hF
  clear hF q1 q2 q3 q4 i1 i2 i3 hR hb1
  have hgl := World.block_lt_of_cell? w1 _ x0
  have hbl := World.block_lt_of_cell? w1 _ d0
  have KS : ∀ w', Below w1.heap.size w1 w' → w'.cell? ⟨w.heap.size, 0, none⟩ = some (.slice a1 p.strs.length c1) ∧ w'.cell? ⟨w.heap.size, 1, none⟩ = some (.slice (some ⟨g, off, none⟩) p.protos.length c2) ∧ w'.cell? ⟨g, off + m * 8, none⟩ = some (.int .i64 f.params) ∧ w'.cell? ⟨g, off + m * 8 + 1, none⟩ = some (.bool f.more) ∧ w'.cell? ⟨g, off + m * 8 + 2, none⟩ = some (.int .i64 f.slots) ∧ w'.cell? ⟨g, off + m * 8 + 3, none⟩ = some (.slice ab (bools f.boxed).length cb) ∧ w'.cell? ⟨g, off + m * 8 + 4, none⟩ = some (.slice au f.ups.length cu) ∧ w'.cell? ⟨g, off + m * 8 + 5, none⟩ = some (.slice at5 f.stmts.length ct5) ∧ w'.cell? ⟨g, off + m * 8 + 6, none⟩ = some (.slice ae f.exprs.length ce) ∧ w'.cell? ⟨g, off + m * 8 + 7, none⟩ = some (.int .i64 f.start) ∧ Below w1.heap.size w1 w' := fun w' hb => ⟨(hb.cell (p := ⟨w.heap.size, 0, none⟩) hbl).trans d0, (hb.cell (p := ⟨w.heap.size, 1, none⟩) hbl).trans d1, (hb.cell (p := ⟨g, off + m * 8, none⟩) hgl).trans x0, (hb.cell (p := ⟨g, off + m * 8 + 1, none⟩) hgl).trans x1, (hb.cell (p := ⟨g, off + m * 8 + 2, none⟩) hgl).trans x2, (hb.cell (p := ⟨g, off + m * 8 + 3, none⟩) hgl).trans x3, (hb.cell (p := ⟨g, off + m * 8 + 4, none⟩) hgl).trans x4, (hb.cell (p := ⟨g, off + m * 8 + 5, none⟩) hgl).trans x5, (hb.cell (p := ⟨g, off + m * 8 + 6, none⟩) hgl).trans x6, (hb.cell (p := ⟨g, off + m * 8 + 7, none⟩) hgl).trans x7, hb⟩
  subst hO
  have hm0 : (0 : Int) ≤ (m : Int) := by omega
  go_enter Tryd.func10, Tryd.ntmps10
  go_upto_region 3 with (fail)
  rw [← hw1]
  clear hw1
  refine wp_region_held_drew (S := fun w' => w'.cell? ⟨w.heap.size, 0, none⟩ = some (.slice a1 p.strs.length c1) ∧ w'.cell? ⟨w.heap.size, 1, none⟩ = some (.slice (some ⟨g, off, none⟩) p.protos.length c2) ∧ w'.cell? ⟨g, off + m * 8, none⟩ = some (.int .i64 f.params) ∧ w'.cell? ⟨g, off + m * 8 + 1, none⟩ = some (.bool f.more) ∧ w'.cell? ⟨g, off + m * 8 + 2, none⟩ = some (.int .i64 f.slots) ∧ w'.cell? ⟨g, off + m * 8 + 3, none⟩ = some (.slice ab (bools f.boxed).length cb) ∧ w'.cell? ⟨g, off + m * 8 + 4, none⟩ = some (.slice au f.ups.length cu) ∧ w'.cell? ⟨g, off + m * 8 + 5, none⟩ = some (.slice at5 f.stmts.length ct5) ∧ w'.cell? ⟨g, off + m * 8 + 6, none⟩ = some (.slice ae f.exprs.length ce) ∧ w'.cell? ⟨g, off + m * 8 + 7, none⟩ = some (.int .i64 f.start) ∧ Below w1.heap.size w1 w') (by kernel_rfl) (KS _ ((Below.refl _ _).drew)) (fun hS => ?_)
  refine wpAnyH_take (i := 0) (v := ?v0) rfl (by kernel_rfl) (by kernel_rfl) (by kernel_rfl) (fun _ _ _ h => h) (.inl ⟨by rfl, ?h0⟩) hS ?r0
  case h0 =>
    intro w' hs
    (try dsimp only at hs)
    go_split_ands
    go_simp
    try with_reducible rfl
  simp only [List.getElem_toArray, List.getElem_cons_zero, Act.put, List.setIfInBounds_toArray, List.set_cons_zero, List.set_cons_succ]
  refine wpAnyH_take (i := 1) (v := ?v1) rfl (by kernel_rfl) (by kernel_rfl) (by kernel_rfl) (fun _ _ _ h => h) (.inl ⟨by rfl, ?h1⟩) hS ?r1
  case h1 =>
    intro w' hs
    (try dsimp only at hs)
    go_split_ands
    go_simp
    try with_reducible rfl
  simp only [List.getElem_toArray, List.getElem_cons_succ, List.getElem_cons_zero, Act.put, List.setIfInBounds_toArray, List.set_cons_zero, List.set_cons_succ]
  refine wpAnyH_take (i := 2) (v := ?v2) rfl (by kernel_rfl) (by kernel_rfl) (by kernel_rfl) (fun _ _ _ h => h) (.inl ⟨by rfl, ?h2⟩) hS ?r2
  case h2 =>
    intro w' hs
    (try dsimp only at hs)
    go_split_ands
    go_simp
    try with_reducible rfl
  simp only [List.getElem_toArray, List.getElem_cons_succ, List.getElem_cons_zero, Act.put, List.setIfInBounds_toArray, List.set_cons_zero, List.set_cons_succ]
  refine wpAnyH_take (i := 3) (v := ?v3) rfl (by kernel_rfl) (by kernel_rfl) (by kernel_rfl) (fun _ _ _ h => h) (.inl ⟨by rfl, ?h3⟩) hS ?r3
  case h3 =>
    intro w' hs
    (try dsimp only at hs)
    go_split_ands
    go_simp
    try with_reducible rfl
  simp only [List.getElem_toArray, List.getElem_cons_succ, List.getElem_cons_zero, Act.put, List.setIfInBounds_toArray, List.set_cons_zero, List.set_cons_succ]
  refine wpAnyH_take (i := 4) (v := ?v4) rfl (by kernel_rfl) (by kernel_rfl) (by kernel_rfl) (fun _ _ _ h => h) (.inl ⟨by rfl, ?h4⟩) hS ?r4
  case h4 =>
    intro w' hs
    (try dsimp only at hs)
    go_split_ands
    go_simp
    try with_reducible rfl
  simp only [List.getElem_toArray, List.getElem_cons_succ, List.getElem_cons_zero, Act.put, List.setIfInBounds_toArray, List.set_cons_zero, List.set_cons_succ]
  refine wpAnyH_take (i := 5) (v := ?v5) rfl (by kernel_rfl) (by kernel_rfl) (by kernel_rfl) (fun _ _ _ h => h) (.inl ⟨by rfl, ?h5⟩) hS ?r5
  case h5 =>
    intro w' hs
    (try dsimp only at hs)
    go_split_ands
    go_simp
    try with_reducible rfl
  simp only [List.getElem_toArray, List.getElem_cons_succ, List.getElem_cons_zero, Act.put, List.setIfInBounds_toArray, List.set_cons_zero, List.set_cons_succ]
  refine wpAnyH_take (i := 6) (v := ?v6) rfl (by kernel_rfl) (by kernel_rfl) (by kernel_rfl) (fun _ _ _ h => h) (.inl ⟨by rfl, ?h6⟩) hS ?r6
  case h6 =>
    intro w' hs
    (try dsimp only at hs)
    go_split_ands
    go_simp
    try with_reducible rfl
  simp only [List.getElem_toArray, List.getElem_cons_succ, List.getElem_cons_zero, Act.put, List.setIfInBounds_toArray, List.set_cons_zero, List.set_cons_succ]
  refine wpAnyH_take (i := 7) (v := ?v7) rfl (by kernel_rfl) (by kernel_rfl) (by kernel_rfl) (fun _ _ _ h => h) (.inl ⟨by rfl, ?h7⟩) hS ?r7
  case h7 =>
    intro w' hs
    (try dsimp only at hs)
    go_split_ands
    go_simp
    try with_reducible rfl
  simp only [List.getElem_toArray, List.getElem_cons_succ, List.getElem_cons_zero, Act.put, List.setIfInBounds_toArray, List.set_cons_zero, List.set_cons_succ]
  refine wpAnyH_take (i := 8) (v := ?v8) rfl (by kernel_rfl) (by kernel_rfl) (by kernel_rfl) (fun _ _ _ h => h) (.inl ⟨by rfl, ?h8⟩) hS ?r8
  case h8 =>
    intro w' hs
    (try dsimp only at hs)
    go_split_ands
    go_simp
    try with_reducible rfl
  simp only [List.getElem_toArray, List.getElem_cons_succ, List.getElem_cons_zero, Act.put, List.setIfInBounds_toArray, List.set_cons_zero, List.set_cons_succ]
  refine wpAnyH_take (i := 9) (v := ?v9) rfl (by kernel_rfl) (by kernel_rfl) (by kernel_rfl) (fun _ _ _ h => h) (.inl ⟨by rfl, ?h9⟩) hS ?r9
  case h9 =>
    intro w' hs
    (try dsimp only at hs)
    go_split_ands
    go_simp
    try with_reducible rfl
  simp only [List.getElem_toArray, List.getElem_cons_succ, List.getElem_cons_zero, Act.put, List.setIfInBounds_toArray, List.set_cons_zero, List.set_cons_succ]
  refine wpAnyH_take (i := 10) (v := ?v10) rfl (by kernel_rfl) (by kernel_rfl) (by kernel_rfl) (fun _ _ _ h => h) (.inl ⟨by rfl, ?h10⟩) hS ?r10
  case h10 =>
    intro w' hs
    (try dsimp only at hs)
    go_split_ands
    go_simp
    try with_reducible rfl
  simp only [List.getElem_toArray, List.getElem_cons_succ, List.getElem_cons_zero, Act.put, List.setIfInBounds_toArray, List.set_cons_zero, List.set_cons_succ]
  refine wpAnyH_take (i := 11) (v := ?v11) rfl (by kernel_rfl) (by kernel_rfl) (by kernel_rfl) (fun _ _ _ h => h) (.inl ⟨by rfl, ?h11⟩) hS ?r11
  case h11 =>
    intro w' hs
    (try dsimp only at hs)
    go_split_ands
    go_simp
    try with_reducible rfl
  simp only [List.getElem_toArray, List.getElem_cons_succ, List.getElem_cons_zero, Act.put, List.setIfInBounds_toArray, List.set_cons_zero, List.set_cons_succ]
  refine wpAnyH_ready (rs := [12]) (by kernel_rfl) (by simp) (AllReadyH.cons rfl (fun K hK => ?_) AllReadyH.nil)
  go_simp
  refine hK.out _ _ (KS _ (((Below.refl _ _).alloc (Nat.le_refl _) _).drew)) (fun hS => ?_)
  clear hK
  refine wpAnyH_ready (rs := [13]) (by kernel_rfl) (by simp) (AllReadyH.cons rfl (fun K hK => ?_) AllReadyH.nil)
  go_simp
  refine hK.out _ _ (KS _ (((Below.refl _ _).alloc (Nat.le_refl _) _).drew)) (fun hS => ?_)
  clear hK
  refine wpAnyH_done (by kernel_rfl) ?_ _
  go_wp2_with fail
  (try rw [hsz1])
  obtain ⟨k1, k2, k3⟩ := HF.out _ rfl
  refine (fits_fn _ f _ _ _ k1 k2).mono ?_
  rintro r w3 ⟨rfl, b3⟩
  have B3 := Lib.hid (k3.trans (b3.mono k3.size))
  clear k1 k2 k3 b3 HF
  go_wp2_with fail
  go_ret
  exact ⟨rfl, B3.out⟩

end Go.Proofs.YtnnjkejejlhkdaaDoor.Rt
