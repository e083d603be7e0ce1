import Derived.Test.YthejclgihhfenaaGreatCm24
/-
  Layer 14: the developers' heap: Load, Get.
-/
namespace Go.Proofs.YthejclgihhfenaaGreat.Hd
open Go Go.RowKit Go.Proofs.YthejclgihhfenaaGreat.Pl Go.Proofs.YthejclgihhfenaaGreat.Tb Go.Proofs.YthejclgihhfenaaGreat.Vm Go.Proofs.YthejclgihhfenaaGreat.Hp Go.Proofs.YthejclgihhfenaaGreat.Td

/-- A value's box, and a result's. -/
structure BoxR (w w0 : World) (β : Nat) (x y : Value) : Prop where
  at0 : w0.heap[β]? = some (.cells #[x, y] 37 (0, 0))
  at1 : w0.heap[β + 1]? = some (.cells #[.int .u8 0, .int .i64 0] 37 (0, 0))
  low : Below β w w0
  size : w.heap.size = β
theorem boxR (w : World) (x y : Value) : BoxR w ((w.alloc (.cells #[x, y] 37)).alloc (.cells #[.int .u8 0, .int .i64 0] 37)) w.heap.size x y where
  at0 := by
    rw [heap_alloc_old _ _ (by simp)]
    exact new_block _ _
  at1 := by
    rw [← size_alloc' w (.cells #[x, y] 37)]
    exact new_block _ _
  low := ((Below.refl _ _).alloc (Nat.le_refl _) _).alloc (by simp) _
  size := rfl
theorem BoxR.below {w w0 w1 : World} {β : Nat} {x y : Value} (h : BoxR w w0 β x y) (hb : Below w0.heap.size w0 w1) : BoxR w w1 β x y :=
  ⟨(hb.block _ (lt_of_get h.at0)).trans h.at0, (hb.block _ (lt_of_get h.at1)).trans h.at1, h.low.trans (hb.mono (by rw [← h.size]; exact h.low.size)), h.size⟩
theorem tget_fn {w : World} {b : Nat} {t : Tbl} {F : List Nat} (h : TA w b t F) (k : Vl) (hk : k.In) : Calls Tryz.prog 68 #[.pointer (some ⟨b, 0, none⟩), k.val] w fun e w' => e = .returned (getT t k).val ∧ Below w.heap.size w w' := by
  obtain ⟨mb, l, vf, fd, lv, ln, hT, hF, hI, rfl, rfl⟩ := h
  exact Td.get_fn' hT k hk
section
variable {w w' : World} {b pb ob tb : Nat} {h h' : Hp} {nb : Option Nat} {Fp Fp' F G : List Nat} {sn sn' : Nat} {ft ft' : ByteArray → Option Int} {fn fn' : Int → Option Unit} {l l' : ObL}
set_option maxRecDepth 100000 in
theorem load_fn' (H : HX w b h pb ob tb nb Fp ft sn fn l) (c : Vl) (hc : c.In) :
    Calls Tryz.prog 53 #[.pointer (some ⟨b, 0, none⟩), c.val] w (TellSays (loadH h c).val w) := by
  have hx := boxR w (.int .u8 (c.kind : Int)) (.int .i64 c.n)
  obtain ⟨β, hβ⟩ : ∃ β, w.heap.size = β := ⟨_, rfl⟩
  have HBE := Lib.hid hβ
  have h0 := H.below (hx.low.mono (Nat.le_refl _))
  have cf := find_fn h0.rm 9 c hc
  have H0 := Lib.hid h0
  have hbx : b ≠ β := fun e => by have := H.rm.shape.lt; omega
  rw [hβ] at hx
  have HXX := Lib.hid hx
  have x0 := cell_of hx.at0 0 _ rfl
  have x1 := cell_of hx.at0 1 _ rfl
  have z0 := cell_of hx.at1 0 _ rfl
  have z1 := cell_of hx.at1 1 _ rfl
  have f0 := free_of hx.at1 0
  have f1 := free_of hx.at1 1
  rcases findV_is h0 9 c with ⟨g1, g2⟩ | ⟨p, g1, hk, hh, hn, hi, hpk, g2, hO, hP, hD⟩
  · have e : loadH h c = nilV := by
      unfold loadH
      cases hf : findH h c with
      | none => rfl
      | some q =>
        obtain ⟨i, o⟩ := q
        exact if_neg (fun e => by rw [g2 e] at hf; cases hf)
    rw [e]
    rw [g1] at cf
    simp only [Option.map_none, ptrG] at cf
    clear h0 hx H g1 g2 e hc
    obtain ⟨ck, cn⟩ := c
    have cf : Calls Tryz.prog 62 #[.pointer (some ⟨b, 0, none⟩), .int .u8 9, .agg #[.int .u8 (ck : Int), .int .i64 cn]] ((w.alloc (.cells #[.int .u8 (ck : Int), .int .i64 cn] 37)).alloc (.cells #[.int .u8 0, .int .i64 0] 37)) _ := cf
    show Calls Tryz.prog 53 #[.pointer (some ⟨b, 0, none⟩), .agg #[.int .u8 (ck : Int), .int .i64 cn]] w _
    dsimp only at *
    go_enter Tryz.func53, Tryz.ntmps53
    go_wp2_with fail
    generalize hW : (w.alloc (.cells #[.int .u8 (ck : Int), .int .i64 cn] 37)).alloc (.cells #[.int .u8 0, .int .i64 0] 37) = w0 at *
    clear hW hβ
    refine cf.mono ?_
    rintro e w1 ⟨rfl, hb⟩
    have hx1 := HXX.out.below hb
    have HX1 := Lib.hid hx1
    clear x0 x1 z0 z1 f0 f1 hb cf
    have z0 := cell_of hx1.at1 0 _ rfl
    have z1 := cell_of hx1.at1 1 _ rfl
    have f0 := free_of hx1.at1 0
    have f1 := free_of hx1.at1 1
    clear hx1
    go_wp2_with fail
    refine bodyPost_ret (v := .agg #[.int .u8 0, .int .i64 0]) (by simp [results, Tryz.results53, go_sem, z0, z1]) rfl ?_
    have hle : w.heap.size ≤ β + 1 := by have := HBE.out; omega
    have hlo := HX1.out.low
    rw [← HBE.out] at hlo
    exact ⟨rfl, (hlo.setCell (p := ⟨β + 1, 0, none⟩) hle _).setCell (p := ⟨β + 1, 1, none⟩) hle _⟩
  · have e : loadH h c = p.o.has := by
      unfold loadH
      rw [g2]
      exact if_pos hk
    rw [e]
    rw [g1] at cf
    simp only [Option.map_some, ptrG] at cf
    have HO := Lib.hid hO
    have hgb : p.g < β := by
      have h1 := H.rm.lt _ (F_obj hi)
      omega
    have hgβ : p.g ≠ β + 1 := by omega
    clear h0 hx H g1 g2 e hc hO hP hD hgb hh hi hpk hn hk
    obtain ⟨ck, cn⟩ := c
    have cf : Calls Tryz.prog 62 #[.pointer (some ⟨b, 0, none⟩), .int .u8 9, .agg #[.int .u8 (ck : Int), .int .i64 cn]] ((w.alloc (.cells #[.int .u8 (ck : Int), .int .i64 cn] 37)).alloc (.cells #[.int .u8 0, .int .i64 0] 37)) _ := cf
    show Calls Tryz.prog 53 #[.pointer (some ⟨b, 0, none⟩), .agg #[.int .u8 (ck : Int), .int .i64 cn]] w _
    dsimp only at *
    go_enter Tryz.func53, Tryz.ntmps53
    go_wp2_with fail
    generalize hW : (w.alloc (.cells #[.int .u8 (ck : Int), .int .i64 cn] 37)).alloc (.cells #[.int .u8 0, .int .i64 0] 37) = w0 at *
    clear hW hβ
    refine cf.mono ?_
    rintro e w1 ⟨rfl, hb⟩
    have hx1 := HXX.out.below hb
    have HX1 := Lib.hid hx1
    have hO1 := HO.out.turns (G := []) (Turns.of_below hb) List.not_mem_nil
    have q0 := hO1.h0
    have q1 := hO1.h1
    clear x0 x1 z0 z1 f0 f1 hb cf hO1
    have z0 := cell_of hx1.at1 0 _ rfl
    have z1 := cell_of hx1.at1 1 _ rfl
    have f0 := free_of hx1.at1 0
    have f1 := free_of hx1.at1 1
    clear hx1
    generalize p.o.has = u at *
    generalize p.g = g at *
    obtain ⟨uk, un⟩ := u
    dsimp only at *
    go_wp2_with fail
    refine bodyPost_ret (v := .agg #[.int .u8 (uk : Int), .int .i64 un]) (by simp [results, Tryz.results53, go_sem, z0, z1]) rfl ?_
    have hle : w.heap.size ≤ β + 1 := by have := HBE.out; omega
    have hlo := HX1.out.low
    rw [← HBE.out] at hlo
    exact ⟨rfl, (hlo.setCell (p := ⟨β + 1, 0, none⟩) hle _).setCell (p := ⟨β + 1, 1, none⟩) hle _⟩
end
/-- Two values' boxes, and a result's. -/
structure BoxT (w w0 : World) (β : Nat) (k v : Vl) : Prop where
  at0 : w0.heap[β]? = some (.cells #[.int .u8 (k.kind : Int), .int .i64 k.n] 37 (0, 0))
  at1 : w0.heap[β + 1]? = some (.cells #[.int .u8 (v.kind : Int), .int .i64 v.n] 37 (0, 0))
  at2 : w0.heap[β + 2]? = some (.cells #[.int .u8 0, .int .i64 0] 37 (0, 0))
  low : Below β w w0
  size : w.heap.size = β
theorem boxT (w : World) (k v : Vl) : BoxT w (((w.alloc (.cells #[.int .u8 (k.kind : Int), .int .i64 k.n] 37)).alloc (.cells #[.int .u8 (v.kind : Int), .int .i64 v.n] 37)).alloc (.cells #[.int .u8 0, .int .i64 0] 37)) w.heap.size k v where
  at0 := by
    rw [heap_alloc_old _ _ (by simp; omega), heap_alloc_old _ _ (by simp)]
    exact new_block _ _
  at1 := by
    rw [heap_alloc_old _ _ (by simp), ← size_alloc' w (.cells #[.int .u8 (k.kind : Int), .int .i64 k.n] 37)]
    exact new_block _ _
  at2 := by
    have := new_block ((w.alloc (.cells #[.int .u8 (k.kind : Int), .int .i64 k.n] 37)).alloc (.cells #[.int .u8 (v.kind : Int), .int .i64 v.n] 37)) (.cells #[.int .u8 0, .int .i64 0] 37)
    rw [size_alloc', size_alloc'] at this
    exact this
  low := (((Below.refl _ _).alloc (Nat.le_refl _) _).alloc (by simp) _).alloc (by simp; omega) _
  size := rfl
theorem BoxT.below {w w0 w1 : World} {β : Nat} {k v : Vl} (h : BoxT w w0 β k v) (hb : Below w0.heap.size w0 w1) : BoxT w w1 β k v :=
  ⟨(hb.block _ (lt_of_get h.at0)).trans h.at0, (hb.block _ (lt_of_get h.at1)).trans h.at1, (hb.block _ (lt_of_get h.at2)).trans h.at2, h.low.trans (hb.mono (by rw [← h.size]; exact h.low.size)), h.size⟩
section
variable {w w' : World} {b pb ob tb : Nat} {h h' : Hp} {nb : Option Nat} {Fp Fp' F G : List Nat} {sn sn' : Nat} {ft ft' : ByteArray → Option Int} {fn fn' : Int → Option Unit} {l l' : ObL}
set_option maxRecDepth 100000 in
theorem get_fn (H : HX w b h pb ob tb nb Fp ft sn fn l) (c k : Vl) (hc : c.In) (hk : k.In) :
    Calls Tryz.prog 51 #[.pointer (some ⟨b, 0, none⟩), c.val, k.val] w (TellSays (getH h c k).val w) := by
  have hx := boxT w c k
  obtain ⟨β, hβ⟩ : ∃ β, w.heap.size = β := ⟨_, rfl⟩
  have HBE := Lib.hid hβ
  have h0 := H.below (hx.low.mono (Nat.le_refl _))
  have cf := find_fn h0.rm 5 c hc
  have H0 := Lib.hid h0
  rw [hβ] at hx
  have HXX := Lib.hid hx
  have x0 := cell_of hx.at0 0 _ rfl
  have x1 := cell_of hx.at0 1 _ rfl
  have HK := Lib.hid hk
  rcases findV_is h0 5 c with ⟨g1, g2⟩ | ⟨p, g1, hck, hh, hn, hi, hpk, g2, hO, hP, hD⟩
  · have e : getH h c k = nilV := by
      unfold getH
      cases hf : findH h c with
      | none => rfl
      | some q =>
        obtain ⟨i, o⟩ := q
        exact if_neg (fun e => by rw [g2 e] at hf; cases hf)
    rw [e]
    rw [g1] at cf
    simp only [Option.map_none, ptrG] at cf
    clear h0 hx H g1 g2 e hc hk
    obtain ⟨ck, cn⟩ := c
    obtain ⟨kk, kn⟩ := k
    have cf : Calls Tryz.prog 62 #[.pointer (some ⟨b, 0, none⟩), .int .u8 5, .agg #[.int .u8 (ck : Int), .int .i64 cn]] (((w.alloc (.cells #[.int .u8 (ck : Int), .int .i64 cn] 37)).alloc (.cells #[.int .u8 (kk : Int), .int .i64 kn] 37)).alloc (.cells #[.int .u8 0, .int .i64 0] 37)) _ := cf
    show Calls Tryz.prog 51 #[.pointer (some ⟨b, 0, none⟩), .agg #[.int .u8 (ck : Int), .int .i64 cn], .agg #[.int .u8 (kk : Int), .int .i64 kn]] w _
    dsimp only at *
    go_enter Tryz.func51, Tryz.ntmps51
    go_wp2_with fail
    generalize hW : ((w.alloc (.cells #[.int .u8 (ck : Int), .int .i64 cn] 37)).alloc (.cells #[.int .u8 (kk : Int), .int .i64 kn] 37)).alloc (.cells #[.int .u8 0, .int .i64 0] 37) = w0 at *
    clear hW hβ
    refine cf.mono ?_
    rintro e w1 ⟨rfl, hb⟩
    have hx1 := HXX.out.below hb
    have HX1 := Lib.hid hx1
    clear x0 x1 hb cf
    have z0 := cell_of hx1.at2 0 _ rfl
    have z1 := cell_of hx1.at2 1 _ rfl
    have f0 := free_of hx1.at2 0
    have f1 := free_of hx1.at2 1
    clear hx1
    go_wp2_with fail
    refine bodyPost_ret (v := .agg #[.int .u8 0, .int .i64 0]) (by simp [results, Tryz.results51, go_sem, z0, z1]) rfl ?_
    have hle : w.heap.size ≤ β + 2 := by have := HBE.out; omega
    have hlo := HX1.out.low
    rw [← HBE.out] at hlo
    exact ⟨rfl, (hlo.setCell (p := ⟨β + 2, 0, none⟩) hle _).setCell (p := ⟨β + 2, 1, none⟩) hle _⟩
  · have e : getH h c k = getT p.o.tab k := by
      unfold getH
      rw [g2]
      exact if_pos hck
    rw [e]
    rw [g1] at cf
    simp only [Option.map_some, ptrG] at cf
    have HO := Lib.hid hO
    have HT := Lib.hid (hP.tab hpk).1
    have HPK := Lib.hid hpk
    have HGB := Lib.hid (show p.g < β from by have h1 := H.rm.lt _ (F_obj hi); omega)
    clear h0 hx H g1 g2 e hc hO hP hD hh hi hpk hn hck hk
    obtain ⟨r, hr⟩ : ∃ r, getT p.o.tab k = r := ⟨_, rfl⟩
    have HR := Lib.hid hr
    rw [hr]
    clear hr
    obtain ⟨ck, cn⟩ := c
    obtain ⟨kk, kn⟩ := k
    obtain ⟨rk, rn⟩ := r
    have cf : Calls Tryz.prog 62 #[.pointer (some ⟨b, 0, none⟩), .int .u8 5, .agg #[.int .u8 (ck : Int), .int .i64 cn]] (((w.alloc (.cells #[.int .u8 (ck : Int), .int .i64 cn] 37)).alloc (.cells #[.int .u8 (kk : Int), .int .i64 kn] 37)).alloc (.cells #[.int .u8 0, .int .i64 0] 37)) _ := cf
    show Calls Tryz.prog 51 #[.pointer (some ⟨b, 0, none⟩), .agg #[.int .u8 (ck : Int), .int .i64 cn], .agg #[.int .u8 (kk : Int), .int .i64 kn]] w _
    dsimp only at *
    go_enter Tryz.func51, Tryz.ntmps51
    go_wp2_with fail
    generalize hW : ((w.alloc (.cells #[.int .u8 (ck : Int), .int .i64 cn] 37)).alloc (.cells #[.int .u8 (kk : Int), .int .i64 kn] 37)).alloc (.cells #[.int .u8 0, .int .i64 0] 37) = w0 at *
    clear hW hβ
    refine cf.mono ?_
    rintro e w1 ⟨rfl, hb⟩
    have hd : Below w1.heap.size w1 w1.drew := (Below.refl _ _).drew
    have hx1 := (HXX.out.below hb).below hd
    have HX1 := Lib.hid hx1
    have hO1 := (HO.out.turns (G := []) (Turns.of_below hb) List.not_mem_nil).tab
    have HT1 := Lib.hid ((HT.out.keep (G := []) (Turns.of_below hb) (fun _ _ => List.not_mem_nil)).keep (G := []) (Turns.of_below hd) (fun _ _ => List.not_mem_nil))
    unfold tabV at hO1
    rw [if_pos HPK.out] at hO1
    clear x0 x1 hb cf hd
    have k0 := cell_of hx1.at1 0 _ rfl
    have k1 := cell_of hx1.at1 1 _ rfl
    clear hx1
    have cg := tget_fn HT1.out ⟨kk, kn⟩ HK.out
    rw [HR.out] at cg
    have cg : Calls Tryz.prog 68 #[.pointer (some ⟨p.t, 0, none⟩), .agg #[.int .u8 (kk : Int), .int .i64 kn]] w1.drew (fun e w' => e = .returned (.agg #[.int .u8 (rk : Int), .int .i64 rn]) ∧ Below w1.drew.heap.size w1.drew w') := cg
    generalize p.t = t at *
    generalize p.g = g at *
    go_upto_region 3 with fail
    refine wp_region_held_drew (S := fun w' => w'.cell? ⟨g, 3, none⟩ = some (.pointer (some ⟨t, 0, none⟩)) ∧ w'.cell? ⟨β + 1, 0, none⟩ = some (.int .u8 (kk : Int)) ∧ w'.cell? ⟨β + 1, 1, none⟩ = some (.int .i64 kn)) mixed ⟨hO1, k0, k1⟩ (fun hS => ?_)
    refine wpAnyH_take (i := 0) (v := ?va0) rfl (by kernel_rfl) (by kernel_rfl) (by kernel_rfl) (fun _ _ _ h => h) (.inl ⟨by rfl, ?ha0⟩) hS ?ra0
    case ha0 =>
      intro w' hs
      (try dsimp only at hs)
      go_split_ands
      go_simp
      try with_reducible rfl
    simp only [List.getElem_toArray, List.getElem_cons_zero, Act.put, List.setIfInBounds_toArray, List.set_cons_zero, List.set_cons_succ]
    refine wpAnyH_take (i := 1) (v := ?va1) rfl (by kernel_rfl) (by kernel_rfl) (by kernel_rfl) (fun _ _ _ h => h) (.inl ⟨by rfl, ?ha1⟩) hS ?ra1
    case ha1 =>
      intro w' hs
      (try dsimp only at hs)
      go_split_ands
      go_simp
      try with_reducible rfl
    simp only [List.getElem_toArray, List.getElem_cons_succ, List.getElem_cons_zero, Act.put, List.setIfInBounds_toArray, List.set_cons_zero, List.set_cons_succ]
    refine wpAnyH_take (i := 2) (v := ?va2) rfl (by kernel_rfl) (by kernel_rfl) (by kernel_rfl) (fun _ _ _ h => h) (.inl ⟨by rfl, ?ha2⟩) hS ?ra2
    case ha2 =>
      intro w' hs
      (try dsimp only at hs)
      go_split_ands
      go_simp
      try with_reducible rfl
    simp only [List.getElem_toArray, List.getElem_cons_succ, List.getElem_cons_zero, Act.put, List.setIfInBounds_toArray, List.set_cons_zero, List.set_cons_succ]
    refine wpAnyH_take (i := 3) (v := ?va3) rfl (by kernel_rfl) (by kernel_rfl) (by kernel_rfl) (fun _ _ _ h => h) (.inl ⟨by rfl, ?ha3⟩) hS ?ra3
    case ha3 =>
      intro w' hs
      (try dsimp only at hs)
      go_split_ands
      go_simp
      try with_reducible rfl
    simp only [List.getElem_toArray, List.getElem_cons_succ, List.getElem_cons_zero, Act.put, List.setIfInBounds_toArray, List.set_cons_zero, List.set_cons_succ]
    refine wpAnyH_take (i := 4) (v := ?va4) rfl (by kernel_rfl) (by kernel_rfl) (by kernel_rfl) (fun _ _ _ h => h) (.inl ⟨by rfl, ?ha4⟩) hS ?ra4
    case ha4 =>
      intro w' hs
      (try dsimp only at hs)
      go_split_ands
      go_simp
      try with_reducible rfl
    simp only [List.getElem_toArray, List.getElem_cons_succ, List.getElem_cons_zero, Act.put, List.setIfInBounds_toArray, List.set_cons_zero, List.set_cons_succ]
    refine wpAnyH_ready (rs := [5]) (by kernel_rfl) (by simp) (AllReadyH.cons rfl (fun K hK => ?_) AllReadyH.nil)
    go_simp
    refine cg.mono ?_
    rintro e w2 ⟨rfl, hb⟩
    have hx2 := HX1.out.below hb
    have HX2 := Lib.hid hx2
    have hO2 := (hb.cell (p := ⟨g, 3, none⟩) (World.block_lt_of_cell? _ _ hO1)).trans hO1
    have k2 := cell_of hx2.at1 0 _ rfl
    have k3 := cell_of hx2.at1 1 _ rfl
    have z0 := cell_of hx2.at2 0 _ rfl
    have z1 := cell_of hx2.at2 1 _ rfl
    have f0 := free_of hx2.at2 0
    have f1 := free_of hx2.at2 1
    clear hx2 hb cg
    go_wp2_with fail
    refine hK.out _ _ ⟨hO2, k2, k3⟩ (fun hS => ?_)
    clear hK
    have hgb : g < β := by have := HGB.out; omega
    have e1 : ∀ x y : Value, ((w2.setCell ⟨β + 2, 0, none⟩ x).setCell ⟨β + 2, 1, none⟩ y).cell? ⟨g, 3, none⟩ = some (.pointer (some ⟨t, 0, none⟩)) := fun x y => cell_keep (cell_keep hO2 (ne_blk (by omega))) (ne_blk (by omega))
    have e2 : ∀ x y : Value, ((w2.setCell ⟨β + 2, 0, none⟩ x).setCell ⟨β + 2, 1, none⟩ y).cell? ⟨β + 1, 0, none⟩ = some (.int .u8 (kk : Int)) := fun x y => cell_keep (cell_keep k2 (ne_blk (by omega))) (ne_blk (by omega))
    have e3 : ∀ x y : Value, ((w2.setCell ⟨β + 2, 0, none⟩ x).setCell ⟨β + 2, 1, none⟩ y).cell? ⟨β + 1, 1, none⟩ = some (.int .i64 kn) := fun x y => cell_keep (cell_keep k3 (ne_blk (by omega))) (ne_blk (by omega))
    refine wpAnyH_ready (rs := [6]) (by kernel_rfl) (by simp) (AllReadyH.cons rfl (fun K hK => ?_) AllReadyH.nil)
    go_simp
    go_wp2_with fail
    refine hK.out _ _ ⟨e1 _ _, e2 _ _, e3 _ _⟩ (fun hS => ?_)
    clear hK e1 e2 e3
    refine wpAnyH_done (by kernel_rfl) ?_ _
    clear hS
    go_wp2_with fail
    refine bodyPost_ret (v := .agg #[.int .u8 (rk : Int), .int .i64 rn]) (by simp [results, Tryz.results51, go_sem, z0, z1]) rfl ?_
    have hle : w.heap.size ≤ β + 2 := by have := HBE.out; omega
    have hlo := HX2.out.low
    rw [← HBE.out] at hlo
    exact ⟨rfl, (hlo.setCell (p := ⟨β + 2, 0, none⟩) hle _).setCell (p := ⟨β + 2, 1, none⟩) hle _⟩
end
end Go.Proofs.YthejclgihhfenaaGreat.Hd

/-
  Layer 14: the developers' heap: what an object takes.
-/
namespace Go.Proofs.YthejclgihhfenaaGreat.Hd
open Go Go.RowKit Go.Proofs.YthejclgihhfenaaGreat.Pl Go.Proofs.YthejclgihhfenaaGreat.Tb Go.Proofs.YthejclgihhfenaaGreat.Vm Go.Proofs.YthejclgihhfenaaGreat.Hp Go.Proofs.YthejclgihhfenaaGreat.Td

theorem tcount_fn {w : World} {b : Nat} {t : Tbl} {F : List Nat} (h : TA w b t F) : Calls Tryz.prog 109 #[.pointer (some ⟨b, 0, none⟩)] w fun e w' => e = .returned (.int .i64 ((countT t : Nat) : Int)) ∧ w' = w := by
  obtain ⟨mb, l, vf, fd, lv, ln, hT, hF, hI, rfl, rfl⟩ := h
  rw [← hI.live]
  exact Td.count_fn' hT
section
variable {w w' : World} {p : OP}
set_option maxRecDepth 100000 in
theorem size_fn (hO : ObjC w p) (hP : PartAt w p) (hD : DataOk p.o) :
    Calls Tryz.prog 72 #[.pointer (some ⟨p.g, 0, none⟩)] w fun e w' => e = .returned (.int .i64 (sizeO p.o)) ∧ w' = w := by
  have hk := hO.kind
  rcases hD.kind with e | e | e | e | e
  · have hs : sizeO p.o = 1 + ((p.o.text.size / 16 : Nat) : Int) := by unfold sizeO; rw [if_pos e]
    rw [hs]
    rw [e] at hk
    have ht := hO.text
    have hz := hD.text
    clear hO hP hD hs e
    generalize p.o.text = s at *
    generalize p.g = g at *
    obtain ⟨n, hn⟩ : ∃ n : Int, (s.size : Int) = n := ⟨_, rfl⟩
    obtain ⟨q, hq⟩ : ∃ q : Int, ((s.size / 16 : Nat) : Int) = q := ⟨_, rfl⟩
    have hq1 : n.tdiv 16 = q := by rw [← hn, ← hq]; exact (Int.ofNat_tdiv _ _).symm
    have hq2 : 0 ≤ q ∧ q ≤ 65535 := by omega
    have hw1 := IntWalk.i64_in (1 + q) (by omega)
    have hw2 := IntWalk.i64_in q (by omega)
    rw [hq]
    have HN := Lib.hid (And.intro hq hz)
    clear hq hz
    go_enter Tryz.func72, Tryz.ntmps72
    go_wp2_with fail
    go_ret
    exact ⟨ret_int rfl, rfl⟩
  · have hs : sizeO p.o = 2 + 2 * ((countT p.o.tab : Nat) : Int) := by unfold sizeO; rw [if_neg (by omega), if_pos e]
    rw [hs]
    rw [e] at hk
    have ht := hO.tab
    unfold tabV at ht
    rw [if_pos e] at ht
    have cc := tcount_fn (hP.tab e).1
    have hz : countT p.o.tab ≤ 65536 := by
      have h1 := (hP.tab e).2
      have h2 := List.length_filter_le alive p.o.tab
      unfold countT
      omega
    clear hO hP hD hs e
    generalize p.g = g at *
    generalize p.t = t at *
    obtain ⟨q, hq⟩ : ∃ q : Int, ((countT p.o.tab : Nat) : Int) = q := ⟨_, rfl⟩
    rw [hq] at cc ⊢
    have hq2 : 0 ≤ q ∧ q ≤ 65536 := by omega
    have hw1 := IntWalk.i64_in (2 * q) (by omega)
    have hw2 := IntWalk.i64_in (2 + 2 * q) (by omega)
    have HN := Lib.hid (And.intro hq hz)
    clear hq hz
    go_enter Tryz.func72, Tryz.ntmps72
    go_wp2_with fail
    refine cc.mono ?_
    rintro e w1 ⟨rfl, rfl⟩
    go_wp2_with fail
    go_ret
    exact ⟨ret_int rfl, rfl⟩
  · have hs : sizeO p.o = 2 + (p.o.cells.length : Int) := by unfold sizeO; rw [if_neg (by omega), if_neg (by omega), if_pos e]
    rw [hs]
    rw [e] at hk
    have ht := hO.cells
    obtain ⟨ao, cap, hcv, hl, hxx⟩ := hP.cells
    clear hxx
    rw [hcv] at ht
    have hz := hD.cells.1
    clear hO hP hD hs e hcv
    generalize p.g = g at *
    generalize p.o.cells.length = n at *
    have hw2 := IntWalk.i64_in (2 + (n : Int)) (by omega)
    go_enter Tryz.func72, Tryz.ntmps72
    go_wp2_with fail
    go_ret
    exact ⟨ret_int rfl, rfl⟩
  · have hs : sizeO p.o = 8 := by unfold sizeO; rw [if_neg (by omega), if_neg (by omega), if_neg (by omega), if_pos e]
    rw [hs]
    rw [e] at hk
    clear hO hP hD hs e
    generalize p.g = g at *
    go_enter Tryz.func72, Tryz.ntmps72
    go_wp2_with fail
    go_ret
    exact ⟨rfl, rfl⟩
  · have hs : sizeO p.o = 1 := by unfold sizeO; rw [if_neg (by omega), if_neg (by omega), if_neg (by omega), if_neg (by omega)]
    rw [hs]
    rw [e] at hk
    clear hO hP hD hs e
    generalize p.g = g at *
    go_enter Tryz.func72, Tryz.ntmps72
    go_wp2_with fail
    go_ret
    exact ⟨rfl, rfl⟩
end
end Go.Proofs.YthejclgihhfenaaGreat.Hd
