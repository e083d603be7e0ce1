import Derived.Test.YthejclgihhfenaaGreatCm32
/-
  Layer 14: the developers' heap: Set.
-/
namespace Go.Proofs.YthejclgihhfenaaGreat.Hd
open Go Go.RowKit Go.Proofs.YthejclgihhfenaaGreat.Pl Go.Proofs.YthejclgihhfenaaGreat.Tb Go.Proofs.YthejclgihhfenaaGreat.Vm Go.Proofs.YthejclgihhfenaaGreat.Hp Go.Proofs.YthejclgihhfenaaGreat.Td

/-- Three values' boxes. -/
structure Box3V (w w0 : World) (β : Nat) (t k v : Vl) : Prop where
  at0 : w0.heap[β]? = some (.cells #[.int .u8 (t.kind : Int), .int .i64 t.n] 37 (0, 0))
  at1 : w0.heap[β + 1]? = some (.cells #[.int .u8 (k.kind : Int), .int .i64 k.n] 37 (0, 0))
  at2 : w0.heap[β + 2]? = some (.cells #[.int .u8 (v.kind : Int), .int .i64 v.n] 37 (0, 0))
theorem box3V (w : World) (t k v : Vl) : Box3V w (((w.alloc (.cells #[.int .u8 (t.kind : Int), .int .i64 t.n] 37)).alloc (.cells #[.int .u8 (k.kind : Int), .int .i64 k.n] 37)).alloc (.cells #[.int .u8 (v.kind : Int), .int .i64 v.n] 37)) w.heap.size t k v where
  at0 := by
    rw [heap_alloc_old _ _ (by simp; omega), heap_alloc_old _ _ (by simp)]
    exact new_block _ _
  at1 := by
    rw [heap_alloc_old _ _ (by simp), ← size_alloc' w (.cells #[.int .u8 (t.kind : Int), .int .i64 t.n] 37)]
    exact new_block _ _
  at2 := by
    have := new_block ((w.alloc (.cells #[.int .u8 (t.kind : Int), .int .i64 t.n] 37)).alloc (.cells #[.int .u8 (k.kind : Int), .int .i64 k.n] 37)) (.cells #[.int .u8 (v.kind : Int), .int .i64 v.n] 37)
    rw [size_alloc', size_alloc'] at this
    exact this
theorem Box3V.turns {w w0 w1 : World} {β : Nat} {t k v : Vl} {G : List Nat} (h : Box3V w w0 β t k v) (ht : Turns G w0 w1) (hn : ∀ x ∈ G, x < β ∨ β + 3 ≤ x) : Box3V w w1 β t k v :=
  ⟨(ht.block _ (lt_of_get h.at0) (fun hm => by have := hn _ hm; omega)).trans h.at0, (ht.block _ (lt_of_get h.at1) (fun hm => by have := hn _ hm; omega)).trans h.at1, (ht.block _ (lt_of_get h.at2) (fun hm => by have := hn _ hm; omega)).trans h.at2⟩
theorem Box3V.below {w w0 w1 : World} {β : Nat} {t k v : Vl} (h : Box3V w w0 β t k v) (hb : Below w0.heap.size w0 w1) : Box3V w w1 β t k v := h.turns (G := []) (Turns.of_below hb) (fun _ hx => absurd hx List.not_mem_nil)
def tabQ (p : OP) (t' : Tbl) (G' : List Nat) : OP := { p with o := { p.o with tab := t' }, G := G' }
theorem key_keep {h : Hp} {k : Vl} (h0 : k.kind ≠ 0) (hk : keepB h k = true) : keyB k = true := by
  unfold keepB at hk
  rw [Bool.and_eq_true] at hk
  have h1 := hk.1
  unfold valB at h1
  unfold keyB
  rw [h1, decide_eq_true (by omega : 1 ≤ k.kind)]
  rfl
theorem val_keep {h : Hp} {k : Vl} (hk : keepB h k = true) : valB k = true := by
  unfold keepB at hk
  rw [Bool.and_eq_true] at hk
  exact hk.1
theorem key_no {h : Hp} {k v : Vl} (hx : k.kind = 0 ∨ keepB h k = false ∨ keepB h v = false) : (keyB k && (keepB h k && keepB h v)) = false := by
  rcases hx with e | e | e
  · unfold keyB
    rw [e]; rfl
  · rw [e]; simp
  · rw [e]; simp
theorem set_err {t : Tbl} {k v : Vl} (h : (keyB k && valB v) = true) (hl : t.length ≤ 65536) (he : (setT t k v).2 ≠ 0) : setT t k v = (t, 5) := by
  by_cases hh : hasT t k = true
  · exact absurd (by rw [set_put h hh]) he
  · have hh : hasT t k = false := by cases e : hasT t k with | false => rfl | true => exact absurd e hh
    by_cases hv : v.kind = 0
    · exact absurd (by rw [set_nil h hh hv]) he
    · by_cases hc : countT t < 65536
      · exact absurd (by rw [set_add h hh hv hc]) he
      · exact set_full h hh hv hl (by omega)
theorem size_tab {o : HO} (h : o.kind = 5) : sizeO o = 2 + 2 * ((countT o.tab : Nat) : Int) := by unfold sizeO; rw [if_neg (by omega), if_pos h]
section
variable {w w' : World} {b pb ob tb : Nat} {h h' : Hp} {nb : Option Nat} {Fp Fp' F G : List Nat} {st sn sn' : Nat} {ft ft' : ByteArray → Option Int} {fn fn' : Int → Option Unit} {l l' : ObL}
set_option maxRecDepth 100000 in
set_option maxHeartbeats 4000000 in
theorem set_fn'' (H : HX w b h pb ob tb nb Fp ft sn fn l) (t k v : Vl) (ht : t.In) (hk : k.In) (hv : v.In) :
    Calls Tryz.prog 20 #[.pointer (some ⟨b, 0, none⟩), t.val, k.val, v.val] w (ChgSays HP b (setH h t k v).1 (Fof b ob tb nb Fp l) (.int .i64 (setH h t k v).2) w) := by
  obtain ⟨β, hβ⟩ : ∃ β, w.heap.size = β := ⟨_, rfl⟩
  have HBE := Lib.hid hβ
  have hx := box3V w t k v
  obtain ⟨W, hW⟩ : ∃ W, ((w.alloc (.cells #[.int .u8 (t.kind : Int), .int .i64 t.n] 37)).alloc (.cells #[.int .u8 (k.kind : Int), .int .i64 k.n] 37)).alloc (.cells #[.int .u8 (v.kind : Int), .int .i64 v.n] 37) = W := ⟨_, rfl⟩
  have hlow : Below w.heap.size w W := by
    rw [← hW]
    exact (((Below.refl w.heap.size w).alloc (Nat.le_refl _) _).alloc (by simp) _).alloc (by simp; omega) _
  rw [hW, hβ] at hx
  have h0 := H.below hlow
  have hself := h0.rm.self
  have cf := find_fn h0.rm 5 t ht
  have x0 := cell_of hx.at0 0 _ rfl
  have x1 := cell_of hx.at0 1 _ rfl
  have hFβ : ∀ x ∈ Fof b ob tb nb Fp l, x < β := fun x hm => by have := H.rm.lt _ hm; omega
  have HFB := Lib.hid hFβ
  have HH := Lib.hid H
  have H0 := Lib.hid h0
  have HX0 := Lib.hid hx
  have HLOW := Lib.hid hlow
  have HV := Lib.hid (And.intro ht (And.intro hk hv))
  have HFV := Lib.hid (findV_is h0 5 t)
  obtain ⟨R, hR⟩ : ∃ R, setH h t k v = R := ⟨_, rfl⟩
  have HR := Lib.hid hR
  rw [hR]
  obtain ⟨tk, tn⟩ := t
  obtain ⟨kk, kn⟩ := k
  obtain ⟨vk, vn⟩ := v
  have cf : Calls Tryz.prog 62 #[.pointer (some ⟨b, 0, none⟩), .int .u8 5, .agg #[.int .u8 (tk : Int), .int .i64 tn]] W _ := cf
  show Calls Tryz.prog 20 #[.pointer (some ⟨b, 0, none⟩), .agg #[.int .u8 (tk : Int), .int .i64 tn], .agg #[.int .u8 (kk : Int), .int .i64 kn], .agg #[.int .u8 (vk : Int), .int .i64 vn]] w _
  dsimp only at *
  clear h0 hx H hR hlow hFβ ht hk hv
  go_enter Tryz.func20, Tryz.ntmps20
  go_wp2_with fail
  clear hW hβ
  refine (made_fn b _ hself).mono ?_
  rintro e w1 ⟨rfl, rfl⟩
  rcases HFV.out with ⟨f1, f2⟩ | ⟨p, f1, hck, hh, hn, hi, hpk, f2, hO, hP, hD⟩
  · have e : R = (h, 151) := by
      rw [← HR.out]
      unfold setH
      cases hf : findH h ⟨tk, tn⟩ with
      | none => rfl
      | some q =>
        obtain ⟨i, o⟩ := q
        exact if_neg (fun e => by rw [f2 e] at hf; cases hf)
    have HE := Lib.hid e
    rw [f1] at cf
    simp only [Option.map_none, ptrG] at cf
    clear f1 f2 e HFV
    go_wp2_with fail
    refine cf.mono ?_
    rintro e w2 ⟨rfl, hb⟩
    have HB := Lib.hid (HLOW.out.trans (hb.mono HLOW.out.size))
    clear hb cf x0 x1
    go_wp2_with fail
    go_ret
    rw [HE.out]
    exact chg_same HH.out HB.out
  · obtain ⟨i, hie⟩ : ∃ i, (tn - 1).toNat = i := ⟨_, rfl⟩
    rw [hie] at hi f2
    have hni : tn = (i : Int) + 1 := by omega
    have HI := Lib.hid (And.intro hi (And.intro hni (And.intro hpk (And.intro hD (hP.tab hpk).2))))
    have HF2 := Lib.hid (And.intro f2 hck)
    rw [f1] at cf
    simp only [Option.map_some, ptrG] at cf
    clear f1 f2 HFV hck hh hn hi hpk hO hP hD hie hni
    obtain ⟨g, hge⟩ : ∃ g, p.g = g := ⟨_, rfl⟩
    have HG := Lib.hid hge
    rw [hge] at cf
    clear hge
    go_wp2_with fail
    refine cf.mono ?_
    rintro e w2 ⟨rfl, hb⟩
    have HB2 := Lib.hid (HLOW.out.trans (hb.mono HLOW.out.size))
    have H2 := Lib.hid (H0.out.below hb)
    have hx2 := HX0.out.below hb
    have HX2 := Lib.hid hx2
    have x10 := cell_of hx2.at1 0 _ rfl
    have x11 := cell_of hx2.at1 1 _ rfl
    have x20 := cell_of hx2.at2 0 _ rfl
    have x21 := cell_of hx2.at2 1 _ rfl
    clear hb cf x0 x1 hx2
    have HBAD := Lib.hid (show (kk = 0 ∨ keepB h ⟨kk, kn⟩ = false ∨ keepB h ⟨vk, vn⟩ = false) → R = (h, 150) from fun hx => by
      rw [← HR.out]
      unfold setH
      rw [HF2.out.1]
      dsimp only
      rw [if_pos HF2.out.2, key_no hx, if_neg (by decide)])
    by_cases hk0 : kk = 0
    · subst hk0
      go_wp2_with fail
      go_ret
      rw [HBAD.out (.inl (by first | rfl | trivial))]
      exact chg_same HH.out HB2.out
    · have HK0 := Lib.hid hk0
      have hkk : ¬ (kk : Int) = 0 := by omega
      have ck := keep_fn H2.out.rm ⟨kk, kn⟩ HV.out.2.1
      rw [H2.out.keepIs] at ck
      have ck : Calls Tryz.prog 66 #[.pointer (some ⟨b, 0, none⟩), .agg #[.int .u8 (kk : Int), .int .i64 kn]] w2 _ := ck
      clear hk0
      obtain ⟨kb, hkb⟩ : ∃ kb, keepB h ⟨kk, kn⟩ = kb := ⟨_, rfl⟩
      have HKB := Lib.hid hkb
      rw [hkb] at ck
      clear hkb
      cases kb with
      | false =>
        go_wp2_with fail
        refine ck.mono ?_
        rintro e w3 ⟨rfl, hb⟩
        have HB3 := Lib.hid (HB2.out.trans (hb.mono HB2.out.size))
        clear hb ck x10 x11 x20 x21
        go_wp2_with fail
        go_ret
        rw [HBAD.out (.inr (.inl HKB.out))]
        exact chg_same HH.out HB3.out
      | true =>
        go_wp2_with fail
        refine ck.mono ?_
        rintro e w3 ⟨rfl, hb⟩
        have HB3 := Lib.hid (HB2.out.trans (hb.mono HB2.out.size))
        have H3 := Lib.hid (H2.out.below hb)
        have hx3 := HX2.out.below hb
        have HX3 := Lib.hid hx3
        clear hb ck x10 x11 x20 x21
        have x20 := cell_of hx3.at2 0 _ rfl
        have x21 := cell_of hx3.at2 1 _ rfl
        clear hx3
        have ck := keep_fn H3.out.rm ⟨vk, vn⟩ HV.out.2.2
        rw [H3.out.keepIs] at ck
        have ck : Calls Tryz.prog 66 #[.pointer (some ⟨b, 0, none⟩), .agg #[.int .u8 (vk : Int), .int .i64 vn]] w3 _ := ck
        obtain ⟨vb, hvb⟩ : ∃ vb, keepB h ⟨vk, vn⟩ = vb := ⟨_, rfl⟩
        have HVB := Lib.hid hvb
        rw [hvb] at ck
        clear hvb
        cases vb with
        | false =>
          go_wp2_with fail
          refine ck.mono ?_
          rintro e w4 ⟨rfl, hb⟩
          have HB4 := Lib.hid (HB3.out.trans (hb.mono HB3.out.size))
          clear hb ck x20 x21
          go_wp2_with fail
          go_ret
          rw [HBAD.out (.inr (.inr HVB.out))]
          exact chg_same HH.out HB4.out
        | true =>
          go_wp2_with fail
          refine ck.mono ?_
          rintro e w4 ⟨rfl, hb⟩
          have HB4 := Lib.hid (HB3.out.trans (hb.mono HB3.out.size))
          have H4 := Lib.hid (H3.out.below hb)
          have HX4 := Lib.hid (HX3.out.below hb)
          clear hb ck x20 x21 HBAD
          obtain ⟨gb, hgb⟩ : ∃ gb : Bool, (!decide (vk = 0) && decide ((getT p.o.tab ⟨kk, kn⟩).kind = 0)) = gb := ⟨_, rfl⟩
          have HGB := Lib.hid hgb
          clear hgb
          go_upto_region 8 with fail
          rw [show ((kk : Int) == 0) = false from beq_eq_false_iff_ne.2 hkk]
          go_cut [10] from 35 to 48 (fun gv wx => gv = .bool gb ∧ Below w4.heap.size w4 wx)
          case first =>
            have hd4 : Below w4.heap.size w4 w4.drew := (Below.refl _ _).drew
            have HD4 := Lib.hid hd4
            have x20 := cell_of HX4.out.at2 0 _ rfl
            have x21 := cell_of HX4.out.at2 1 _ rfl
            have x10 := cell_of HX4.out.at1 0 _ rfl
            have x11 := cell_of HX4.out.at1 1 _ rfl
            have hO4 := H4.out.rm.each i p HI.out.1
            have ot := hO4.1.tab
            unfold tabV at ot
            rw [if_pos HI.out.2.2.1, HG.out] at ot
            by_cases hv0 : vk = 0
            · have e : gb = false := by rw [← HGB.out, decide_eq_true hv0]; rfl
              subst e
              subst hv0
              clear hO4 hd4
              refine wp_region_held_drew (S := fun w' => w'.cell? ⟨β + 2, 0, none⟩ = some (.int .u8 ((0 : Nat) : Int))) mixed x20 (fun hS => ?_)
              refine wpAnyH_take (i := 0) (v := ?va0) rfl (by kernel_rfl) (by kernel_rfl) (by kernel_rfl) (fun _ _ _ h => h) (.inl ⟨by rfl, ?ha0⟩) hS ?ra0
              case ha0 =>
                intro w' hs
                (try dsimp only at hs)
                go_split_ands
                go_simp
                try with_reducible rfl
              simp only [List.getElem_toArray, List.getElem_cons_zero, Act.put, List.setIfInBounds_toArray, List.set_cons_zero, List.set_cons_succ]
              refine wpAnyH_take (i := 1) (v := ?va1) rfl (by kernel_rfl) (by kernel_rfl) (by kernel_rfl) (fun _ _ _ h => h) (.inl ⟨by rfl, ?ha1⟩) hS ?ra1
              case ha1 =>
                intro w' hs
                (try dsimp only at hs)
                go_split_ands
                go_simp
                try with_reducible rfl
              simp only [List.getElem_toArray, List.getElem_cons_succ, List.getElem_cons_zero, Act.put, List.setIfInBounds_toArray, List.set_cons_zero, List.set_cons_succ]
              refine wpAnyH_take (i := 2) (v := ?va2) rfl (by kernel_rfl) (by kernel_rfl) (by kernel_rfl) (fun _ _ _ h => h) (.inl ⟨by rfl, ?ha2⟩) hS ?ra2
              case ha2 =>
                intro w' hs
                (try dsimp only at hs)
                go_split_ands
                go_simp
                try with_reducible rfl
              simp only [List.getElem_toArray, List.getElem_cons_succ, List.getElem_cons_zero, Act.put, List.setIfInBounds_toArray, List.set_cons_zero, List.set_cons_succ]
              refine wpAnyH_take (i := 3) (v := ?va3) rfl (by kernel_rfl) (by kernel_rfl) (by kernel_rfl) (fun _ _ _ h => h) (.inl ⟨by rfl, ?ha3⟩) hS ?ra3
              case ha3 =>
                intro w' hs
                (try dsimp only at hs)
                go_split_ands
                go_simp
                try with_reducible rfl
              simp only [List.getElem_toArray, List.getElem_cons_succ, List.getElem_cons_zero, Act.put, List.setIfInBounds_toArray, List.set_cons_zero, List.set_cons_succ]
              refine wpAnyH_take (i := 4) (v := undef) rfl (by kernel_rfl) (by kernel_rfl) (by kernel_rfl) (fun _ _ _ h => h) (.inr ⟨by rfl, rfl⟩) hS ?_
              simp only [List.getElem_toArray, List.getElem_cons_succ, List.getElem_cons_zero, Act.put, List.setIfInBounds_toArray, List.set_cons_zero, List.set_cons_succ]
              refine wpAnyH_take (i := 5) (v := undef) rfl (by kernel_rfl) (by kernel_rfl) (by kernel_rfl) (fun _ _ _ h => h) (.inr ⟨by rfl, rfl⟩) hS ?_
              simp only [List.getElem_toArray, List.getElem_cons_succ, List.getElem_cons_zero, Act.put, List.setIfInBounds_toArray, List.set_cons_zero, List.set_cons_succ]
              refine wpAnyH_take (i := 6) (v := undef) rfl (by kernel_rfl) (by kernel_rfl) (by kernel_rfl) (fun _ _ _ h => h) (.inr ⟨by rfl, rfl⟩) hS ?_
              simp only [List.getElem_toArray, List.getElem_cons_succ, List.getElem_cons_zero, Act.put, List.setIfInBounds_toArray, List.set_cons_zero, List.set_cons_succ]
              refine wpAnyH_take (i := 7) (v := undef) rfl (by kernel_rfl) (by kernel_rfl) (by kernel_rfl) (fun _ _ _ h => h) (.inr ⟨by rfl, rfl⟩) hS ?_
              simp only [List.getElem_toArray, List.getElem_cons_succ, List.getElem_cons_zero, Act.put, List.setIfInBounds_toArray, List.set_cons_zero, List.set_cons_succ]
              refine wpAnyH_take (i := 8) (v := undef) rfl (by kernel_rfl) (by kernel_rfl) (by kernel_rfl) (fun _ _ _ h => h) (.inr ⟨by rfl, rfl⟩) hS ?_
              simp only [List.getElem_toArray, List.getElem_cons_succ, List.getElem_cons_zero, Act.put, List.setIfInBounds_toArray, List.set_cons_zero, List.set_cons_succ]
              refine wpAnyH_take (i := 9) (v := undef) rfl (by kernel_rfl) (by kernel_rfl) (by kernel_rfl) (fun _ _ _ h => h) (.inr ⟨by rfl, rfl⟩) hS ?_
              simp only [List.getElem_toArray, List.getElem_cons_succ, List.getElem_cons_zero, Act.put, List.setIfInBounds_toArray, List.set_cons_zero, List.set_cons_succ]
              refine wpAnyH_take (i := 10) (v := undef) rfl (by kernel_rfl) (by kernel_rfl) (by kernel_rfl) (fun _ _ _ h => h) (.inr ⟨by rfl, rfl⟩) hS ?_
              simp only [List.getElem_toArray, List.getElem_cons_succ, List.getElem_cons_zero, Act.put, List.setIfInBounds_toArray, List.set_cons_zero, List.set_cons_succ]
              refine wpAnyH_take (i := 11) (v := undef) rfl (by kernel_rfl) (by kernel_rfl) (by kernel_rfl) (fun _ _ _ h => h) (.inr ⟨by rfl, rfl⟩) hS ?_
              simp only [List.getElem_toArray, List.getElem_cons_succ, List.getElem_cons_zero, Act.put, List.setIfInBounds_toArray, List.set_cons_zero, List.set_cons_succ]
              refine wpAnyH_take (i := 12) (v := ?vb12) rfl (by kernel_rfl) (by kernel_rfl) (by kernel_rfl) (fun _ _ _ h => h) (.inl ⟨by rfl, ?hb12⟩) hS ?rb12
              case hb12 =>
                intro w' hs
                (try dsimp only at hs)
                go_split_ands
                go_simp
                try with_reducible rfl
              simp only [List.getElem_toArray, List.getElem_cons_succ, List.getElem_cons_zero, Act.put, List.setIfInBounds_toArray, List.set_cons_zero, List.set_cons_succ]
              refine wpAnyH_take (i := 13) (v := ?vb13) rfl (by kernel_rfl) (by kernel_rfl) (by kernel_rfl) (fun _ _ _ h => h) (.inl ⟨by rfl, ?hb13⟩) hS ?rb13
              case hb13 =>
                intro w' hs
                (try dsimp only at hs)
                go_split_ands
                go_simp
                try with_reducible rfl
              simp only [List.getElem_toArray, List.getElem_cons_succ, List.getElem_cons_zero, Act.put, List.setIfInBounds_toArray, List.set_cons_zero, List.set_cons_succ]
              refine wpAnyH_done (by kernel_rfl) ?_ _
              first | go_meet | (go_wp2_with fail; go_meet)
              exact ⟨rfl, HD4.out⟩
            · have HV0 := Lib.hid hv0
              have hvv : ¬ (vk : Int) = 0 := by omega
              have cg := tget_fn (w := w4.drew) (((hO4.2.tab HI.out.2.2.1).1).keep (G := []) (Turns.of_below hd4) (fun _ _ => List.not_mem_nil)) ⟨kk, kn⟩ HV.out.2.1
              obtain ⟨r, hr⟩ : ∃ r, getT p.o.tab ⟨kk, kn⟩ = r := ⟨_, rfl⟩
              have HRR := Lib.hid hr
              rw [hr] at cg
              clear hr hv0 hO4 hd4
              obtain ⟨rk, rn⟩ := r
              have cg : Calls Tryz.prog 68 #[.pointer (some ⟨p.t, 0, none⟩), .agg #[.int .u8 (kk : Int), .int .i64 kn]] w4.drew (fun e w' => e = .returned (.agg #[.int .u8 (rk : Int), .int .i64 rn]) ∧ Below w4.drew.heap.size w4.drew w') := cg
              have hfd : ∀ w : World, (Instr.field 37 (.agg #[.int .u8 (rk : Int), .int .i64 rn]) 0).run Tryz.prog w = .ok (.int .u8 (rk : Int)) w := fun _ => by kernel_rfl
              have hgbe : decide ((rk : Int) = 0) = gb := by
                rw [← HGB.out, HRR.out, decide_eq_false HV0.out]
                show decide ((rk : Int) = 0) = decide (rk = 0)
                exact decide_eq_decide.2 (by omega)
              obtain ⟨tt, htt⟩ : ∃ tt, p.t = tt := ⟨_, rfl⟩
              rw [htt] at ot cg
              clear htt
              have HGE := Lib.hid hgbe
              clear hgbe
              refine wp_region_held_drew (S := fun w' => w'.cell? ⟨β + 2, 0, none⟩ = some (.int .u8 (vk : Int)) ∧ w'.cell? ⟨g, 3, none⟩ = some (.pointer (some ⟨tt, 0, none⟩)) ∧ w'.cell? ⟨β + 1, 0, none⟩ = some (.int .u8 (kk : Int)) ∧ w'.cell? ⟨β + 1, 1, none⟩ = some (.int .i64 kn)) mixed ⟨x20, ot, x10, x11⟩ (fun hS => ?_)
              refine wpAnyH_take (i := 0) (v := ?vc0) rfl (by kernel_rfl) (by kernel_rfl) (by kernel_rfl) (fun _ _ _ h => h) (.inl ⟨by rfl, ?hc0⟩) hS ?rc0
              case hc0 =>
                intro w' hs
                (try dsimp only at hs)
                go_split_ands
                go_simp
                try with_reducible rfl
              simp only [List.getElem_toArray, List.getElem_cons_zero, Act.put, List.setIfInBounds_toArray, List.set_cons_zero, List.set_cons_succ]
              refine wpAnyH_take (i := 1) (v := ?vc1) rfl (by kernel_rfl) (by kernel_rfl) (by kernel_rfl) (fun _ _ _ h => h) (.inl ⟨by rfl, ?hc1⟩) hS ?rc1
              case hc1 =>
                intro w' hs
                (try dsimp only at hs)
                go_split_ands
                go_simp
                try with_reducible rfl
              simp only [List.getElem_toArray, List.getElem_cons_succ, List.getElem_cons_zero, Act.put, List.setIfInBounds_toArray, List.set_cons_zero, List.set_cons_succ]
              refine wpAnyH_take (i := 2) (v := ?vc2) rfl (by kernel_rfl) (by kernel_rfl) (by kernel_rfl) (fun _ _ _ h => h) (.inl ⟨by rfl, ?hc2⟩) hS ?rc2
              case hc2 =>
                intro w' hs
                (try dsimp only at hs)
                go_split_ands
                go_simp
                try with_reducible rfl
              simp only [List.getElem_toArray, List.getElem_cons_succ, List.getElem_cons_zero, Act.put, List.setIfInBounds_toArray, List.set_cons_zero, List.set_cons_succ]
              rw [show ((vk : Int) != 0) = true from bne_iff_ne.2 hvv]
              refine wpAnyH_take (i := 3) (v := ?vc3) rfl (by kernel_rfl) (by kernel_rfl) (by kernel_rfl) (fun _ _ _ h => h) (.inl ⟨by rfl, ?hc3⟩) hS ?rc3
              case hc3 =>
                intro w' hs
                (try dsimp only at hs)
                go_split_ands
                go_simp
                try with_reducible rfl
              simp only [List.getElem_toArray, List.getElem_cons_succ, List.getElem_cons_zero, Act.put, List.setIfInBounds_toArray, List.set_cons_zero, List.set_cons_succ]
              refine wpAnyH_take (i := 4) (v := ?vc4) rfl (by kernel_rfl) (by kernel_rfl) (by kernel_rfl) (fun _ _ _ h => h) (.inl ⟨by rfl, ?hc4⟩) hS ?rc4
              case hc4 =>
                intro w' hs
                (try dsimp only at hs)
                go_split_ands
                go_simp
                try with_reducible rfl
              simp only [List.getElem_toArray, List.getElem_cons_succ, List.getElem_cons_zero, Act.put, List.setIfInBounds_toArray, List.set_cons_zero, List.set_cons_succ]
              refine wpAnyH_take (i := 5) (v := ?vc5) rfl (by kernel_rfl) (by kernel_rfl) (by kernel_rfl) (fun _ _ _ h => h) (.inl ⟨by rfl, ?hc5⟩) hS ?rc5
              case hc5 =>
                intro w' hs
                (try dsimp only at hs)
                go_split_ands
                go_simp
                try with_reducible rfl
              simp only [List.getElem_toArray, List.getElem_cons_succ, List.getElem_cons_zero, Act.put, List.setIfInBounds_toArray, List.set_cons_zero, List.set_cons_succ]
              refine wpAnyH_take (i := 6) (v := ?vc6) rfl (by kernel_rfl) (by kernel_rfl) (by kernel_rfl) (fun _ _ _ h => h) (.inl ⟨by rfl, ?hc6⟩) hS ?rc6
              case hc6 =>
                intro w' hs
                (try dsimp only at hs)
                go_split_ands
                go_simp
                try with_reducible rfl
              simp only [List.getElem_toArray, List.getElem_cons_succ, List.getElem_cons_zero, Act.put, List.setIfInBounds_toArray, List.set_cons_zero, List.set_cons_succ]
              refine wpAnyH_take (i := 7) (v := ?vc7) rfl (by kernel_rfl) (by kernel_rfl) (by kernel_rfl) (fun _ _ _ h => h) (.inl ⟨by rfl, ?hc7⟩) hS ?rc7
              case hc7 =>
                intro w' hs
                (try dsimp only at hs)
                go_split_ands
                go_simp
                try with_reducible rfl
              simp only [List.getElem_toArray, List.getElem_cons_succ, List.getElem_cons_zero, Act.put, List.setIfInBounds_toArray, List.set_cons_zero, List.set_cons_succ]
              refine wpAnyH_take (i := 8) (v := ?vc8) rfl (by kernel_rfl) (by kernel_rfl) (by kernel_rfl) (fun _ _ _ h => h) (.inl ⟨by rfl, ?hc8⟩) hS ?rc8
              case hc8 =>
                intro w' hs
                (try dsimp only at hs)
                go_split_ands
                go_simp
                try with_reducible rfl
              simp only [List.getElem_toArray, List.getElem_cons_succ, List.getElem_cons_zero, Act.put, List.setIfInBounds_toArray, List.set_cons_zero, List.set_cons_succ]
              refine wpAnyH_ready (rs := [9]) (by kernel_rfl) (by simp) (AllReadyH.cons rfl (fun K hK => ?_) AllReadyH.nil)
              go_simp
              refine cg.mono ?_
              rintro e w5 ⟨rfl, hb⟩
              have hx5 := HX4.out.below (HD4.out.trans hb)
              have x20 := cell_of hx5.at2 0 _ rfl
              have x10 := cell_of hx5.at1 0 _ rfl
              have x11 := cell_of hx5.at1 1 _ rfl
              have ot5 := (hb.cell (p := ⟨g, 3, none⟩) (World.block_lt_of_cell? _ _ (show w4.drew.cell? ⟨g, 3, none⟩ = _ from ot))).trans (show w4.drew.cell? ⟨g, 3, none⟩ = _ from ot)
              have HB5 := Lib.hid (HD4.out.trans hb)
              clear hb cg hx5
              go_wp2_with fail
              refine hK.out _ _ ⟨x20, ot5, x10, x11⟩ (fun hS => ?_)
              clear hK
              refine wpAnyH_take (i := 10) (v := ?vd10) rfl (by kernel_rfl) (by kernel_rfl) (by kernel_rfl) (fun _ _ _ h => h) (.inl ⟨by rfl, ?hd10⟩) hS ?rd10
              case hd10 =>
                intro w' hs
                (try dsimp only at hs)
                go_split_ands
                go_simp
                try with_reducible rfl
              simp only [List.getElem_toArray, List.getElem_cons_succ, List.getElem_cons_zero, Act.put, List.setIfInBounds_toArray, List.set_cons_zero, List.set_cons_succ]
              refine wpAnyH_take (i := 11) (v := ?vd11) rfl (by kernel_rfl) (by kernel_rfl) (by kernel_rfl) (fun _ _ _ h => h) (.inl ⟨by rfl, ?hd11⟩) hS ?rd11
              case hd11 =>
                intro w' hs
                (try dsimp only at hs)
                go_split_ands
                go_simp
                try with_reducible rfl
              simp only [List.getElem_toArray, List.getElem_cons_succ, List.getElem_cons_zero, Act.put, List.setIfInBounds_toArray, List.set_cons_zero, List.set_cons_succ]
              refine wpAnyH_take (i := 12) (v := ?vd12) rfl (by kernel_rfl) (by kernel_rfl) (by kernel_rfl) (fun _ _ _ h => h) (.inl ⟨by rfl, ?hd12⟩) hS ?rd12
              case hd12 =>
                intro w' hs
                (try dsimp only at hs)
                go_split_ands
                go_simp
                try with_reducible rfl
              simp only [List.getElem_toArray, List.getElem_cons_succ, List.getElem_cons_zero, Act.put, List.setIfInBounds_toArray, List.set_cons_zero, List.set_cons_succ]
              refine wpAnyH_take (i := 13) (v := ?vd13) rfl (by kernel_rfl) (by kernel_rfl) (by kernel_rfl) (fun _ _ _ h => h) (.inl ⟨by rfl, ?hd13⟩) hS ?rd13
              case hd13 =>
                intro w' hs
                (try dsimp only at hs)
                go_split_ands
                go_simp
                try with_reducible rfl
              simp only [List.getElem_toArray, List.getElem_cons_succ, List.getElem_cons_zero, Act.put, List.setIfInBounds_toArray, List.set_cons_zero, List.set_cons_succ]
              refine wpAnyH_done (by kernel_rfl) ?_ _
              first | go_meet | (go_wp2_with fail; go_meet)
              exact ⟨congrArg Value.bool (by rw [← HGE.out]; rfl), HB5.out⟩
          case rest =>
            obtain ⟨rfl, hb⟩ := hcut
            have HB5 := Lib.hid (HB4.out.trans (hb.mono HB4.out.size))
            have H5 := Lib.hid (H4.out.below hb)
            have HX5 := Lib.hid (HX4.out.below hb)
            clear hb
            obtain ⟨rb, hrb⟩ : ∃ rb : Bool, decide (usedH h + 2 ≤ h.max) = rb := ⟨_, rfl⟩
            have HRB := Lib.hid hrb
            have cr := room_fn H5.out 2 (by omega)
            rw [hrb] at cr
            clear hrb
            go_step
            go_upto_region 9 with fail
            generalize wc = w5 at *
            go_cut [53] from 48 to 53 (fun cv wx => cv = .bool (gb && !rb) ∧ Below w5.heap.size w5 wx)
            case first =>
              cases gb with
              | false =>
                go_wp2_with fail
                first | go_meet | (go_wp2_with fail; go_meet)
                exact ⟨rfl, Below.refl _ _⟩
              | true =>
                go_wp2_with fail
                refine cr.mono ?_
                rintro e w6 ⟨rfl, hb⟩
                cases rb with
                | false =>
                  go_wp2_with fail
                  first | go_meet | (go_wp2_with fail; go_meet)
                  exact ⟨rfl, hb⟩
                | true =>
                  go_wp2_with fail
                  first | go_meet | (go_wp2_with fail; go_meet)
                  exact ⟨rfl, hb⟩
            case rest =>
              obtain ⟨rfl, hb⟩ := hcut
              have HB6 := Lib.hid (HB5.out.trans (hb.mono HB5.out.size))
              have H6 := Lib.hid (H5.out.below hb)
              have HX6 := Lib.hid (HX5.out.below hb)
              clear hb cr
              obtain ⟨cb, hcb⟩ : ∃ cb, (gb && !rb) = cb := ⟨_, rfl⟩
              have HCB := Lib.hid hcb
              rw [hcb]
              clear hcb
              cases cb with
              | true =>
                have e : R = (h, 152) := by
                  have h1 := HCB.out
                  rw [Bool.and_eq_true] at h1
                  obtain ⟨h1, h2⟩ := h1
                  rw [← HGB.out, Bool.and_eq_true] at h1
                  have h3 : ¬ vk = 0 := by have := h1.1; simpa using this
                  have h4 := of_decide_eq_true h1.2
                  have h5 : ¬ (usedH h + 2 ≤ h.max) := by
                    have h6 := HRB.out
                    cases hr : rb with
                    | true => rw [hr] at h2; cases h2
                    | false => rw [hr] at h6; exact of_decide_eq_false h6
                  rw [← HR.out]
                  unfold setH
                  rw [HF2.out.1]
                  dsimp only
                  rw [if_pos HF2.out.2, key_keep (show (⟨kk, kn⟩ : Vl).kind ≠ 0 from HK0.out) HKB.out, HKB.out, HVB.out, if_pos (by rfl), if_pos ⟨h4, h3, by omega⟩]
                have HE := Lib.hid e
                clear e
                go_step
                go_wp2_with fail
                go_ret
                rw [HE.out]
                exact chg_same HH.out HB6.out
              | false =>
                generalize wc = w6 at *
                go_step
                have hd6 : Below w6.heap.size w6 w6.drew := (Below.refl _ _).drew
                have x20 := cell_of HX6.out.at2 0 _ rfl
                have x21 := cell_of HX6.out.at2 1 _ rfl
                have x10 := cell_of HX6.out.at1 0 _ rfl
                have x11 := cell_of HX6.out.at1 1 _ rfl
                have hO6 := H6.out.rm.each i p HI.out.1
                have ot := hO6.1.tab
                unfold tabV at ot
                rw [if_pos HI.out.2.2.1, HG.out] at ot
                have hta := (((hO6.2.tab HI.out.2.2.1).1).keep (G := []) (Turns.of_below hd6) (fun _ _ => List.not_mem_nil))
                have HTA := Lib.hid hta
                have cs := set_fn' (w := w6.drew) ⟨kk, kn⟩ ⟨vk, vn⟩ hta HV.out.2.1 HV.out.2.2 HI.out.2.2.2.2
                obtain ⟨tt, htt⟩ : ∃ tt, p.t = tt := ⟨_, rfl⟩
                have HTT := Lib.hid htt
                rw [htt] at ot cs
                have cs : Calls Tryz.prog 70 #[.pointer (some ⟨tt, 0, none⟩), .agg #[.int .u8 (kk : Int), .int .i64 kn], .agg #[.int .u8 (vk : Int), .int .i64 vn]] w6.drew _ := cs
                clear htt hta hO6 hd6
                go_upto_region 11 with fail
                refine wp_region_held_drew (S := fun w' => w'.cell? ⟨g, 3, none⟩ = some (.pointer (some ⟨tt, 0, none⟩)) ∧ w'.cell? ⟨β + 1, 0, none⟩ = some (.int .u8 (kk : Int)) ∧ w'.cell? ⟨β + 1, 1, none⟩ = some (.int .i64 kn) ∧ w'.cell? ⟨β + 2, 0, none⟩ = some (.int .u8 (vk : Int)) ∧ w'.cell? ⟨β + 2, 1, none⟩ = some (.int .i64 vn)) mixed ⟨ot, x10, x11, x20, x21⟩ (fun hS => ?_)
                refine wpAnyH_take (i := 0) (v := ?vf0) rfl (by kernel_rfl) (by kernel_rfl) (by kernel_rfl) (fun _ _ _ h => h) (.inl ⟨by rfl, ?hf0⟩) hS ?rf0
                case hf0 =>
                  intro w' hs
                  (try dsimp only at hs)
                  go_split_ands
                  go_simp
                  try with_reducible rfl
                simp only [List.getElem_toArray, List.getElem_cons_zero, Act.put, List.setIfInBounds_toArray, List.set_cons_zero, List.set_cons_succ]
                refine wpAnyH_take (i := 1) (v := ?vf1) rfl (by kernel_rfl) (by kernel_rfl) (by kernel_rfl) (fun _ _ _ h => h) (.inl ⟨by rfl, ?hf1⟩) hS ?rf1
                case hf1 =>
                  intro w' hs
                  (try dsimp only at hs)
                  go_split_ands
                  go_simp
                  try with_reducible rfl
                simp only [List.getElem_toArray, List.getElem_cons_succ, List.getElem_cons_zero, Act.put, List.setIfInBounds_toArray, List.set_cons_zero, List.set_cons_succ]
                refine wpAnyH_take (i := 2) (v := ?vf2) rfl (by kernel_rfl) (by kernel_rfl) (by kernel_rfl) (fun _ _ _ h => h) (.inl ⟨by rfl, ?hf2⟩) hS ?rf2
                case hf2 =>
                  intro w' hs
                  (try dsimp only at hs)
                  go_split_ands
                  go_simp
                  try with_reducible rfl
                simp only [List.getElem_toArray, List.getElem_cons_succ, List.getElem_cons_zero, Act.put, List.setIfInBounds_toArray, List.set_cons_zero, List.set_cons_succ]
                refine wpAnyH_take (i := 3) (v := ?vf3) rfl (by kernel_rfl) (by kernel_rfl) (by kernel_rfl) (fun _ _ _ h => h) (.inl ⟨by rfl, ?hf3⟩) hS ?rf3
                case hf3 =>
                  intro w' hs
                  (try dsimp only at hs)
                  go_split_ands
                  go_simp
                  try with_reducible rfl
                simp only [List.getElem_toArray, List.getElem_cons_succ, List.getElem_cons_zero, Act.put, List.setIfInBounds_toArray, List.set_cons_zero, List.set_cons_succ]
                refine wpAnyH_take (i := 4) (v := ?vf4) rfl (by kernel_rfl) (by kernel_rfl) (by kernel_rfl) (fun _ _ _ h => h) (.inl ⟨by rfl, ?hf4⟩) hS ?rf4
                case hf4 =>
                  intro w' hs
                  (try dsimp only at hs)
                  go_split_ands
                  go_simp
                  try with_reducible rfl
                simp only [List.getElem_toArray, List.getElem_cons_succ, List.getElem_cons_zero, Act.put, List.setIfInBounds_toArray, List.set_cons_zero, List.set_cons_succ]
                refine wpAnyH_take (i := 5) (v := ?vf5) rfl (by kernel_rfl) (by kernel_rfl) (by kernel_rfl) (fun _ _ _ h => h) (.inl ⟨by rfl, ?hf5⟩) hS ?rf5
                case hf5 =>
                  intro w' hs
                  (try dsimp only at hs)
                  go_split_ands
                  go_simp
                  try with_reducible rfl
                simp only [List.getElem_toArray, List.getElem_cons_succ, List.getElem_cons_zero, Act.put, List.setIfInBounds_toArray, List.set_cons_zero, List.set_cons_succ]
                refine wpAnyH_ready (rs := [6]) (by kernel_rfl) (by simp) (AllReadyH.cons rfl (fun K hK => ?_) AllReadyH.nil)
                go_simp
                refine cs.mono ?_
                rintro e w7 ⟨rfl, G', hta7, ht7, hf7⟩
                have H6d := H6.out.below ((Below.refl w6.heap.size w6).drew)
                have hpG : ∀ x ∈ p.G, x < β := fun x hx => HFB.out x (F_part HI.out.1 x hx)
                have hx7 := (HX6.out.below ((Below.refl w6.heap.size w6).drew)).turns ht7 (fun x hx => .inl (hpG x hx))
                have hO7 := (H6d.rm.each i p HI.out.1).1.turns ht7 (fun hm => by
                  obtain ⟨tag, T⟩ := H6d.rm.tags
                  have h1 := T.obj i p HI.out.1
                  rw [T.part i p HI.out.1 _ hm] at h1
                  omega)
                have ot7 := hO7.tab
                unfold tabV at ot7
                rw [if_pos HI.out.2.2.1, HG.out, HTT.out] at ot7
                have x20 := cell_of hx7.at2 0 _ rfl
                have x21 := cell_of hx7.at2 1 _ rfl
                have x10 := cell_of hx7.at1 0 _ rfl
                have x11 := cell_of hx7.at1 1 _ rfl
                have HX7 := Lib.hid hx7
                have HO7 := Lib.hid hO7
                have HTA7 := Lib.hid (And.intro hta7 (And.intro ht7 hf7))
                clear cs H6d hpG hx7 hO7 hta7 ht7 hf7
                obtain ⟨T', hT'⟩ : ∃ T', setT p.o.tab ⟨kk, kn⟩ ⟨vk, vn⟩ = T' := ⟨_, rfl⟩
                have HT' := Lib.hid hT'
                rw [hT']
                clear hT'
                obtain ⟨t', e'⟩ := T'
                dsimp only
                go_wp2_with fail
                refine hK.out _ _ ⟨ot7, x10, x11, x20, x21⟩ (fun hS => ?_)
                clear hK
                refine wpAnyH_take (i := 7) (v := ?vg7) rfl (by kernel_rfl) (by kernel_rfl) (by kernel_rfl) (fun _ _ _ h => h) (.inl ⟨by rfl, ?hg7⟩) hS ?rg7
                case hg7 =>
                  intro w' hs
                  (try dsimp only at hs)
                  go_split_ands
                  go_simp
                  try with_reducible rfl
                simp only [List.getElem_toArray, List.getElem_cons_succ, List.getElem_cons_zero, Act.put, List.setIfInBounds_toArray, List.set_cons_zero, List.set_cons_succ]
                refine wpAnyH_done (by kernel_rfl) ?_ _
                clear hS
                have hkv : (keyB ⟨kk, kn⟩ && valB ⟨vk, vn⟩) = true := by rw [key_keep (show (⟨kk, kn⟩ : Vl).kind ≠ 0 from HK0.out) HKB.out, val_keep HVB.out]; rfl
                have hlen' : t'.length ≤ 65536 := by
                  have h1 := len_set (k := ⟨kk, kn⟩) (v := ⟨vk, vn⟩) HI.out.2.2.2.2
                  rw [HT'.out] at h1
                  exact h1
                have hD := HI.out.2.2.2.1
                have hta7 := HTA7.out.1
                rw [HT'.out, ← HTT.out] at hta7
                have hcells := (H6.out.rm.each i p HI.out.1).2.cells
                have hnil := (hD.notFn (by have := HI.out.2.2.1; omega)).1
                have hPq : PartAt w7 (tabQ p t' G') := ⟨fun _ => ⟨hta7, hlen'⟩, by
                  obtain ⟨ao, cap, h1, h2, _⟩ := hcells
                  show VlsP _ w7 p.cv p.o.cells
                  exact ⟨ao, cap, h1, h2, fun hne => absurd hnil hne⟩, fun e => absurd HI.out.2.2.1 e, fun e => by have e : p.o.kind = 8 := e; have := HI.out.2.2.1; omega, hta7.mem.2⟩
                have hOq : ObjC w7 (tabQ p t' G') := ⟨HO7.out.shape, HO7.out.kind, HO7.out.serial, HO7.out.text, HO7.out.tab, HO7.out.m0, HO7.out.m1, HO7.out.proto, HO7.out.cells, HO7.out.h0, HO7.out.h1, HO7.out.thr⟩
                have hDq : DataOk (tabQ p t' G').o := ⟨hD.kind, hD.serial, hD.text, hD.notText, fun e => absurd HI.out.2.2.1 e, hD.notFn, hD.notCell, hD.mtv, hD.has, hD.proto, hD.cells⟩
                have hs6 : w.heap.size ≤ w6.drew.heap.size := HB6.out.size
                have r7 := (H6.out.rm.below ((Below.refl w6.heap.size w6).drew)).setObj (q := tabQ p t' G') HI.out.1 (fun x hx => .inr hx) HTA7.out.2.1 ⟨hOq, hPq⟩ rfl HTA7.out.2.2 rfl rfl
                have T7 := Lib.hid ((Turns.of_below (F := Fof b ob tb nb Fp l) HB6.out.drew).trans HTA7.out.2.1 (fun x hx => .inl (F_part HI.out.1 x hx)))
                have HF7 := Lib.hid (F_set (q := tabQ p t' G') (b := b) (ob := ob) (tb := tb) (nb := nb) (Fp := Fp) (R := fun x => w.heap.size ≤ x) HI.out.1 rfl (fun x hx => (HTA7.out.2.2 x hx).imp id (fun h1 => Nat.le_trans hs6 h1)))
                have R7 := Lib.hid r7
                have HQ := Lib.hid (And.intro hOq (And.intro hPq hDq))
                have HKV := Lib.hid hkv
                clear r7 hPq hOq hDq hnil hcells hta7 hD hlen' hkv hs6
                by_cases he : e' = 0
                · subst he
                  have eR : R = (setO h i (note h (tabQ p t' G').o), 0) := by
                    have h1 : ¬ ((getT p.o.tab ⟨kk, kn⟩).kind = 0 ∧ (⟨vk, vn⟩ : Vl).kind ≠ 0 ∧ h.max < usedH h + 2) := fun ⟨a1, a2, a3⟩ => by
                      have h2 := HCB.out
                      have a2 : vk ≠ 0 := a2
                      rw [← HGB.out, ← HRB.out, decide_eq_false a2, decide_eq_true a1, decide_eq_false (by omega)] at h2
                      cases h2
                    rw [← HR.out]
                    unfold setH
                    rw [HF2.out.1]
                    dsimp only
                    rw [if_pos HF2.out.2, key_keep (show (⟨kk, kn⟩ : Vl).kind ≠ 0 from HK0.out) HKB.out, HKB.out, HVB.out, if_pos (by rfl), if_neg h1, HT'.out, if_pos rfl]
                    rfl
                  have HE := Lib.hid eR
                  clear eR
                  have hd7 : Below w7.heap.size w7 w7.drew := (Below.refl _ _).drew
                  have r7d := R7.out.below hd7
                  have m7 := r7d.poolc
                  have hi7 : (l.set i (some (tabQ p t' G')))[i]? = some (some (tabQ p t' G')) := by rw [get_set (idx_lt HI.out.1), if_pos rfl]
                  have hq7 := r7d.each i _ hi7
                  have csz := size_fn hq7.1 hq7.2 HQ.out.2.2
                  have csz : Calls Tryz.prog 72 #[.pointer (some ⟨p.g, 0, none⟩)] w7.drew _ := csz
                  rw [HG.out] at csz
                  obtain ⟨nsz, hnsz⟩ : ∃ nsz, sizeO (tabQ p t' G').o = nsz := ⟨_, rfl⟩
                  have hk5 := HI.out.2.2.1
                  have hnew : nsz = 2 + 2 * ((countT t' : Nat) : Int) := by rw [← hnsz]; exact size_tab (o := (tabQ p t' G').o) hk5
                  have hold : sizeO p.o = 2 + 2 * ((countT p.o.tab : Nat) : Int) := size_tab hk5
                  have hcle : countT t' ≤ countT p.o.tab + (if (getT p.o.tab ⟨kk, kn⟩).kind = 0 ∧ (⟨vk, vn⟩ : Vl).kind ≠ 0 then 1 else 0) := by
                    have h1 := count_set (k := ⟨kk, kn⟩) (v := ⟨vk, vn⟩) (((H6.out.rm.each i p HI.out.1).2.tab hk5).1.ok)
                    rw [HT'.out] at h1
                    exact h1
                  have hl2 : countT t' ≤ 65536 := by
                    have h1 := len_filter t'
                    have h2 := len_set (k := ⟨kk, kn⟩) (v := ⟨vk, vn⟩) HI.out.2.2.2.2
                    rw [HT'.out] at h2
                    unfold countT
                    exact Nat.le_trans h1 h2
                  have hok := r7d.pool.ok
                  have hres : resizeL h.max (obOf h) tn nsz = ((obOf h).set i (some nsz), 0) := by
                    have h3 := hok.sum
                    have h4 := used_item (obOf h) hok.pos i _ (ob_get HH.out.obs HI.out.1)
                    rw [HI.out.2.1]
                    unfold resizeL
                    rw [ob_at HH.out.obs HI.out.1]
                    dsimp only
                    rw [if_neg (by omega), if_neg ?_, show ((i : Int) + 1 - 1).toNat = i by omega]
                    by_cases hg2 : (getT p.o.tab ⟨kk, kn⟩).kind = 0 ∧ (⟨vk, vn⟩ : Vl).kind ≠ 0
                    · rw [if_pos hg2] at hcle
                      have h5 : usedH h + 2 ≤ h.max := by
                        have h2 := HCB.out
                        have a2 : vk ≠ 0 := hg2.2
                        rw [← HGB.out, ← HRB.out, decide_eq_false a2, decide_eq_true hg2.1] at h2
                        by_cases h6 : usedH h + 2 ≤ h.max
                        · exact h6
                        · rw [decide_eq_false h6] at h2; cases h2
                      have h6 : usedH h = usedL (obOf h) := rfl
                      omega
                    · rw [if_neg hg2] at hcle
                      omega
                  have crs := resize_fn' (w := w7.drew) tn nsz r7d.pool HV.out.1.2 (by unfold In64; omega)
                  unfold ResizeSays at crs
                  rw [hres] at crs
                  dsimp only at crs
                  have y1 := cell_of HX7.out.at0 1 _ rfl
                  have HD7 := Lib.hid hd7
                  have HI7 := Lib.hid hi7
                  have HNS := Lib.hid hnsz
                  rw [hnsz] at csz
                  clear r7d hd7 hi7 hq7 hnew hold hcle hl2 hok hres hnsz hk5
                  go_wp2_with fail
                  go_upto_region 14 with fail
                  refine wp_region_held_drew (S := fun w' => w'.cell? ⟨b, 2, none⟩ = some (.pointer (some ⟨pb, 0, none⟩)) ∧ w'.cell? ⟨β, 1, none⟩ = some (.int .i64 tn)) mixed ⟨m7, y1⟩ (fun hS => ?_)
                  refine wpAnyH_take (i := 0) (v := ?vh0) rfl (by kernel_rfl) (by kernel_rfl) (by kernel_rfl) (fun _ _ _ h => h) (.inl ⟨by rfl, ?hh0⟩) hS ?rh0
                  case hh0 =>
                    intro w' hs
                    (try dsimp only at hs)
                    go_split_ands
                    go_simp
                    try with_reducible rfl
                  simp only [List.getElem_toArray, List.getElem_cons_zero, Act.put, List.setIfInBounds_toArray, List.set_cons_zero, List.set_cons_succ]
                  refine wpAnyH_take (i := 1) (v := ?vh1) rfl (by kernel_rfl) (by kernel_rfl) (by kernel_rfl) (fun _ _ _ h => h) (.inl ⟨by rfl, ?hh1⟩) hS ?rh1
                  case hh1 =>
                    intro w' hs
                    (try dsimp only at hs)
                    go_split_ands
                    go_simp
                    try with_reducible rfl
                  simp only [List.getElem_toArray, List.getElem_cons_succ, List.getElem_cons_zero, Act.put, List.setIfInBounds_toArray, List.set_cons_zero, List.set_cons_succ]
                  refine wpAnyH_take (i := 2) (v := ?vh2) rfl (by kernel_rfl) (by kernel_rfl) (by kernel_rfl) (fun _ _ _ h => h) (.inl ⟨by rfl, ?hh2⟩) hS ?rh2
                  case hh2 =>
                    intro w' hs
                    (try dsimp only at hs)
                    go_split_ands
                    go_simp
                    try with_reducible rfl
                  simp only [List.getElem_toArray, List.getElem_cons_succ, List.getElem_cons_zero, Act.put, List.setIfInBounds_toArray, List.set_cons_zero, List.set_cons_succ]
                  refine wpAnyH_take (i := 3) (v := ?vh3) rfl (by kernel_rfl) (by kernel_rfl) (by kernel_rfl) (fun _ _ _ h => h) (.inl ⟨by rfl, ?hh3⟩) hS ?rh3
                  case hh3 =>
                    intro w' hs
                    (try dsimp only at hs)
                    go_split_ands
                    go_simp
                    try with_reducible rfl
                  simp only [List.getElem_toArray, List.getElem_cons_succ, List.getElem_cons_zero, Act.put, List.setIfInBounds_toArray, List.set_cons_zero, List.set_cons_succ]
                  refine wpAnyH_take (i := 4) (v := ?vh4) rfl (by kernel_rfl) (by kernel_rfl) (by kernel_rfl) (fun _ _ _ h => h) (.inl ⟨by rfl, ?hh4⟩) hS ?rh4
                  case hh4 =>
                    intro w' hs
                    (try dsimp only at hs)
                    go_split_ands
                    go_simp
                    try with_reducible rfl
                  simp only [List.getElem_toArray, List.getElem_cons_succ, List.getElem_cons_zero, Act.put, List.setIfInBounds_toArray, List.set_cons_zero, List.set_cons_succ]
                  refine wpAnyH_take (i := 5) (v := ?vh5) rfl (by kernel_rfl) (by kernel_rfl) (by kernel_rfl) (fun _ _ _ h => h) (.inl ⟨by rfl, ?hh5⟩) hS ?rh5
                  case hh5 =>
                    intro w' hs
                    (try dsimp only at hs)
                    go_split_ands
                    go_simp
                    try with_reducible rfl
                  simp only [List.getElem_toArray, List.getElem_cons_succ, List.getElem_cons_zero, Act.put, List.setIfInBounds_toArray, List.set_cons_zero, List.set_cons_succ]
                  refine wpAnyH_take (i := 6) (v := ?vh6) rfl (by kernel_rfl) (by kernel_rfl) (by kernel_rfl) (fun _ _ _ h => h) (.inl ⟨by rfl, ?hh6⟩) hS ?rh6
                  case hh6 =>
                    intro w' hs
                    (try dsimp only at hs)
                    go_split_ands
                    go_simp
                    try with_reducible rfl
                  simp only [List.getElem_toArray, List.getElem_cons_succ, List.getElem_cons_zero, Act.put, List.setIfInBounds_toArray, List.set_cons_zero, List.set_cons_succ]
                  refine wpAnyH_ready (rs := [7]) (by kernel_rfl) (by simp) (AllReadyH.cons rfl (fun K hK => ?_) AllReadyH.nil)
                  go_simp
                  refine csz.mono ?_
                  rintro e w8 ⟨rfl, rfl⟩
                  go_wp2_with fail
                  refine hK.out _ _ ⟨m7, y1⟩ (fun hS => ?_)
                  clear hK
                  refine wpAnyH_ready (rs := [8]) (by kernel_rfl) (by simp) (AllReadyH.cons rfl (fun K hK => ?_) AllReadyH.nil)
                  go_simp
                  refine crs.mono ?_
                  rintro e w8 ⟨rfl, Fp', hpa, htn, hfr⟩
                  have r8 := (R7.out.below HD7.out).setPool htn hpa hfr
                  have hx8 := (HX7.out.below HD7.out).turns htn (fun x hx => .inl (HFB.out x (in_F.2 (.inr (.inr (.inr (.inr (.inl hx))))))))
                  have m8 := r8.poolc
                  have y8 := cell_of hx8.at0 1 _ rfl
                  rw [← HNS.out] at r8
                  have X8 := HH.out.setSize HI.out.1 r8 rfl rfl rfl rfl HQ.out.2.2
                  have hs7 : w.heap.size ≤ w7.drew.heap.size := T7.out.size
                  have T8 := Lib.hid ((T7.out.trans (Turns.of_below (F := []) HD7.out) (fun x hx => absurd hx List.not_mem_nil)).trans htn (fun x hx => .inl (in_F.2 (.inr (.inr (.inr (.inr (.inl hx))))))))
                  have HF8 := Lib.hid (F_pool (b := b) (ob := ob) (tb := tb) (nb := nb) (l := l.set i (some (tabQ p t' G'))) (R := fun x => w.heap.size ≤ x) (fun x hx => (hfr x hx).imp id (fun h1 => Nat.le_trans hs7 h1)))
                  have cno := note_fn X8.toHXo HI7.out ⟨tk, tn⟩ HV.out.1 HI.out.2.1
                  have cno : Calls Tryz.prog 56 #[.pointer (some ⟨b, 0, none⟩), .agg #[.int .u8 (tk : Int), .int .i64 tn]] w8 _ := cno
                  have HX8 := Lib.hid X8
                  have z0 := cell_of hx8.at0 0 _ rfl
                  have z1 := cell_of hx8.at0 1 _ rfl
                  clear r8 X8 hpa htn hfr crs csz hx8 hs7
                  go_wp2_with fail
                  refine hK.out _ _ ⟨m8, y8⟩ (fun hS => ?_)
                  clear hK
                  refine wpAnyH_done (by kernel_rfl) ?_ _
                  clear hS
                  go_wp2_with fail
                  refine cno.mono ?_
                  rintro e w9 ⟨rfl, ht9, sn9, fn9, h9⟩
                  have h9 := HX8.out.noted HI7.out h9
                  rw [setO_set, List.set_set] at h9
                  have H9 := Lib.hid h9
                  have HT9 := Lib.hid ht9
                  clear cno h9 ht9 z0 z1
                  go_wp2_with fail
                  go_ret
                  rw [HE.out]
                  refine chg_of H9.out (T8.out.trans HT9.out (fun y hy => .inl (F_nb nb y hy))) (fun x hx => ?_)
                  have h1 : x ∈ Fof b ob tb nb Fp' (l.set i (some (tabQ p t' G'))) := by
                    rcases F_set (q := notedP h (tabQ p t' G')) (R := fun _ => False) HI7.out rfl (fun x hx => .inl hx) x (by rw [List.set_set]; exact hx) with h1 | h1
                    · exact h1
                    · exact absurd h1 id
                  rcases HF8.out x h1 with h2 | h2
                  · exact HF7.out x h2
                  · exact .inr h2
                · have h5 := set_err HKV.out HI.out.2.2.2.2 (by rw [HT'.out]; exact he)
                  rw [HT'.out] at h5
                  injection h5 with h5 h6
                  subst h6
                  subst h5
                  have eR : R = (setO h i (tabQ p p.o.tab G').o, 5) := by
                    have h1 : ¬ ((getT p.o.tab ⟨kk, kn⟩).kind = 0 ∧ (⟨vk, vn⟩ : Vl).kind ≠ 0 ∧ h.max < usedH h + 2) := fun ⟨a1, a2, a3⟩ => by
                      have h2 := HCB.out
                      have a2 : vk ≠ 0 := a2
                      rw [← HGB.out, ← HRB.out, decide_eq_false a2, decide_eq_true a1, decide_eq_false (by omega)] at h2
                      cases h2
                    rw [← HR.out]
                    unfold setH
                    rw [HF2.out.1]
                    dsimp only
                    rw [if_pos HF2.out.2, key_keep (show (⟨kk, kn⟩ : Vl).kind ≠ 0 from HK0.out) HKB.out, HKB.out, HVB.out, if_pos (by rfl), if_neg h1, HT'.out, if_neg (show ¬ (5 : Int) = 0 by decide)]
                    rfl
                  have HE := Lib.hid eR
                  clear eR
                  go_wp2_with fail
                  go_ret
                  rw [HE.out]
                  have hX := HH.out.setSame (q := tabQ p p.o.tab G') HI.out.1 R7.out rfl rfl rfl rfl rfl HQ.out.2.2
                  exact chg_of hX T7.out HF7.out
end
end Go.Proofs.YthejclgihhfenaaGreat.Hd
