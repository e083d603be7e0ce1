/-
  Layer 13: the chapter's example, over what the calls say (written by tb-awake.py).
-/
import Derived.Test.YtlpbciclkagnbaaTbAbs
namespace Go.Proofs.Ytlpbciclkagnbaa.Tb
open Go Go.RowKit Go.Proofs.Ytlpbciclkagnbaa.Pl

theorem TblAt.two {TA : TableP} {w0 w : World} {b : Nat} {t : Tbl} {K : Own} {k : Nat} {x y : Value} {T : TypeId} (h : TblAt TA w0 b t K w) (hm : (k, Obj.cells #[x, y] T (0, 0)) ∈ K) : w.cell? ⟨k, 0, none⟩ = some x ∧ w.cell? ⟨k, 1, none⟩ = some y := ⟨cell_of (h.own hm) 0 _ rfl, cell_of (h.own hm) 1 _ rfl⟩
theorem in_vl (k : Nat) (n : Int) (h : k < 256) (h0 : -2000000000 ≤ n) (h1 : n ≤ 2000000000) : (⟨k, n⟩ : Vl).In := ⟨h, by constructor <;> dsimp only <;> omega⟩
set_option maxHeartbeats 4000000 in
set_option maxRecDepth 100000 in
theorem awake_fn (TA : TableP) (H : TableSays TA) (w : World) : Calls Try.prog 13 #[] w (fun e w' => e = .returned (.bool true) ∧ Below w.heap.size w w') := by
  have kn := H.new w
  unfold NewSays at kn
  go_enter Try.func13, Try.ntmps13
  go_wp2_with fail
  refine kn.mono ?_
  rintro e w1 ⟨b, F, rfl, hp, hF, hb1⟩
  have H1 := Lib.hid (show TblAt TA w b [] [] w1 from ⟨F, hp, hF, hb1, fun p hp => by cases hp⟩)
  clear hp hF hb1 kn
  go_wp2_with fail
  refine (num_fn 1 w1).mono ?_
  rintro e w2 ⟨rfl, hb⟩
  have H2 := Lib.hid (H1.out.below H hb)
  clear hb
  go_wp2_with fail
  refine (str_fn 1 w2).mono ?_
  rintro e w3 ⟨rfl, hb⟩
  have H3 := Lib.hid (H2.out.below H hb)
  clear hb
  go_wp2_with fail
  refine (show Calls _ _ #[_, .agg #[.int .u8 3, .int .i64 1], .agg #[.int .u8 4, .int .i64 1]] _ _ from set_at H (numV 1) (strV 1) [((numV 1), (strV 1))] 0 (in_vl _ _ (by decide) (by decide) (by decide)) (in_vl _ _ (by decide) (by decide) (by decide)) (by decide) (show setT [] (numV 1) (strV 1) = _ by decide) H3.out).mono ?_
  rintro e w4 ⟨rfl, h4⟩
  have H4 := Lib.hid h4
  clear h4
  go_wp2_with fail
  refine (num_fn 2 w4).mono ?_
  rintro e w5 ⟨rfl, hb⟩
  have H5 := Lib.hid (H4.out.below H hb)
  clear hb
  go_wp2_with fail
  refine (str_fn 2 w5).mono ?_
  rintro e w6 ⟨rfl, hb⟩
  have H6 := Lib.hid (H5.out.below H hb)
  clear hb
  go_wp2_with fail
  refine (show Calls _ _ #[_, .agg #[.int .u8 3, .int .i64 2], .agg #[.int .u8 4, .int .i64 2]] _ _ from set_at H (numV 2) (strV 2) [((numV 1), (strV 1)), ((numV 2), (strV 2))] 0 (in_vl _ _ (by decide) (by decide) (by decide)) (in_vl _ _ (by decide) (by decide) (by decide)) (by decide) (show setT [((numV 1), (strV 1))] (numV 2) (strV 2) = _ by decide) H6.out).mono ?_
  rintro e w7 ⟨rfl, h7⟩
  have H7 := Lib.hid h7
  clear h7
  go_wp2_with fail
  refine (str_fn 9 w7).mono ?_
  rintro e w8 ⟨rfl, hb⟩
  have H8 := Lib.hid (H7.out.below H hb)
  clear hb
  go_wp2_with fail
  refine (str_fn 3 w8).mono ?_
  rintro e w9 ⟨rfl, hb⟩
  have H9 := Lib.hid (H8.out.below H hb)
  clear hb
  go_wp2_with fail
  refine (show Calls _ _ #[_, .agg #[.int .u8 4, .int .i64 9], .agg #[.int .u8 4, .int .i64 3]] _ _ from set_at H (strV 9) (strV 3) [((numV 1), (strV 1)), ((numV 2), (strV 2)), ((strV 9), (strV 3))] 0 (in_vl _ _ (by decide) (by decide) (by decide)) (in_vl _ _ (by decide) (by decide) (by decide)) (by decide) (show setT [((numV 1), (strV 1)), ((numV 2), (strV 2))] (strV 9) (strV 3) = _ by decide) H9.out).mono ?_
  rintro e w10 ⟨rfl, h10⟩
  have H10 := Lib.hid h10
  clear h10
  go_wp2_with fail
  refine (len_at H H10.out).mono ?_
  rintro e w11 ⟨n, rfl, hn, h11⟩
  obtain rfl : n = 2 := border_one hn (show BorderT [((numV 1), (strV 1)), ((numV 2), (strV 2)), ((strV 9), (strV 3))] 2 from ⟨by decide, by decide⟩)
  have H11 := Lib.hid h11
  clear h11 hn
  go_wp2_with fail
  refine (show Calls _ _ #[_, .agg #[.int .u8 0, .int .i64 0]] _ (fun e w' => e = .returned (.tuple #[.agg #[.int .u8 3, .int .i64 1], .agg #[.int .u8 4, .int .i64 1], .int .i64 0]) ∧ TblAt TA w b [((numV 1), (strV 1)), ((numV 2), (strV 2)), ((strV 9), (strV 3))] [] w') from next_at H nilV (numV 1) (strV 1) 0 (in_vl _ _ (by decide) (by decide) (by decide)) (show nextT [((numV 1), (strV 1)), ((numV 2), (strV 2)), ((strV 9), (strV 3))] nilV = _ by decide) H11.out).mono ?_
  rintro e w12 ⟨rfl, h12⟩
  have ha := (h12.alloc H (Obj.cells #[.int .u8 3, .int .i64 1] 24 (0, 0))).alloc H (Obj.cells #[.int .u8 4, .int .i64 1] 24 (0, 0))
  rw [show (w12.alloc (Obj.cells #[.int .u8 3, .int .i64 1] 24 (0, 0))).heap.size = w12.heap.size + 1 from by simp] at ha
  have H12 := Lib.hid ha
  clear h12 ha
  go_upto_region 5 with fail
  generalize hw : ((w12.alloc (Obj.cells #[.int .u8 3, .int .i64 1] 24 (0, 0))).alloc (Obj.cells #[.int .u8 4, .int .i64 1] 24 (0, 0))) = x12 at *
  generalize hb : w12.heap.size = kb at *
  generalize hc : kb + 1 = vb at *
  clear hw hb
  have HH12 := Lib.hid hc
  clear hc
  obtain ⟨w13, hw⟩ : ∃ y, y = x12 := ⟨_, rfl⟩
  rw [← hw] at H12 ⊢
  have H13 := Lib.hid (show TblAt TA w b [((numV 1), (strV 1)), ((numV 2), (strV 2)), ((strV 9), (strV 3))] [(vb, Obj.cells #[.int .u8 4, .int .i64 1] 24 (0, 0)), (kb, Obj.cells #[.int .u8 3, .int .i64 1] 24 (0, 0))] w13 from H12.out)
  clear hw
  go_wp2_with fail
  refine (num_fn 1 w13).mono ?_
  rintro e w14 ⟨rfl, hb⟩
  have H14 := Lib.hid (H13.out.below H hb)
  clear hb
  go_wp2_with fail
  refine (show Calls _ _ #[_, .agg #[.int .u8 3, .int .i64 1], .agg #[.int .u8 0, .int .i64 0]] _ _ from set_at H (numV 1) nilV [((numV 1), nilV), ((numV 2), (strV 2)), ((strV 9), (strV 3))] 0 (in_vl _ _ (by decide) (by decide) (by decide)) (in_vl _ _ (by decide) (by decide) (by decide)) (by decide) (show setT [((numV 1), (strV 1)), ((numV 2), (strV 2)), ((strV 9), (strV 3))] (numV 1) nilV = _ by decide) H14.out).mono ?_
  rintro e w15 ⟨rfl, h15⟩
  have H15 := Lib.hid h15
  clear h15
  go_wp2_with fail
  refine (num_fn 1 w15).mono ?_
  rintro e w16 ⟨rfl, hb⟩
  have H16 := Lib.hid (H15.out.below H hb)
  clear hb
  go_wp2_with fail
  refine (show Calls _ _ #[_, .agg #[.int .u8 3, .int .i64 1]] _ (fun e w' => e = .returned (.tuple #[.agg #[.int .u8 3, .int .i64 2], .agg #[.int .u8 4, .int .i64 2], .int .i64 0]) ∧ TblAt TA w b [((numV 1), nilV), ((numV 2), (strV 2)), ((strV 9), (strV 3))] [(vb, Obj.cells #[.int .u8 4, .int .i64 1] 24 (0, 0)), (kb, Obj.cells #[.int .u8 3, .int .i64 1] 24 (0, 0))] w') from next_at H (numV 1) (numV 2) (strV 2) 0 (in_vl _ _ (by decide) (by decide) (by decide)) (show nextT [((numV 1), nilV), ((numV 2), (strV 2)), ((strV 9), (strV 3))] (numV 1) = _ by decide) H16.out).mono ?_
  rintro e w17 ⟨rfl, h17⟩
  have ha := (h17.alloc H (Obj.cells #[.int .u8 3, .int .i64 2] 24 (0, 0))).alloc H (Obj.cells #[.int .u8 4, .int .i64 2] 24 (0, 0))
  rw [show (w17.alloc (Obj.cells #[.int .u8 3, .int .i64 2] 24 (0, 0))).heap.size = w17.heap.size + 1 from by simp] at ha
  have H17 := Lib.hid ha
  clear h17 ha
  go_upto_region 7 with fail
  generalize hw : ((w17.alloc (Obj.cells #[.int .u8 3, .int .i64 2] 24 (0, 0))).alloc (Obj.cells #[.int .u8 4, .int .i64 2] 24 (0, 0))) = x17 at *
  generalize hb : w17.heap.size = mb at *
  generalize hc : mb + 1 = wb at *
  clear hw hb
  have HH17 := Lib.hid hc
  clear hc
  obtain ⟨w18, hw⟩ : ∃ y, y = x17 := ⟨_, rfl⟩
  rw [← hw] at H17 ⊢
  have H18 := Lib.hid (show TblAt TA w b [((numV 1), nilV), ((numV 2), (strV 2)), ((strV 9), (strV 3))] [(wb, Obj.cells #[.int .u8 4, .int .i64 2] 24 (0, 0)), (mb, Obj.cells #[.int .u8 3, .int .i64 2] 24 (0, 0)), (vb, Obj.cells #[.int .u8 4, .int .i64 1] 24 (0, 0)), (kb, Obj.cells #[.int .u8 3, .int .i64 1] 24 (0, 0))] w18 from H17.out)
  clear hw
  go_wp2_with fail
  refine (str_fn 8 w18).mono ?_
  rintro e w19 ⟨rfl, hb⟩
  have H19 := Lib.hid (H18.out.below H hb)
  clear hb
  go_wp2_with fail
  refine (str_fn 4 w19).mono ?_
  rintro e w20 ⟨rfl, hb⟩
  have H20 := Lib.hid (H19.out.below H hb)
  clear hb
  go_wp2_with fail
  refine (show Calls _ _ #[_, .agg #[.int .u8 4, .int .i64 8], .agg #[.int .u8 4, .int .i64 4]] _ _ from set_at H (strV 8) (strV 4) [((numV 2), (strV 2)), ((strV 9), (strV 3)), ((strV 8), (strV 4))] 0 (in_vl _ _ (by decide) (by decide) (by decide)) (in_vl _ _ (by decide) (by decide) (by decide)) (by decide) (show setT [((numV 1), nilV), ((numV 2), (strV 2)), ((strV 9), (strV 3))] (strV 8) (strV 4) = _ by decide) H20.out).mono ?_
  rintro e w21 ⟨rfl, h21⟩
  have H21 := Lib.hid h21
  clear h21
  go_wp2_with fail
  refine (num_fn 1 w21).mono ?_
  rintro e w22 ⟨rfl, hb⟩
  have H22 := Lib.hid (H21.out.below H hb)
  clear hb
  go_wp2_with fail
  refine (show Calls _ _ #[_, .agg #[.int .u8 3, .int .i64 1]] _ (fun e w' => e = .returned (.tuple #[.agg #[.int .u8 0, .int .i64 0], .agg #[.int .u8 0, .int .i64 0], .int .i64 2]) ∧ TblAt TA w b [((numV 2), (strV 2)), ((strV 9), (strV 3)), ((strV 8), (strV 4))] [(wb, Obj.cells #[.int .u8 4, .int .i64 2] 24 (0, 0)), (mb, Obj.cells #[.int .u8 3, .int .i64 2] 24 (0, 0)), (vb, Obj.cells #[.int .u8 4, .int .i64 1] 24 (0, 0)), (kb, Obj.cells #[.int .u8 3, .int .i64 1] 24 (0, 0))] w') from next_at H (numV 1) nilV nilV 2 (in_vl _ _ (by decide) (by decide) (by decide)) (show nextT [((numV 2), (strV 2)), ((strV 9), (strV 3)), ((strV 8), (strV 4))] (numV 1) = _ by decide) H22.out).mono ?_
  rintro e w23 ⟨rfl, h23⟩
  have ha := (h23.alloc H (Obj.cells #[.int .u8 0, .int .i64 0] 24 (0, 0))).alloc H (Obj.cells #[.int .u8 0, .int .i64 0] 24 (0, 0))
  rw [show (w23.alloc (Obj.cells #[.int .u8 0, .int .i64 0] 24 (0, 0))).heap.size = w23.heap.size + 1 from by simp] at ha
  have H23 := Lib.hid ha
  clear h23 ha
  go_upto_region 9 with fail
  generalize hw : ((w23.alloc (Obj.cells #[.int .u8 0, .int .i64 0] 24 (0, 0))).alloc (Obj.cells #[.int .u8 0, .int .i64 0] 24 (0, 0))) = x23 at *
  generalize hb : w23.heap.size = pb at *
  generalize hc : pb + 1 = qb at *
  clear hw hb
  have HH23 := Lib.hid hc
  clear hc
  obtain ⟨w24, hw⟩ : ∃ y, y = x23 := ⟨_, rfl⟩
  rw [← hw] at H23 ⊢
  have H24 := Lib.hid (show TblAt TA w b [((numV 2), (strV 2)), ((strV 9), (strV 3)), ((strV 8), (strV 4))] [(qb, Obj.cells #[.int .u8 0, .int .i64 0] 24 (0, 0)), (pb, Obj.cells #[.int .u8 0, .int .i64 0] 24 (0, 0)), (wb, Obj.cells #[.int .u8 4, .int .i64 2] 24 (0, 0)), (mb, Obj.cells #[.int .u8 3, .int .i64 2] 24 (0, 0)), (vb, Obj.cells #[.int .u8 4, .int .i64 1] 24 (0, 0)), (kb, Obj.cells #[.int .u8 3, .int .i64 1] 24 (0, 0))] w24 from H23.out)
  clear hw
  have H25 := Lib.hid (H24.out.below H ((Below.refl w24.heap.size w24).drew))
  refine wp_region_held_drew (S := (fun w' => (w'.cell? ⟨kb, 0, none⟩ = some (.int .u8 3) ∧ w'.cell? ⟨kb, 1, none⟩ = some (.int .i64 1)) ∧ (w'.cell? ⟨vb, 0, none⟩ = some (.int .u8 4) ∧ w'.cell? ⟨vb, 1, none⟩ = some (.int .i64 1)) ∧ (w'.cell? ⟨mb, 0, none⟩ = some (.int .u8 3) ∧ w'.cell? ⟨mb, 1, none⟩ = some (.int .i64 2)) ∧ (w'.cell? ⟨wb, 0, none⟩ = some (.int .u8 4) ∧ w'.cell? ⟨wb, 1, none⟩ = some (.int .i64 2)))) mixed ⟨H25.out.two (show (kb, Obj.cells #[.int .u8 3, .int .i64 1] 24 (0, 0)) ∈ _ by simp), H25.out.two (show (vb, Obj.cells #[.int .u8 4, .int .i64 1] 24 (0, 0)) ∈ _ by simp), H25.out.two (show (mb, Obj.cells #[.int .u8 3, .int .i64 2] 24 (0, 0)) ∈ _ by simp), H25.out.two (show (wb, Obj.cells #[.int .u8 4, .int .i64 2] 24 (0, 0)) ∈ _ by simp)⟩ (fun hS => ?_)
  refine wpAnyH_take (i := 0) (v := ?va0) rfl (by kernel_rfl) (by kernel_rfl) (by kernel_rfl) (fun _ _ _ h => h) (.inl ⟨by rfl, ?ha0⟩) hS ?ra0
  case ha0 =>
    intro w' hs
    (try dsimp only at hs)
    go_split_ands
    go_simp
    try with_reducible rfl
  simp only [List.getElem_toArray, List.getElem_cons_zero, Act.put, List.setIfInBounds_toArray, List.set_cons_zero, List.set_cons_succ]
  refine wpAnyH_ready (rs := [1]) (by kernel_rfl) (by simp) (AllReadyH.cons rfl (fun K hK => ?_) AllReadyH.nil)
  go_simp
  go_at_call 16
  refine (num_fn 1 _).mono ?_
  rintro e w26 ⟨rfl, hb⟩
  have H26 := Lib.hid (H25.out.below H hb)
  clear hb
  go_wp2_with fail
  refine hK.out _ _ ⟨H26.out.two (show (kb, Obj.cells #[.int .u8 3, .int .i64 1] 24 (0, 0)) ∈ _ by simp), H26.out.two (show (vb, Obj.cells #[.int .u8 4, .int .i64 1] 24 (0, 0)) ∈ _ by simp), H26.out.two (show (mb, Obj.cells #[.int .u8 3, .int .i64 2] 24 (0, 0)) ∈ _ by simp), H26.out.two (show (wb, Obj.cells #[.int .u8 4, .int .i64 2] 24 (0, 0)) ∈ _ by simp)⟩ (fun hS => ?_)
  clear hK
  refine wpAnyH_take (i := 2) (v := ?va2) rfl (by kernel_rfl) (by kernel_rfl) (by kernel_rfl) (fun _ _ _ h => h) (.inl ⟨by rfl, ?ha2⟩) hS ?ra2
  case ha2 =>
    intro w' hs
    (try dsimp only at hs)
    go_split_ands
    go_simp
    try with_reducible rfl
  simp only [List.getElem_toArray, List.getElem_cons_succ, List.getElem_cons_zero, Act.put, List.setIfInBounds_toArray, List.set_cons_zero, List.set_cons_succ]
  refine wpAnyH_take (i := 3) (v := ?va3) rfl (by kernel_rfl) (by kernel_rfl) (by kernel_rfl) (fun _ _ _ h => h) (.inl ⟨by rfl, ?ha3⟩) hS ?ra3
  case ha3 =>
    intro w' hs
    (try dsimp only at hs)
    go_split_ands
    go_simp
    try with_reducible rfl
  simp only [List.getElem_toArray, List.getElem_cons_succ, List.getElem_cons_zero, Act.put, List.setIfInBounds_toArray, List.set_cons_zero, List.set_cons_succ]
  refine wpAnyH_take (i := 4) (v := ?va4) rfl (by kernel_rfl) (by kernel_rfl) (by kernel_rfl) (fun _ _ _ h => h) (.inl ⟨by rfl, ?ha4⟩) hS ?ra4
  case ha4 =>
    intro w' hs
    (try dsimp only at hs)
    go_split_ands
    go_simp
    try with_reducible rfl
  simp only [List.getElem_toArray, List.getElem_cons_succ, List.getElem_cons_zero, Act.put, List.setIfInBounds_toArray, List.set_cons_zero, List.set_cons_succ]
  refine wpAnyH_ready (rs := [5]) (by kernel_rfl) (by simp) (AllReadyH.cons rfl (fun K hK => ?_) AllReadyH.nil)
  go_simp
  go_at_call 27
  refine (str_fn 1 _).mono ?_
  rintro e w27 ⟨rfl, hb⟩
  have H27 := Lib.hid (H26.out.below H hb)
  clear hb
  go_wp2_with fail
  refine hK.out _ _ ⟨H27.out.two (show (kb, Obj.cells #[.int .u8 3, .int .i64 1] 24 (0, 0)) ∈ _ by simp), H27.out.two (show (vb, Obj.cells #[.int .u8 4, .int .i64 1] 24 (0, 0)) ∈ _ by simp), H27.out.two (show (mb, Obj.cells #[.int .u8 3, .int .i64 2] 24 (0, 0)) ∈ _ by simp), H27.out.two (show (wb, Obj.cells #[.int .u8 4, .int .i64 2] 24 (0, 0)) ∈ _ by simp)⟩ (fun hS => ?_)
  clear hK
  refine wpAnyH_take (i := 6) (v := ?va6) rfl (by kernel_rfl) (by kernel_rfl) (by kernel_rfl) (fun _ _ _ h => h) (.inl ⟨by rfl, ?ha6⟩) hS ?ra6
  case ha6 =>
    intro w' hs
    (try dsimp only at hs)
    go_split_ands
    go_simp
    try with_reducible rfl
  simp only [List.getElem_toArray, List.getElem_cons_succ, List.getElem_cons_zero, Act.put, List.setIfInBounds_toArray, List.set_cons_zero, List.set_cons_succ]
  refine wpAnyH_take (i := 7) (v := ?va7) rfl (by kernel_rfl) (by kernel_rfl) (by kernel_rfl) (fun _ _ _ h => h) (.inl ⟨by rfl, ?ha7⟩) hS ?ra7
  case ha7 =>
    intro w' hs
    (try dsimp only at hs)
    go_split_ands
    go_simp
    try with_reducible rfl
  simp only [List.getElem_toArray, List.getElem_cons_succ, List.getElem_cons_zero, Act.put, List.setIfInBounds_toArray, List.set_cons_zero, List.set_cons_succ]
  refine wpAnyH_take (i := 8) (v := ?va8) rfl (by kernel_rfl) (by kernel_rfl) (by kernel_rfl) (fun _ _ _ h => h) (.inl ⟨by rfl, ?ha8⟩) hS ?ra8
  case ha8 =>
    intro w' hs
    (try dsimp only at hs)
    go_split_ands
    go_simp
    try with_reducible rfl
  simp only [List.getElem_toArray, List.getElem_cons_succ, List.getElem_cons_zero, Act.put, List.setIfInBounds_toArray, List.set_cons_zero, List.set_cons_succ]
  refine wpAnyH_take (i := 9) (v := ?va9) rfl (by kernel_rfl) (by kernel_rfl) (by kernel_rfl) (fun _ _ _ h => h) (.inl ⟨by rfl, ?ha9⟩) hS ?ra9
  case ha9 =>
    intro w' hs
    (try dsimp only at hs)
    go_split_ands
    go_simp
    try with_reducible rfl
  simp only [List.getElem_toArray, List.getElem_cons_succ, List.getElem_cons_zero, Act.put, List.setIfInBounds_toArray, List.set_cons_zero, List.set_cons_succ]
  refine wpAnyH_take (i := 10) (v := ?va10) rfl (by kernel_rfl) (by kernel_rfl) (by kernel_rfl) (fun _ _ _ h => h) (.inl ⟨by rfl, ?ha10⟩) hS ?ra10
  case ha10 =>
    intro w' hs
    (try dsimp only at hs)
    go_split_ands
    go_simp
    try with_reducible rfl
  simp only [List.getElem_toArray, List.getElem_cons_succ, List.getElem_cons_zero, Act.put, List.setIfInBounds_toArray, List.set_cons_zero, List.set_cons_succ]
  refine wpAnyH_take (i := 11) (v := ?va11) rfl (by kernel_rfl) (by kernel_rfl) (by kernel_rfl) (fun _ _ _ h => h) (.inl ⟨by rfl, ?ha11⟩) hS ?ra11
  case ha11 =>
    intro w' hs
    (try dsimp only at hs)
    go_split_ands
    go_simp
    try with_reducible rfl
  simp only [List.getElem_toArray, List.getElem_cons_succ, List.getElem_cons_zero, Act.put, List.setIfInBounds_toArray, List.set_cons_zero, List.set_cons_succ]
  refine wpAnyH_take (i := 12) (v := ?va12) rfl (by kernel_rfl) (by kernel_rfl) (by kernel_rfl) (fun _ _ _ h => h) (.inl ⟨by rfl, ?ha12⟩) hS ?ra12
  case ha12 =>
    intro w' hs
    (try dsimp only at hs)
    go_split_ands
    go_simp
    try with_reducible rfl
  simp only [List.getElem_toArray, List.getElem_cons_succ, List.getElem_cons_zero, Act.put, List.setIfInBounds_toArray, List.set_cons_zero, List.set_cons_succ]
  refine wpAnyH_take (i := 13) (v := ?va13) rfl (by kernel_rfl) (by kernel_rfl) (by kernel_rfl) (fun _ _ _ h => h) (.inl ⟨by rfl, ?ha13⟩) hS ?ra13
  case ha13 =>
    intro w' hs
    (try dsimp only at hs)
    go_split_ands
    go_simp
    try with_reducible rfl
  simp only [List.getElem_toArray, List.getElem_cons_succ, List.getElem_cons_zero, Act.put, List.setIfInBounds_toArray, List.set_cons_zero, List.set_cons_succ]
  refine wpAnyH_take (i := 14) (v := ?va14) rfl (by kernel_rfl) (by kernel_rfl) (by kernel_rfl) (fun _ _ _ h => h) (.inl ⟨by rfl, ?ha14⟩) hS ?ra14
  case ha14 =>
    intro w' hs
    (try dsimp only at hs)
    go_split_ands
    go_simp
    try with_reducible rfl
  simp only [List.getElem_toArray, List.getElem_cons_succ, List.getElem_cons_zero, Act.put, List.setIfInBounds_toArray, List.set_cons_zero, List.set_cons_succ]
  refine wpAnyH_take (i := 15) (v := ?va15) rfl (by kernel_rfl) (by kernel_rfl) (by kernel_rfl) (fun _ _ _ h => h) (.inl ⟨by rfl, ?ha15⟩) hS ?ra15
  case ha15 =>
    intro w' hs
    (try dsimp only at hs)
    go_split_ands
    go_simp
    try with_reducible rfl
  simp only [List.getElem_toArray, List.getElem_cons_succ, List.getElem_cons_zero, Act.put, List.setIfInBounds_toArray, List.set_cons_zero, List.set_cons_succ]
  refine wpAnyH_take (i := 16) (v := ?va16) rfl (by kernel_rfl) (by kernel_rfl) (by kernel_rfl) (fun _ _ _ h => h) (.inl ⟨by rfl, ?ha16⟩) hS ?ra16
  case ha16 =>
    intro w' hs
    (try dsimp only at hs)
    go_split_ands
    go_simp
    try with_reducible rfl
  simp only [List.getElem_toArray, List.getElem_cons_succ, List.getElem_cons_zero, Act.put, List.setIfInBounds_toArray, List.set_cons_zero, List.set_cons_succ]
  refine wpAnyH_take (i := 17) (v := ?va17) rfl (by kernel_rfl) (by kernel_rfl) (by kernel_rfl) (fun _ _ _ h => h) (.inl ⟨by rfl, ?ha17⟩) hS ?ra17
  case ha17 =>
    intro w' hs
    (try dsimp only at hs)
    go_split_ands
    go_simp
    try with_reducible rfl
  simp only [List.getElem_toArray, List.getElem_cons_succ, List.getElem_cons_zero, Act.put, List.setIfInBounds_toArray, List.set_cons_zero, List.set_cons_succ]
  refine wpAnyH_ready (rs := [18]) (by kernel_rfl) (by simp) (AllReadyH.cons rfl (fun K hK => ?_) AllReadyH.nil)
  go_simp
  go_at_call 16
  refine (num_fn 2 _).mono ?_
  rintro e w28 ⟨rfl, hb⟩
  have H28 := Lib.hid (H27.out.below H hb)
  clear hb
  go_wp2_with fail
  refine hK.out _ _ ⟨H28.out.two (show (kb, Obj.cells #[.int .u8 3, .int .i64 1] 24 (0, 0)) ∈ _ by simp), H28.out.two (show (vb, Obj.cells #[.int .u8 4, .int .i64 1] 24 (0, 0)) ∈ _ by simp), H28.out.two (show (mb, Obj.cells #[.int .u8 3, .int .i64 2] 24 (0, 0)) ∈ _ by simp), H28.out.two (show (wb, Obj.cells #[.int .u8 4, .int .i64 2] 24 (0, 0)) ∈ _ by simp)⟩ (fun hS => ?_)
  clear hK
  refine wpAnyH_take (i := 19) (v := ?va19) rfl (by kernel_rfl) (by kernel_rfl) (by kernel_rfl) (fun _ _ _ h => h) (.inl ⟨by rfl, ?ha19⟩) hS ?ra19
  case ha19 =>
    intro w' hs
    (try dsimp only at hs)
    go_split_ands
    go_simp
    try with_reducible rfl
  simp only [List.getElem_toArray, List.getElem_cons_succ, List.getElem_cons_zero, Act.put, List.setIfInBounds_toArray, List.set_cons_zero, List.set_cons_succ]
  refine wpAnyH_take (i := 20) (v := ?va20) rfl (by kernel_rfl) (by kernel_rfl) (by kernel_rfl) (fun _ _ _ h => h) (.inl ⟨by rfl, ?ha20⟩) hS ?ra20
  case ha20 =>
    intro w' hs
    (try dsimp only at hs)
    go_split_ands
    go_simp
    try with_reducible rfl
  simp only [List.getElem_toArray, List.getElem_cons_succ, List.getElem_cons_zero, Act.put, List.setIfInBounds_toArray, List.set_cons_zero, List.set_cons_succ]
  refine wpAnyH_take (i := 21) (v := ?va21) rfl (by kernel_rfl) (by kernel_rfl) (by kernel_rfl) (fun _ _ _ h => h) (.inl ⟨by rfl, ?ha21⟩) hS ?ra21
  case ha21 =>
    intro w' hs
    (try dsimp only at hs)
    go_split_ands
    go_simp
    try with_reducible rfl
  simp only [List.getElem_toArray, List.getElem_cons_succ, List.getElem_cons_zero, Act.put, List.setIfInBounds_toArray, List.set_cons_zero, List.set_cons_succ]
  refine wpAnyH_take (i := 22) (v := ?va22) rfl (by kernel_rfl) (by kernel_rfl) (by kernel_rfl) (fun _ _ _ h => h) (.inl ⟨by rfl, ?ha22⟩) hS ?ra22
  case ha22 =>
    intro w' hs
    (try dsimp only at hs)
    go_split_ands
    go_simp
    try with_reducible rfl
  simp only [List.getElem_toArray, List.getElem_cons_succ, List.getElem_cons_zero, Act.put, List.setIfInBounds_toArray, List.set_cons_zero, List.set_cons_succ]
  refine wpAnyH_ready (rs := [23]) (by kernel_rfl) (by simp) (AllReadyH.cons rfl (fun K hK => ?_) AllReadyH.nil)
  go_simp
  go_at_call 27
  refine (str_fn 2 _).mono ?_
  rintro e w29 ⟨rfl, hb⟩
  have H29 := Lib.hid (H28.out.below H hb)
  clear hb
  go_wp2_with fail
  refine hK.out _ _ ⟨H29.out.two (show (kb, Obj.cells #[.int .u8 3, .int .i64 1] 24 (0, 0)) ∈ _ by simp), H29.out.two (show (vb, Obj.cells #[.int .u8 4, .int .i64 1] 24 (0, 0)) ∈ _ by simp), H29.out.two (show (mb, Obj.cells #[.int .u8 3, .int .i64 2] 24 (0, 0)) ∈ _ by simp), H29.out.two (show (wb, Obj.cells #[.int .u8 4, .int .i64 2] 24 (0, 0)) ∈ _ by simp)⟩ (fun hS => ?_)
  clear hK
  refine wpAnyH_take (i := 24) (v := ?va24) rfl (by kernel_rfl) (by kernel_rfl) (by kernel_rfl) (fun _ _ _ h => h) (.inl ⟨by rfl, ?ha24⟩) hS ?ra24
  case ha24 =>
    intro w' hs
    (try dsimp only at hs)
    go_split_ands
    go_simp
    try with_reducible rfl
  simp only [List.getElem_toArray, List.getElem_cons_succ, List.getElem_cons_zero, Act.put, List.setIfInBounds_toArray, List.set_cons_zero, List.set_cons_succ]
  refine wpAnyH_take (i := 25) (v := ?va25) rfl (by kernel_rfl) (by kernel_rfl) (by kernel_rfl) (fun _ _ _ h => h) (.inl ⟨by rfl, ?ha25⟩) hS ?ra25
  case ha25 =>
    intro w' hs
    (try dsimp only at hs)
    go_split_ands
    go_simp
    try with_reducible rfl
  simp only [List.getElem_toArray, List.getElem_cons_succ, List.getElem_cons_zero, Act.put, List.setIfInBounds_toArray, List.set_cons_zero, List.set_cons_succ]
  refine wpAnyH_take (i := 26) (v := ?va26) rfl (by kernel_rfl) (by kernel_rfl) (by kernel_rfl) (fun _ _ _ h => h) (.inl ⟨by rfl, ?ha26⟩) hS ?ra26
  case ha26 =>
    intro w' hs
    (try dsimp only at hs)
    go_split_ands
    go_simp
    try with_reducible rfl
  simp only [List.getElem_toArray, List.getElem_cons_succ, List.getElem_cons_zero, Act.put, List.setIfInBounds_toArray, List.set_cons_zero, List.set_cons_succ]
  refine wpAnyH_take (i := 27) (v := ?va27) rfl (by kernel_rfl) (by kernel_rfl) (by kernel_rfl) (fun _ _ _ h => h) (.inl ⟨by rfl, ?ha27⟩) hS ?ra27
  case ha27 =>
    intro w' hs
    (try dsimp only at hs)
    go_split_ands
    go_simp
    try with_reducible rfl
  simp only [List.getElem_toArray, List.getElem_cons_succ, List.getElem_cons_zero, Act.put, List.setIfInBounds_toArray, List.set_cons_zero, List.set_cons_succ]
  refine wpAnyH_take (i := 28) (v := ?va28) rfl (by kernel_rfl) (by kernel_rfl) (by kernel_rfl) (fun _ _ _ h => h) (.inl ⟨by rfl, ?ha28⟩) hS ?ra28
  case ha28 =>
    intro w' hs
    (try dsimp only at hs)
    go_split_ands
    go_simp
    try with_reducible rfl
  simp only [List.getElem_toArray, List.getElem_cons_succ, List.getElem_cons_zero, Act.put, List.setIfInBounds_toArray, List.set_cons_zero, List.set_cons_succ]
  refine wpAnyH_take (i := 29) (v := ?va29) rfl (by kernel_rfl) (by kernel_rfl) (by kernel_rfl) (fun _ _ _ h => h) (.inl ⟨by rfl, ?ha29⟩) hS ?ra29
  case ha29 =>
    intro w' hs
    (try dsimp only at hs)
    go_split_ands
    go_simp
    try with_reducible rfl
  simp only [List.getElem_toArray, List.getElem_cons_succ, List.getElem_cons_zero, Act.put, List.setIfInBounds_toArray, List.set_cons_zero, List.set_cons_succ]
  refine wpAnyH_take (i := 30) (v := ?va30) rfl (by kernel_rfl) (by kernel_rfl) (by kernel_rfl) (fun _ _ _ h => h) (.inl ⟨by rfl, ?ha30⟩) hS ?ra30
  case ha30 =>
    intro w' hs
    (try dsimp only at hs)
    go_split_ands
    go_simp
    try with_reducible rfl
  simp only [List.getElem_toArray, List.getElem_cons_succ, List.getElem_cons_zero, Act.put, List.setIfInBounds_toArray, List.set_cons_zero, List.set_cons_succ]
  refine wpAnyH_take (i := 31) (v := ?va31) rfl (by kernel_rfl) (by kernel_rfl) (by kernel_rfl) (fun _ _ _ h => h) (.inl ⟨by rfl, ?ha31⟩) hS ?ra31
  case ha31 =>
    intro w' hs
    (try dsimp only at hs)
    go_split_ands
    go_simp
    try with_reducible rfl
  simp only [List.getElem_toArray, List.getElem_cons_succ, List.getElem_cons_zero, Act.put, List.setIfInBounds_toArray, List.set_cons_zero, List.set_cons_succ]
  refine wpAnyH_ready (rs := [32]) (by kernel_rfl) (by simp) (AllReadyH.cons rfl (fun K hK => ?_) AllReadyH.nil)
  go_simp
  go_at_call 10
  refine (len_at H H29.out).mono ?_
  rintro e w30 ⟨n, rfl, hn, hh⟩
  obtain rfl : n = 0 := border_one hn (show BorderT [((numV 2), (strV 2)), ((strV 9), (strV 3)), ((strV 8), (strV 4))] 0 from ⟨fun i h => absurd h (Nat.not_lt_zero _), by decide⟩)
  clear hn
  have H30 := Lib.hid hh
  clear hh
  go_wp2_with fail
  refine hK.out _ _ ⟨H30.out.two (show (kb, Obj.cells #[.int .u8 3, .int .i64 1] 24 (0, 0)) ∈ _ by simp), H30.out.two (show (vb, Obj.cells #[.int .u8 4, .int .i64 1] 24 (0, 0)) ∈ _ by simp), H30.out.two (show (mb, Obj.cells #[.int .u8 3, .int .i64 2] 24 (0, 0)) ∈ _ by simp), H30.out.two (show (wb, Obj.cells #[.int .u8 4, .int .i64 2] 24 (0, 0)) ∈ _ by simp)⟩ (fun hS => ?_)
  clear hK
  refine wpAnyH_take (i := 33) (v := ?va33) rfl (by kernel_rfl) (by kernel_rfl) (by kernel_rfl) (fun _ _ _ h => h) (.inl ⟨by rfl, ?ha33⟩) hS ?ra33
  case ha33 =>
    intro w' hs
    (try dsimp only at hs)
    go_split_ands
    go_simp
    try with_reducible rfl
  simp only [List.getElem_toArray, List.getElem_cons_succ, List.getElem_cons_zero, Act.put, List.setIfInBounds_toArray, List.set_cons_zero, List.set_cons_succ]
  refine wpAnyH_take (i := 34) (v := ?va34) rfl (by kernel_rfl) (by kernel_rfl) (by kernel_rfl) (fun _ _ _ h => h) (.inl ⟨by rfl, ?ha34⟩) hS ?ra34
  case ha34 =>
    intro w' hs
    (try dsimp only at hs)
    go_split_ands
    go_simp
    try with_reducible rfl
  simp only [List.getElem_toArray, List.getElem_cons_succ, List.getElem_cons_zero, Act.put, List.setIfInBounds_toArray, List.set_cons_zero, List.set_cons_succ]
  refine wpAnyH_take (i := 35) (v := ?va35) rfl (by kernel_rfl) (by kernel_rfl) (by kernel_rfl) (fun _ _ _ h => h) (.inl ⟨by rfl, ?ha35⟩) hS ?ra35
  case ha35 =>
    intro w' hs
    (try dsimp only at hs)
    go_split_ands
    go_simp
    try with_reducible rfl
  simp only [List.getElem_toArray, List.getElem_cons_succ, List.getElem_cons_zero, Act.put, List.setIfInBounds_toArray, List.set_cons_zero, List.set_cons_succ]
  refine wpAnyH_take (i := 36) (v := ?va36) rfl (by kernel_rfl) (by kernel_rfl) (by kernel_rfl) (fun _ _ _ h => h) (.inl ⟨by rfl, ?ha36⟩) hS ?ra36
  case ha36 =>
    intro w' hs
    (try dsimp only at hs)
    go_split_ands
    go_simp
    try with_reducible rfl
  simp only [List.getElem_toArray, List.getElem_cons_succ, List.getElem_cons_zero, Act.put, List.setIfInBounds_toArray, List.set_cons_zero, List.set_cons_succ]
  refine wpAnyH_ready (rs := [37]) (by kernel_rfl) (by simp) (AllReadyH.cons rfl (fun K hK => ?_) AllReadyH.nil)
  go_simp
  go_at_call 11
  refine (count_at H 3 (show (countT [((numV 2), (strV 2)), ((strV 9), (strV 3)), ((strV 8), (strV 4))] : Int) = 3 by decide) H30.out).mono ?_
  rintro e w31 ⟨rfl, hh⟩
  have H31 := Lib.hid hh
  clear hh
  go_wp2_with fail
  refine hK.out _ _ ⟨H31.out.two (show (kb, Obj.cells #[.int .u8 3, .int .i64 1] 24 (0, 0)) ∈ _ by simp), H31.out.two (show (vb, Obj.cells #[.int .u8 4, .int .i64 1] 24 (0, 0)) ∈ _ by simp), H31.out.two (show (mb, Obj.cells #[.int .u8 3, .int .i64 2] 24 (0, 0)) ∈ _ by simp), H31.out.two (show (wb, Obj.cells #[.int .u8 4, .int .i64 2] 24 (0, 0)) ∈ _ by simp)⟩ (fun hS => ?_)
  clear hK
  refine wpAnyH_take (i := 38) (v := ?va38) rfl (by kernel_rfl) (by kernel_rfl) (by kernel_rfl) (fun _ _ _ h => h) (.inl ⟨by rfl, ?ha38⟩) hS ?ra38
  case ha38 =>
    intro w' hs
    (try dsimp only at hs)
    go_split_ands
    go_simp
    try with_reducible rfl
  simp only [List.getElem_toArray, List.getElem_cons_succ, List.getElem_cons_zero, Act.put, List.setIfInBounds_toArray, List.set_cons_zero, List.set_cons_succ]
  refine wpAnyH_take (i := 39) (v := ?va39) rfl (by kernel_rfl) (by kernel_rfl) (by kernel_rfl) (fun _ _ _ h => h) (.inl ⟨by rfl, ?ha39⟩) hS ?ra39
  case ha39 =>
    intro w' hs
    (try dsimp only at hs)
    go_split_ands
    go_simp
    try with_reducible rfl
  simp only [List.getElem_toArray, List.getElem_cons_succ, List.getElem_cons_zero, Act.put, List.setIfInBounds_toArray, List.set_cons_zero, List.set_cons_succ]
  refine wpAnyH_take (i := 40) (v := ?va40) rfl (by kernel_rfl) (by kernel_rfl) (by kernel_rfl) (fun _ _ _ h => h) (.inl ⟨by rfl, ?ha40⟩) hS ?ra40
  case ha40 =>
    intro w' hs
    (try dsimp only at hs)
    go_split_ands
    go_simp
    try with_reducible rfl
  simp only [List.getElem_toArray, List.getElem_cons_succ, List.getElem_cons_zero, Act.put, List.setIfInBounds_toArray, List.set_cons_zero, List.set_cons_succ]
  refine wpAnyH_take (i := 41) (v := ?va41) rfl (by kernel_rfl) (by kernel_rfl) (by kernel_rfl) (fun _ _ _ h => h) (.inl ⟨by rfl, ?ha41⟩) hS ?ra41
  case ha41 =>
    intro w' hs
    (try dsimp only at hs)
    go_split_ands
    go_simp
    try with_reducible rfl
  simp only [List.getElem_toArray, List.getElem_cons_succ, List.getElem_cons_zero, Act.put, List.setIfInBounds_toArray, List.set_cons_zero, List.set_cons_succ]
  refine wpAnyH_take (i := 42) (v := ?va42) rfl (by kernel_rfl) (by kernel_rfl) (by kernel_rfl) (fun _ _ _ h => h) (.inl ⟨by rfl, ?ha42⟩) hS ?ra42
  case ha42 =>
    intro w' hs
    (try dsimp only at hs)
    go_split_ands
    go_simp
    try with_reducible rfl
  simp only [List.getElem_toArray, List.getElem_cons_succ, List.getElem_cons_zero, Act.put, List.setIfInBounds_toArray, List.set_cons_zero, List.set_cons_succ]
  refine wpAnyH_take (i := 43) (v := ?va43) rfl (by kernel_rfl) (by kernel_rfl) (by kernel_rfl) (fun _ _ _ h => h) (.inl ⟨by rfl, ?ha43⟩) hS ?ra43
  case ha43 =>
    intro w' hs
    (try dsimp only at hs)
    go_split_ands
    go_simp
    try with_reducible rfl
  simp only [List.getElem_toArray, List.getElem_cons_succ, List.getElem_cons_zero, Act.put, List.setIfInBounds_toArray, List.set_cons_zero, List.set_cons_succ]
  refine wpAnyH_take (i := 44) (v := ?va44) rfl (by kernel_rfl) (by kernel_rfl) (by kernel_rfl) (fun _ _ _ h => h) (.inl ⟨by rfl, ?ha44⟩) hS ?ra44
  case ha44 =>
    intro w' hs
    (try dsimp only at hs)
    go_split_ands
    go_simp
    try with_reducible rfl
  simp only [List.getElem_toArray, List.getElem_cons_succ, List.getElem_cons_zero, Act.put, List.setIfInBounds_toArray, List.set_cons_zero, List.set_cons_succ]
  refine wpAnyH_take (i := 45) (v := ?va45) rfl (by kernel_rfl) (by kernel_rfl) (by kernel_rfl) (fun _ _ _ h => h) (.inl ⟨by rfl, ?ha45⟩) hS ?ra45
  case ha45 =>
    intro w' hs
    (try dsimp only at hs)
    go_split_ands
    go_simp
    try with_reducible rfl
  simp only [List.getElem_toArray, List.getElem_cons_succ, List.getElem_cons_zero, Act.put, List.setIfInBounds_toArray, List.set_cons_zero, List.set_cons_succ]
  refine wpAnyH_take (i := 46) (v := ?va46) rfl (by kernel_rfl) (by kernel_rfl) (by kernel_rfl) (fun _ _ _ h => h) (.inl ⟨by rfl, ?ha46⟩) hS ?ra46
  case ha46 =>
    intro w' hs
    (try dsimp only at hs)
    go_split_ands
    go_simp
    try with_reducible rfl
  simp only [List.getElem_toArray, List.getElem_cons_succ, List.getElem_cons_zero, Act.put, List.setIfInBounds_toArray, List.set_cons_zero, List.set_cons_succ]
  refine wpAnyH_take (i := 47) (v := ?va47) rfl (by kernel_rfl) (by kernel_rfl) (by kernel_rfl) (fun _ _ _ h => h) (.inl ⟨by rfl, ?ha47⟩) hS ?ra47
  case ha47 =>
    intro w' hs
    (try dsimp only at hs)
    go_split_ands
    go_simp
    try with_reducible rfl
  simp only [List.getElem_toArray, List.getElem_cons_succ, List.getElem_cons_zero, Act.put, List.setIfInBounds_toArray, List.set_cons_zero, List.set_cons_succ]
  refine wpAnyH_take (i := 48) (v := ?va48) rfl (by kernel_rfl) (by kernel_rfl) (by kernel_rfl) (fun _ _ _ h => h) (.inl ⟨by rfl, ?ha48⟩) hS ?ra48
  case ha48 =>
    intro w' hs
    (try dsimp only at hs)
    go_split_ands
    go_simp
    try with_reducible rfl
  simp only [List.getElem_toArray, List.getElem_cons_succ, List.getElem_cons_zero, Act.put, List.setIfInBounds_toArray, List.set_cons_zero, List.set_cons_succ]
  refine wpAnyH_take (i := 49) (v := ?va49) rfl (by kernel_rfl) (by kernel_rfl) (by kernel_rfl) (fun _ _ _ h => h) (.inl ⟨by rfl, ?ha49⟩) hS ?ra49
  case ha49 =>
    intro w' hs
    (try dsimp only at hs)
    go_split_ands
    go_simp
    try with_reducible rfl
  simp only [List.getElem_toArray, List.getElem_cons_succ, List.getElem_cons_zero, Act.put, List.setIfInBounds_toArray, List.set_cons_zero, List.set_cons_succ]
  refine wpAnyH_take (i := 50) (v := ?va50) rfl (by kernel_rfl) (by kernel_rfl) (by kernel_rfl) (fun _ _ _ h => h) (.inl ⟨by rfl, ?ha50⟩) hS ?ra50
  case ha50 =>
    intro w' hs
    (try dsimp only at hs)
    go_split_ands
    go_simp
    try with_reducible rfl
  simp only [List.getElem_toArray, List.getElem_cons_succ, List.getElem_cons_zero, Act.put, List.setIfInBounds_toArray, List.set_cons_zero, List.set_cons_succ]
  refine wpAnyH_ready (rs := [51]) (by kernel_rfl) (by simp) (AllReadyH.cons rfl (fun K hK => ?_) AllReadyH.nil)
  go_simp
  go_at_call 16
  refine (num_fn 1 _).mono ?_
  rintro e w32 ⟨rfl, hb⟩
  have H32 := Lib.hid (H31.out.below H hb)
  clear hb
  go_wp2_with fail
  refine hK.out _ _ ⟨H32.out.two (show (kb, Obj.cells #[.int .u8 3, .int .i64 1] 24 (0, 0)) ∈ _ by simp), H32.out.two (show (vb, Obj.cells #[.int .u8 4, .int .i64 1] 24 (0, 0)) ∈ _ by simp), H32.out.two (show (mb, Obj.cells #[.int .u8 3, .int .i64 2] 24 (0, 0)) ∈ _ by simp), H32.out.two (show (wb, Obj.cells #[.int .u8 4, .int .i64 2] 24 (0, 0)) ∈ _ by simp)⟩ (fun hS => ?_)
  clear hK
  refine wpAnyH_ready (rs := [52]) (by kernel_rfl) (by simp) (AllReadyH.cons rfl (fun K hK => ?_) AllReadyH.nil)
  go_simp
  go_at_call 8
  refine (show Calls _ _ #[_, .agg #[.int .u8 0, .int .i64 0], .agg #[.int .u8 3, .int .i64 1]] _ _ from set_at H nilV (numV 1) [((numV 2), (strV 2)), ((strV 9), (strV 3)), ((strV 8), (strV 4))] 150 (in_vl _ _ (by decide) (by decide) (by decide)) (in_vl _ _ (by decide) (by decide) (by decide)) (by decide) (show setT [((numV 2), (strV 2)), ((strV 9), (strV 3)), ((strV 8), (strV 4))] nilV (numV 1) = _ by decide) H32.out).mono ?_
  rintro e w33 ⟨rfl, hh⟩
  have H33 := Lib.hid hh
  clear hh
  go_wp2_with fail
  refine hK.out _ _ ⟨H33.out.two (show (kb, Obj.cells #[.int .u8 3, .int .i64 1] 24 (0, 0)) ∈ _ by simp), H33.out.two (show (vb, Obj.cells #[.int .u8 4, .int .i64 1] 24 (0, 0)) ∈ _ by simp), H33.out.two (show (mb, Obj.cells #[.int .u8 3, .int .i64 2] 24 (0, 0)) ∈ _ by simp), H33.out.two (show (wb, Obj.cells #[.int .u8 4, .int .i64 2] 24 (0, 0)) ∈ _ by simp)⟩ (fun hS => ?_)
  clear hK
  refine wpAnyH_take (i := 53) (v := ?va53) rfl (by kernel_rfl) (by kernel_rfl) (by kernel_rfl) (fun _ _ _ h => h) (.inl ⟨by rfl, ?ha53⟩) hS ?ra53
  case ha53 =>
    intro w' hs
    (try dsimp only at hs)
    go_split_ands
    go_simp
    try with_reducible rfl
  simp only [List.getElem_toArray, List.getElem_cons_succ, List.getElem_cons_zero, Act.put, List.setIfInBounds_toArray, List.set_cons_zero, List.set_cons_succ]
  refine wpAnyH_take (i := 54) (v := ?va54) rfl (by kernel_rfl) (by kernel_rfl) (by kernel_rfl) (fun _ _ _ h => h) (.inl ⟨by rfl, ?ha54⟩) hS ?ra54
  case ha54 =>
    intro w' hs
    (try dsimp only at hs)
    go_split_ands
    go_simp
    try with_reducible rfl
  simp only [List.getElem_toArray, List.getElem_cons_succ, List.getElem_cons_zero, Act.put, List.setIfInBounds_toArray, List.set_cons_zero, List.set_cons_succ]
  refine wpAnyH_take (i := 55) (v := ?va55) rfl (by kernel_rfl) (by kernel_rfl) (by kernel_rfl) (fun _ _ _ h => h) (.inl ⟨by rfl, ?ha55⟩) hS ?ra55
  case ha55 =>
    intro w' hs
    (try dsimp only at hs)
    go_split_ands
    go_simp
    try with_reducible rfl
  simp only [List.getElem_toArray, List.getElem_cons_succ, List.getElem_cons_zero, Act.put, List.setIfInBounds_toArray, List.set_cons_zero]
  refine wpAnyH_done (by kernel_rfl) ?_ _
  go_wp2_with fail
  go_ret
  exact ⟨rfl, H33.out.low⟩
end Go.Proofs.Ytlpbciclkagnbaa.Tb
