/-
  Layer 5: NodesNumbers, all together.
-/
import Derived.Test.YtmddffacjkkeiaaDvNuA
import Derived.Test.YtmddffacjkkeiaaDvNuB
import Derived.Test.YtmddffacjkkeiaaDvNuC
import Derived.Test.YtmddffacjkkeiaaDvNuD
import Derived.Test.YtmddffacjkkeiaaDvNuE
import Derived.Test.YtmddffacjkkeiaaDvNuF
import Derived.Test.YtmddffacjkkeiaaDvNuG
import Derived.Test.YtmddffacjkkeiaaDvAwk
import Derived.Test.YtmddffacjkkeiaaDvRowsFn
import Derived.Deep.CutBlock
import Derived.Deep.DeepCutAuto
namespace Go.Proofs.Ytmddffacjkkeiaa.Nd
open Go Go.RowKit Go.ChangeShapes Go.WideShapes Go.Shelf
open Go.Proofs.Ytmddffacjkkeiaa.Rf

set_option maxRecDepth 100000 in
set_option maxHeartbeats 8000000 in
theorem numbers_fn (w : World) : Calls Try.prog 3 #[] w fun e w' => e = .returned (.bool true) ∧ Below w.heap.size w w' := by
  have one : 1 ≤ maxLen := by unfold maxLen; omega
  go_enter Try.func3, Try.ntmps3
  go_upto_region 1 with fail
  refine lit_1 _ (fun _ _ _ _ _ _ _ _ w10 X1 hB => ?_)
  have HB := Lib.hid hB
  clear hB
  go_upto_region 2 with fail
  refine lit_2 _ (fun _ _ _ _ _ _ _ _ _ _ w20 X2 hB => ?_)
  replace HB := Lib.hid (HB.out.trans (hB.mono HB.out.size))
  replace X1 := X1.below hB
  clear hB
  go_upto_region 3 with fail
  refine lit_3 _ (fun _ _ _ _ _ _ _ _ w30 X3 hB => ?_)
  replace HB := Lib.hid (HB.out.trans (hB.mono HB.out.size))
  replace X1 := X1.below hB
  replace X2 := X2.below hB
  clear hB
  go_upto_region 4 with fail
  refine lit_4 _ (fun _ _ _ _ _ _ _ _ w40 X4 hB => ?_)
  replace HB := Lib.hid (HB.out.trans (hB.mono HB.out.size))
  replace X1 := X1.below hB
  replace X2 := X2.below hB
  replace X3 := X3.below hB
  clear hB
  go_upto_region 5 with fail
  refine lit_5 _ (fun _ _ _ _ _ _ _ _ w50 X5 hB => ?_)
  replace HB := Lib.hid (HB.out.trans (hB.mono HB.out.size))
  replace X1 := X1.below hB
  replace X2 := X2.below hB
  replace X3 := X3.below hB
  replace X4 := X4.below hB
  clear hB
  go_upto_region 6 with fail
  refine lit_6 _ (fun _ _ _ _ _ _ _ _ w60 X6 hB => ?_)
  replace HB := Lib.hid (HB.out.trans (hB.mono HB.out.size))
  replace X1 := X1.below hB
  replace X2 := X2.below hB
  replace X3 := X3.below hB
  replace X4 := X4.below hB
  replace X5 := X5.below hB
  clear hB
  go_upto_region 7 with fail
  refine lit_7 _ (fun _ _ _ _ _ _ _ _ w70 X7 hB => ?_)
  replace HB := Lib.hid (HB.out.trans (hB.mono HB.out.size))
  replace X1 := X1.below hB
  replace X2 := X2.below hB
  replace X3 := X3.below hB
  replace X4 := X4.below hB
  replace X5 := X5.below hB
  replace X6 := X6.below hB
  clear hB
  go_upto_region 8 with fail
  refine lit_8 _ (fun _ _ _ _ _ _ _ _ w80 X8 hB => ?_)
  replace HB := Lib.hid (HB.out.trans (hB.mono HB.out.size))
  replace X1 := X1.below hB
  replace X2 := X2.below hB
  replace X3 := X3.below hB
  replace X4 := X4.below hB
  replace X5 := X5.below hB
  replace X6 := X6.below hB
  replace X7 := X7.below hB
  clear hB
  obtain ⟨B1, g1, n1, c1, rfl, Y1⟩ := X1.says false n_bare (fine_list (by kernel_rfl)) (by decide) (by decide)
  obtain ⟨B2, g2, n2, c2, rfl, Y2⟩ := X2.says true n_paren (fine_list (by kernel_rfl)) (by decide) (by decide)
  obtain ⟨B3, g3, n3, c3, rfl, Y3⟩ := X3.says true n_tight (fine_list (by kernel_rfl)) (by decide) (by decide)
  obtain ⟨B4, g4, n4, c4, rfl, Y4⟩ := X4.says true n_right (fine_list (by kernel_rfl)) (by decide) (by decide)
  obtain ⟨B5, g5, n5, c5, rfl, Y5⟩ := X5.says false n_left (fine_list (by kernel_rfl)) (by decide) (by decide)
  obtain ⟨B6, g6, n6, c6, rfl, Y6⟩ := X6.says false n_same (fine_list (by kernel_rfl)) (by decide) (by decide)
  obtain ⟨B7, g7, n7, c7, rfl, Y7⟩ := X7.says false n_not (fine_list (by kernel_rfl)) (by decide) (by decide)
  obtain ⟨B8, g8, n8, c8, rfl, Y8⟩ := X8.says true n_neg (fine_list (by kernel_rfl)) (by decide) (by decide)
  clear X1 X2 X3 X4 X5 X6 X7 X8
  replace Y1 := Lib.hid Y1
  replace Y2 := Lib.hid Y2
  replace Y3 := Lib.hid Y3
  replace Y4 := Lib.hid Y4
  replace Y5 := Lib.hid Y5
  replace Y6 := Lib.hid Y6
  replace Y7 := Lib.hid Y7
  replace Y8 := Lib.hid Y8
  go_upto_region 9 with fail
  refine reg_9 _ Y1.out Y2.out Y3.out Y4.out Y5.out Y6.out Y7.out Y8.out (fun _ _ _ _ _ _ _ _ _ _ _ _ _ _ _ _ _ _ _ _ _ _ _ _ _ _ _ _ _ _ _ _ _ W89 hB => ?_)
  replace HB := Lib.hid (HB.out.trans (hB.mono HB.out.size))
  clear hB Y1 Y2 Y3 Y4 Y5 Y6 Y7 Y8
  obtain ⟨W9, hW9⟩ : ∃ W, W89.alloc (.cells #[.int .i64 97, .int .i64 98, .int .i64 99, .int .i64 100] 3) = W := ⟨_, rfl⟩
  obtain ⟨LB, hLB⟩ : ∃ b, W89.heap.size = b := ⟨_, rfl⟩
  have hlb : W9.heap[LB]? = some (.cells #[.int .i64 97, .int .i64 98, .int .i64 99, .int .i64 100] 3 (0, 0)) := by rw [← hW9]; exact hit hLB.symm
  have hb9 : Below W89.heap.size W89 W9 := by rw [← hW9]; exact grow1 _ _
  have HLB := Lib.hid hlb
  replace HB := Lib.hid (HB.out.trans (hb9.mono HB.out.size))
  clear hlb hb9
  go_upto_block 0 with fail
  clear hW9 hLB
  refine blk_0 _ HLB (fun _ _ _ _ _ _ _ _ _ _ _ _ _ _ _ _ _ _ _ _ _ _ _ _ _ _ _ _ WP hB => ?_)
  replace HB := Lib.hid (HB.out.trans (hB.mono HB.out.size))
  clear hB HLB
  go_wp2_with fail
  refine (leaf_fn _).mono ?_
  rintro e v0 ⟨v, rfl, ⟨an0, cn0, ak0, ck0, rfl, s0⟩, b⟩
  have HB0 := Lib.hid b
  have hO : OwnNd (v0.alloc (.cells (cells6 (leafN, .slice an0 0 cn0, .slice ak0 0 ck0)).toArray 30)) v0.heap.size (.slice (some ⟨v0.heap.size, 0, none⟩) 1 1) [(leafN, .slice an0 0 cn0, .slice ak0 0 ck0)] := ⟨own_lit (Nat.le_refl _) (hit rfl) rfl one, fun r hr => by
    rw [List.mem_singleton] at hr
    subst hr
    exact s0.below (grow1 _ _)⟩
  have HO := Lib.hid hO
  clear b s0 hO
  obtain ⟨V, hV⟩ : ∃ V, v0.alloc (.cells (cells6 (leafN, .slice an0 0 cn0, .slice ak0 0 ck0)).toArray 30) = V := ⟨_, rfl⟩
  have hV' : v0.alloc (.cells #[.int .u8 23, .int .i64 5, .string ⟨#[]⟩, .slice an0 0 cn0, .slice ak0 0 ck0, .int .i64 2] 30) = V := hV
  obtain ⟨Z, hZ⟩ : ∃ z, v0.heap.size = z := ⟨_, rfl⟩
  have HZ := Lib.hid (show Z ≤ V.heap.size ∧ WP.heap.size ≤ Z from ⟨by rw [← hV, ← hZ]; exact (grow1 _ _).size, by rw [← hZ]; exact HB0.out.size⟩)
  have HBR := Lib.hid (show Below WP.heap.size WP V from by rw [← hV]; exact HB0.out.trans ((grow1 _ _).mono HB0.out.size))
  rw [hV, hZ] at HO
  clear hV HB0
  go_upto_block 4 with fail
  clear hV' hZ
  refine blk_4 WP _ HO rfl HZ HBR (fun _ _ _ _ _ _ _ _ _ _ _ _ _ _ _ _ WC crs hCR hCM hB => ?_)
  replace HB := Lib.hid (HB.out.trans (hB.mono HB.out.size))
  have hcl : crs.length = 1201 := by rw [← List.length_map (f := fun x : R3 => x.1), hCM, chain_len]
  obtain ⟨gc, cc, rfl⟩ := own_ne hCR.1 (by omega)
  rw [hcl]
  have hCR2 := hCR.low
  rw [hcl] at hCR2
  have HCR := Lib.hid (show OwnNd WC 0 (.slice (some ⟨gc, 0, none⟩) 1201 cc) crs ∧ crs.map (·.1) = chain 600 from ⟨hCR2, hCM⟩)
  clear hB hCR hCR2 hCM hcl HO HBR HZ
  obtain ⟨Z2, hZ2⟩ : ∃ z, WC.heap.size = z := ⟨_, rfl⟩
  obtain ⟨V1, hV1⟩ : ∃ V, WC.alloc (.cells #[] 30) = V := ⟨_, rfl⟩
  have hx1 : V1.heap[Z2]? = some (.cells #[] 30 (0, 0)) := by rw [← hV1]; exact hit hZ2.symm
  have hs1 : V1.heap.size = Z2 + 1 := by rw [← hV1, ← hZ2]; simp
  have hl1 : Below WC.heap.size WC V1 := by rw [← hV1]; exact grow1 _ _
  obtain ⟨V2, hV2⟩ : ∃ V, V1.alloc (.cells #[] 3) = V := ⟨_, rfl⟩
  have hx2 : V2.heap[Z2 + 1]? = some (.cells #[] 3 (0, 0)) := by rw [← hV2]; exact hit hs1.symm
  have hl2 : Below V1.heap.size V1 V2 := by rw [← hV2]; exact grow1 _ _
  have HO2 := Lib.hid (show OwnNd V2 Z2 (.slice (some ⟨Z2, 0, none⟩) 0 0) [] from ⟨own_lit (Nat.le_refl _) ((hl2.block _ (by omega)).trans hx1) rfl (Nat.zero_le _), fun r h => by cases h⟩)
  have HI2 := Lib.hid (show V2.ownsRow Z2 3 1 (.slice (some ⟨Z2 + 1, 0, none⟩) 0 0) 0 [] from own_lit (Nat.le_succ _) hx2 rfl (Nat.zero_le _))
  have HZ2 := Lib.hid (show Z2 ≤ V2.heap.size ∧ WC.heap.size ≤ Z2 from ⟨by have := lt_of_heap hx2; omega, by omega⟩)
  have HB2 := Lib.hid (hl1.trans (hl2.mono hl1.size))
  clear hx1 hx2 hl1 hl2
  go_upto_block 6 with fail
  clear hZ2 hV1 hs1 hV2
  refine blk_6 WC _ HO2 HI2 HZ2 HB2 (fun _ _ _ _ _ _ _ _ _ _ _ _ _ _ _ _ _ _ _ _ _ WI brs hO hM hK hI hB => ?_)
  have hbl : brs.length = 4092 := by rw [← List.length_map (f := fun x : R3 => x.1), hM, big_len]
  obtain ⟨gl, cl, rfl⟩ := own_ne hO.1 (by omega)
  obtain ⟨gi, ci, rfl⟩ := own_ne hI (by decide)
  rw [hbl]
  have hO2 := hO.low
  rw [hbl] at hO2
  replace HCR := Lib.hid (show OwnNd WI 0 (.slice (some ⟨gc, 0, none⟩) 1201 cc) crs ∧ crs.map (·.1) = chain 600 from ⟨HCR.out.1.below hB, HCR.out.2⟩)
  have HBG := Lib.hid (show OwnNd WI 0 (.slice (some ⟨gl, 0, none⟩) 4092 cl) brs ∧ brs.map (·.1) = big 2046 ∧ WI.ownsRow 0 3 1 (.slice (some ⟨gi, 0, none⟩) 2046 ci) 2046 ((items 2046).map (.int .i64)) ∧ (∀ r ∈ brs, Kid r) from ⟨hO2, hM, ownsRow_base hI (Nat.zero_le _), hK⟩)
  replace HB := Lib.hid (HB.out.trans (hB.mono HB.out.size))
  clear hB hO hO2 hM hK hI hbl HO2 HI2 HZ2 HB2
  go_upto_region 34 with fail
  refine reg_34 _ HBG.out.1 HBG.out.2.1 HBG.out.2.2.1 (fun _ _ _ _ _ _ _ _ WF frs hO hM hB => ?_)
  replace HB := Lib.hid (HB.out.trans (hB.mono HB.out.size))
  replace HBG := Lib.hid (show OwnNd WF 0 (.slice (some ⟨gl, 0, none⟩) 4092 cl) brs ∧ brs.map (·.1) = big 2046 ∧ WF.ownsRow 0 3 1 (.slice (some ⟨gi, 0, none⟩) 2046 ci) 2046 ((items 2046).map (.int .i64)) ∧ (∀ r ∈ brs, Kid r) from ⟨HBG.out.1.below hB, HBG.out.2.1, own_below5 HBG.out.2.2.1 hB, HBG.out.2.2.2⟩)
  have hfl : frs.length = 4093 := by rw [← List.length_map (f := fun x : R3 => x.1), hM, full_len]
  obtain ⟨gf, cf, rfl⟩ := own_ne hO.1 (by omega)
  rw [hfl]
  rw [hfl] at hO
  replace HCR := Lib.hid (show OwnNd WF 0 (.slice (some ⟨gc, 0, none⟩) 1201 cc) crs ∧ crs.map (·.1) = chain 600 from ⟨HCR.out.1.below hB, HCR.out.2⟩)
  have HF := Lib.hid (show OwnNd WF 0 (.slice (some ⟨gf, 0, none⟩) 4093 cf) frs ∧ frs.map (·.1) = full from ⟨hO, hM⟩)
  clear hB hO hM hfl
  go_upto_region 35 with fail
  refine reg_35 _ HCR.out HF.out (fun _ _ _ _ _ _ _ _ _ _ _ _ _ _ WR hB => ?_)
  replace HB := Lib.hid (HB.out.trans (hB.mono HB.out.size))
  replace HBG := Lib.hid (show OwnNd WR 0 (.slice (some ⟨gl, 0, none⟩) 4092 cl) brs ∧ brs.map (·.1) = big 2046 ∧ WR.ownsRow 0 3 1 (.slice (some ⟨gi, 0, none⟩) 2046 ci) 2046 ((items 2046).map (.int .i64)) ∧ (∀ r ∈ brs, Kid r) from ⟨HBG.out.1.below hB, HBG.out.2.1, own_below5 HBG.out.2.2.1 hB, HBG.out.2.2.2⟩)
  clear hB HCR HF
  go_upto_region 36 with fail
  refine reg_36 _ HBG.out.1 HBG.out.2.1 HBG.out.2.2.1 HBG.out.2.2.2 (fun _ _ _ _ _ _ _ _ _ _ _ _ _ _ _ WO ors hO hM hB => ?_)
  replace HB := Lib.hid (HB.out.trans (hB.mono HB.out.size))
  have hol : ors.length = 4095 := by rw [← List.length_map (f := fun x : R3 => x.1), hM, over_len]
  obtain ⟨go, co, rfl⟩ := own_ne hO.1 (by omega)
  rw [hol]
  rw [hol] at hO
  have HOV := Lib.hid (show OwnNd WO 0 (.slice (some ⟨go, 0, none⟩) 4095 co) ors ∧ ors.map (·.1) = over from ⟨hO, hM⟩)
  clear hB hO hM hol HBG
  go_upto_region 37 with fail
  refine lit_37 _ (fun _ _ _ _ _ _ _ _ WS X hB => ?_)
  replace HB := Lib.hid (HB.out.trans (hB.mono HB.out.size))
  replace HOV := Lib.hid (show OwnNd WS 0 (.slice (some ⟨go, 0, none⟩) 4095 co) ors ∧ ors.map (·.1) = over from ⟨HOV.out.1.below hB, HOV.out.2⟩)
  obtain ⟨Bs, gs, ns, cs, rfl, Y⟩ := X.says true n_shift (fine_list (by kernel_rfl)) (by decide) (by decide)
  obtain ⟨x0, x1, c⟩ := Y WS (Below.refl _ _)
  have C := Lib.hid c
  clear hB X Y c
  go_upto_region 38 with fail
  go_wp2_with fail
  refine C.out.mono ?_
  rintro e w1 ⟨rfl, b1⟩
  replace HB := Lib.hid (HB.out.trans (b1.mono HB.out.size))
  have HO1 := Lib.hid (HOV.out.1.below b1)
  clear b1 C x0 x1
  go_wp2_with fail
  refine (ret_lit (m := 4095) ors over 4097 _ HO1.out HOV.out.2 over_len (by decide) (by decide) (by decide)).mono ?_
  rintro e w2 ⟨g2, n2, c2, rfl, hn2, hS2, b2⟩
  have HR := Lib.hid (hS2.says (root := 4097) false (over_b 4097) (ret_fine (table_fine 2047 (by decide)) (by rw [over_len]; decide) (by rw [over_len]; decide)) (by rw [ret_len, over_len]; decide) (by decide) w2 (Below.refl _ _))
  replace HB := Lib.hid (HB.out.trans (b2.mono HB.out.size))
  clear hn2 hS2 b2
  go_wp2_with fail
  refine HR.out.mono ?_
  rintro e w3 ⟨rfl, b3⟩
  replace HB := Lib.hid (HB.out.trans (b3.mono HB.out.size))
  clear b3 HR
  have HN := Lib.hid (right_is false ((show OwnSyn w3 (.slice none 0 0) [] from ⟨[], ⟨World.ownsRow_nil _ _ _ _, fun r h => by cases h⟩, rfl⟩).syn (fun n h => by cases h) 0 (in_small (by decide) (by decide)) (by decide)) (by decide) (fun n h => by cases h) nil_b)
  go_wp2_with fail
  refine HN.out.mono ?_
  rintro e w4 ⟨rfl, b4⟩
  replace HB := Lib.hid (HB.out.trans (b4.mono HB.out.size))
  clear b4 HN
  go_wp2_with fail
  refine (rows_fn _).mono ?_
  rintro e w5 ⟨rfl, b5⟩
  replace HB := Lib.hid (HB.out.trans (b5.mono HB.out.size))
  clear b5
  go_wp2_with fail
  refine (awake_fn _).mono ?_
  rintro e w6 ⟨rfl, b6⟩
  replace HB := Lib.hid (HB.out.trans (b6.mono HB.out.size))
  clear b6
  go_wp2_with fail
  go_ret
  exact ⟨rfl, HB.out⟩

end Go.Proofs.Ytmddffacjkkeiaa.Nd
