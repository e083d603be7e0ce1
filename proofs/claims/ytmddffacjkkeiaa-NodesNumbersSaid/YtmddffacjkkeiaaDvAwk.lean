/-
  Layer 5: awake: the chapter's examples come out.
-/
import Derived.Test.YtmddffacjkkeiaaDvAwake
namespace Go.Proofs.Ytmddffacjkkeiaa.Nd
open Go Go.RowKit Go.ChangeShapes Go.WideShapes Go.Shelf
open Go.Proofs.Ytmddffacjkkeiaa.Rf

abbrev La : List Nd := textL.set 2 ⟨3, 1, ⟨#[]⟩, [], [1, 1], 1⟩
abbrev Lb : List Nd := textL.set 2 ⟨3, 2, ⟨#[]⟩, [], [0, 1], 1⟩

/-- Three syntaxes in three variables. -/
def Three (w W : World) (A g1 c1 g2 c2 g3 c3 : Nat) (la lb : List Nd) (r3 : Int) : Prop :=
  OwnSyn W (.slice (some ⟨g1, 0, none⟩) 5 c1) la ∧ OwnSyn W (.slice (some ⟨g2, 0, none⟩) 5 c2) lb ∧ OwnSyn W (.slice (some ⟨g3, 0, none⟩) 5 c3) textL ∧
  W.heap[A]? = some (.cells #[.slice (some ⟨g1, 0, none⟩) 5 c1, .int .i64 4] 24 (0, 0)) ∧ W.heap[A + 1]? = some (.cells #[.slice (some ⟨g2, 0, none⟩) 5 c2, .int .i64 4] 24 (0, 0)) ∧ W.heap[A + 1 + 1]? = some (.cells #[.slice (some ⟨g3, 0, none⟩) 5 c3, .int .i64 r3] 24 (0, 0)) ∧ Below w.heap.size w W
theorem Three.below {w W W' : World} {A g1 c1 g2 c2 g3 c3 : Nat} {la lb : List Nd} {r3 : Int} (h : Three w W A g1 c1 g2 c2 g3 c3 la lb r3) (hb : Below W.heap.size W W') : Three w W' A g1 c1 g2 c2 g3 c3 la lb r3 := by
  obtain ⟨h1, h2, h3, h4, h5, h6, h7⟩ := h
  exact ⟨h1.below hb, h2.below hb, h3.below hb, (hb.block _ (lt_of_heap h4)).trans h4, (hb.block _ (lt_of_heap h5)).trans h5, (hb.block _ (lt_of_heap h6)).trans h6, h7.trans (hb.mono h7.size)⟩

set_option maxRecDepth 100000 in
set_option maxHeartbeats 8000000 in
theorem awake_fn (w : World) : Calls Try.prog 10 #[] w fun e w' => e = .returned (.bool true) ∧ Below w.heap.size w w' := by
  go_enter Try.func10, Try.ntmps10
  go_wp2_with fail
  refine (text_is _).mono ?_
  rintro e w1 ⟨g1, c1, rfl, o1, l1, k1, b1⟩
  have B1 := Lib.hid b1
  have O1 := Lib.hid o1
  clear o1 b1
  go_wp2_with fail
  refine (text_is _).mono ?_
  rintro e w2 ⟨g2, c2, rfl, o2, l2, k2, b2⟩
  have O1 := Lib.hid (O1.out.below b2)
  have B2 := Lib.hid (B1.out.trans (b2.mono B1.out.size))
  have S2 := Lib.hid b2.size
  have O2 := Lib.hid o2
  clear o2 b2
  go_wp2_with fail
  refine (text_is _).mono ?_
  rintro e w3 ⟨g3, c3, rfl, o3, l3, k3, b3⟩
  have O1 := Lib.hid (O1.out.below b3)
  have O2 := Lib.hid (O2.out.below b3)
  have B3 := Lib.hid (B2.out.trans (b3.mono B2.out.size))
  have S3 := Lib.hid b3.size
  have O3 := Lib.hid o3
  clear o3 b3
  obtain ⟨A, hA⟩ : ∃ A, w3.heap.size = A := ⟨_, rfl⟩
  have hs2 := S2.out
  have hs3 := S3.out
  have n12 : g1 ≠ g2 := by omega
  have n13 : g1 ≠ g3 := by omega
  have n23 : g2 ≠ g3 := by omega
  have gA1 : g1 < A := by omega
  have gA2 : g2 < A := by omega
  have gA3 : g3 < A := by omega
  have HN := Lib.hid (show g1 ≠ g2 ∧ g1 ≠ g3 ∧ g2 ≠ g3 ∧ g1 < A ∧ g2 < A ∧ g3 < A from ⟨n12, n13, n23, gA1, gA2, gA3⟩)
  have HW1 := Lib.hid l1
  have HW2 := Lib.hid (show w.heap.size ≤ g2 from by have := B1.out.size; omega)
  have HW3 := Lib.hid (show w.heap.size ≤ A from by have := B1.out.size; omega)
  clear n12 n13 n23 gA1 gA2 gA3 hs2 hs3 l1 k1 l2 k2 l3 k3
  go_upto_region 2 with fail
  have hal : Below w3.heap.size w3 ((((w3.alloc (.cells #[.slice (some ⟨g1, 0, none⟩) 5 c1, .int .i64 4] 24)).alloc (.cells #[.slice (some ⟨g2, 0, none⟩) 5 c2, .int .i64 4] 24)).alloc (.cells #[.slice (some ⟨g3, 0, none⟩) 5 c3, .int .i64 4] 24))) := (((Below.refl _ _).alloc (Nat.le_refl _) _).alloc (by simp) _).alloc (by simp; omega) _
  have h1 : ((((w3.alloc (.cells #[.slice (some ⟨g1, 0, none⟩) 5 c1, .int .i64 4] 24)).alloc (.cells #[.slice (some ⟨g2, 0, none⟩) 5 c2, .int .i64 4] 24)).alloc (.cells #[.slice (some ⟨g3, 0, none⟩) 5 c3, .int .i64 4] 24))).heap[A]? = some (.cells #[.slice (some ⟨g1, 0, none⟩) 5 c1, .int .i64 4] 24 (0, 0)) := by rw [← hA]; exact miss (miss (hit (by simp)))
  have h2 : ((((w3.alloc (.cells #[.slice (some ⟨g1, 0, none⟩) 5 c1, .int .i64 4] 24)).alloc (.cells #[.slice (some ⟨g2, 0, none⟩) 5 c2, .int .i64 4] 24)).alloc (.cells #[.slice (some ⟨g3, 0, none⟩) 5 c3, .int .i64 4] 24))).heap[A + 1]? = some (.cells #[.slice (some ⟨g2, 0, none⟩) 5 c2, .int .i64 4] 24 (0, 0)) := by rw [← hA]; exact miss (hit (by simp))
  have h3 : ((((w3.alloc (.cells #[.slice (some ⟨g1, 0, none⟩) 5 c1, .int .i64 4] 24)).alloc (.cells #[.slice (some ⟨g2, 0, none⟩) 5 c2, .int .i64 4] 24)).alloc (.cells #[.slice (some ⟨g3, 0, none⟩) 5 c3, .int .i64 4] 24))).heap[A + 1 + 1]? = some (.cells #[.slice (some ⟨g3, 0, none⟩) 5 c3, .int .i64 4] 24 (0, 0)) := by rw [← hA]; exact hit (by simp)
  have hT : Three w ((((w3.alloc (.cells #[.slice (some ⟨g1, 0, none⟩) 5 c1, .int .i64 4] 24)).alloc (.cells #[.slice (some ⟨g2, 0, none⟩) 5 c2, .int .i64 4] 24)).alloc (.cells #[.slice (some ⟨g3, 0, none⟩) 5 c3, .int .i64 4] 24))) A g1 c1 g2 c2 g3 c3 textL textL 4 := ⟨O1.out.below hal, O2.out.below hal, O3.out.below hal, h1, h2, h3, B3.out.trans (hal.mono B3.out.size)⟩
  have hsz : ((((w3.alloc (.cells #[.slice (some ⟨g1, 0, none⟩) 5 c1, .int .i64 4] 24)).alloc (.cells #[.slice (some ⟨g2, 0, none⟩) 5 c2, .int .i64 4] 24)).alloc (.cells #[.slice (some ⟨g3, 0, none⟩) 5 c3, .int .i64 4] 24))).heap.size = A + 3 := by rw [← hA]; simp
  obtain ⟨W4, hW4⟩ : ∃ W4, ((((w3.alloc (.cells #[.slice (some ⟨g1, 0, none⟩) 5 c1, .int .i64 4] 24)).alloc (.cells #[.slice (some ⟨g2, 0, none⟩) 5 c2, .int .i64 4] 24)).alloc (.cells #[.slice (some ⟨g3, 0, none⟩) 5 c3, .int .i64 4] 24))) = W4 := ⟨_, rfl⟩
  rw [hW4] at hT hsz ⊢
  clear hW4 h1 h2 h3 hal B1 B2 B3 S2 S3 O1 O2 O3
  obtain ⟨n12, n13, n23, gA1, gA2, gA3⟩ := HN.out
  -- a's kids
  have hal4 : Below W4.heap.size W4 (W4.alloc (.cells #[.int .i64 1, .int .i64 1] 3)) := (Below.refl _ _).alloc (Nat.le_refl _) _
  have T4 := hT.below hal4
  have hk : (W4.alloc (.cells #[.int .i64 1, .int .i64 1] 3)).heap[A + 3]? = some (.cells #[.int .i64 1, .int .i64 1] 3 (0, 0)) := hit hsz.symm
  obtain ⟨⟨v16, e16⟩, f16⟩ := T4.1.cellOk 16 (by decide)
  obtain ⟨cg1, hg1⟩ := T4.1.block
  have T5 : Three w ((W4.alloc (.cells #[.int .i64 1, .int .i64 1] 3)).setCell ⟨g1, 16, none⟩ (.slice (some ⟨A + 3, 0, none⟩) 2 2)) A g1 c1 g2 c2 g3 c3 La textL 4 := by
    obtain ⟨t1, t2, t3, t4, t5, t6, t7⟩ := T4
    refine ⟨t1.turn (j := 2) (i := 4) rfl (a := ⟨3, 1, ⟨#[]⟩, [], [0, 1], 1⟩) (b := ⟨3, 1, ⟨#[]⟩, [], [1, 1], 1⟩) rfl (by decide) (fun vn vk => ⟨.slice (some ⟨A + 3, 0, none⟩) 2 2, rfl, fun h => ⟨h.1, own_lit (Nat.zero_le _) hk rfl (show 2 ≤ maxLen from by unfold maxLen; omega)⟩⟩), t2.elsewhere hg1 n12 (by decide) (by decide), t3.elsewhere hg1 n13 (by decide) (by decide), (Below.heap_setCell _ _ _ _ (by show A ≠ g1; omega)).trans t4, (Below.heap_setCell _ _ _ _ (by show A + 1 ≠ g1; omega)).trans t5, (Below.heap_setCell _ _ _ _ (by show A + 1 + 1 ≠ g1; omega)).trans t6, t7.setCell (p := ⟨g1, 16, none⟩) (by show w.heap.size ≤ g1; exact HW1.out) _⟩
  have T5a := cell_of T5.2.2.2.1 0 (.slice (some ⟨g1, 0, none⟩) 5 c1) rfl
  have T5b := cell_of T5.2.2.2.2.1 0 (.slice (some ⟨g2, 0, none⟩) 5 c2) rfl
  have x0 := cell_of T4.2.2.2.1 0 (.slice (some ⟨g1, 0, none⟩) 5 c1) rfl
  have w0 := cell_of hT.2.2.2.1 0 (.slice (some ⟨g1, 0, none⟩) 5 c1) rfl
  have hT5 := Lib.hid T5
  have HG1 := Lib.hid hg1
  clear hT T5 T4 hg1 hal4 hk
  go_upto_region 3 with fail
  obtain ⟨W5, hW5⟩ : ∃ W5, (W4.alloc (.cells #[.int .i64 1, .int .i64 1] 3)).setCell ⟨g1, 16, none⟩ (.slice (some ⟨A + 3, 0, none⟩) 2 2) = W5 := ⟨_, rfl⟩
  rw [hW5] at hT5 T5a T5b ⊢
  clear hW5 x0 w0
  -- b's N
  obtain ⟨⟨v13, e13⟩, f13⟩ := hT5.out.2.1.cellOk 13 (by decide)
  obtain ⟨cg2, hg2⟩ := hT5.out.2.1.block
  have T6 : Three w (W5.setCell ⟨g2, 13, none⟩ (.int .i64 2)) A g1 c1 g2 c2 g3 c3 La Lb 4 := by
    obtain ⟨t1, t2, t3, t4, t5, t6, t7⟩ := hT5.out
    refine ⟨t1.elsewhere hg2 (Ne.symm n12) (by decide) (by decide), t2.turn (j := 2) (i := 1) rfl (a := ⟨3, 1, ⟨#[]⟩, [], [0, 1], 1⟩) (b := ⟨3, 2, ⟨#[]⟩, [], [0, 1], 1⟩) rfl (by decide) (fun vn vk => ⟨vk, rfl, fun h => h⟩), t3.elsewhere hg2 n23 (by decide) (by decide), (Below.heap_setCell _ _ _ _ (by show A ≠ g2; omega)).trans t4, (Below.heap_setCell _ _ _ _ (by show A + 1 ≠ g2; omega)).trans t5, (Below.heap_setCell _ _ _ _ (by show A + 1 + 1 ≠ g2; omega)).trans t6, t7.setCell (p := ⟨g2, 13, none⟩) (by show w.heap.size ≤ g2; exact HW2.out) _⟩
  have hT6 := Lib.hid T6
  clear T6 hT5 hg2
  go_upto_region 4 with fail
  obtain ⟨W6, hW6⟩ : ∃ W6, W5.setCell ⟨g2, 13, none⟩ (.int .i64 2) = W6 := ⟨_, rfl⟩
  rw [hW6] at hT6 ⊢
  clear hW6 T5a T5b
  -- c's root
  have h6 := hT6.out.2.2.2.2.2.1
  have z1 := cell_of h6 1 (.int .i64 4) rfl
  have zf := free_of h6 1
  have T7 : Three w (W6.setCell ⟨A + 1 + 1, 1, none⟩ (.int .i64 3)) A g1 c1 g2 c2 g3 c3 La Lb 3 := by
    obtain ⟨t1, t2, t3, t4, t5, t6, t7⟩ := hT6.out
    refine ⟨t1.elsewhere h6 (by omega) (by decide) (by decide), t2.elsewhere h6 (by omega) (by decide) (by decide), t3.elsewhere h6 (by omega) (by decide) (by decide), (Below.heap_setCell _ _ _ _ (by show A ≠ A + 1 + 1; omega)).trans t4, (Below.heap_setCell _ _ _ _ (by show A + 1 ≠ A + 1 + 1; omega)).trans t5, Joins.block_setCell (i := 1) t6 _, t7.setCell (p := ⟨A + 1 + 1, 1, none⟩) (by show w.heap.size ≤ A + 1 + 1; have := HW3.out; omega) _⟩
  have T := Lib.hid T7
  clear T7 hT6 h6 n12 n13 n23 gA1 gA2 gA3 hA hsz HN HW1 HW2 HW3
  go_upto_region 5 with fail
  obtain ⟨W7, hW7⟩ : ∃ W7, W6.setCell ⟨A + 1 + 1, 1, none⟩ (.int .i64 3) = W7 := ⟨_, rfl⟩
  rw [hW7] at T ⊢
  clear hW7 z1 zf
  go_wp2_with fail
  refine (text_is _).mono ?_
  rintro e W' ⟨h1, d1, rfl, p1, -, -, b⟩
  have T := Lib.hid (T.out.below b)
  have P := Lib.hid p1
  clear p1 b
  go_wp2_with fail
  refine (right_is true (P.out.syn text_fine 4 ⟨by decide, by decide⟩ (by decide)) (by decide) text_fine text_right).mono ?_
  rintro e W' ⟨rfl, b⟩
  have T := Lib.hid (T.out.below b)
  clear b P
  have x0 := cell_of T.out.2.2.2.1 0 (.slice (some ⟨g1, 0, none⟩) 5 c1) rfl
  have x1 := cell_of T.out.2.2.2.1 1 (.int .i64 4) rfl
  have y0 := cell_of T.out.2.2.2.2.1 0 (.slice (some ⟨g2, 0, none⟩) 5 c2) rfl
  have y1 := cell_of T.out.2.2.2.2.1 1 (.int .i64 4) rfl
  have z0 := cell_of T.out.2.2.2.2.2.1 0 (.slice (some ⟨g3, 0, none⟩) 5 c3) rfl
  have z1 := cell_of T.out.2.2.2.2.2.1 1 (.int .i64 3) rfl
  go_wp2_with fail
  refine (right_is false (T.out.1.syn text_fine_a 4 ⟨by decide, by decide⟩ (by decide)) (by decide) text_fine_a text_a).mono ?_
  rintro e W' ⟨rfl, b⟩
  clear x0 x1 y0 y1 z0 z1
  have T := Lib.hid (T.out.below b)
  clear b
  have x0 := cell_of T.out.2.2.2.1 0 (.slice (some ⟨g1, 0, none⟩) 5 c1) rfl
  have x1 := cell_of T.out.2.2.2.1 1 (.int .i64 4) rfl
  have y0 := cell_of T.out.2.2.2.2.1 0 (.slice (some ⟨g2, 0, none⟩) 5 c2) rfl
  have y1 := cell_of T.out.2.2.2.2.1 1 (.int .i64 4) rfl
  have z0 := cell_of T.out.2.2.2.2.2.1 0 (.slice (some ⟨g3, 0, none⟩) 5 c3) rfl
  have z1 := cell_of T.out.2.2.2.2.2.1 1 (.int .i64 3) rfl
  go_wp2_with fail
  refine (right_is false (T.out.2.1.syn text_fine_b 4 ⟨by decide, by decide⟩ (by decide)) (by decide) text_fine_b text_b).mono ?_
  rintro e W' ⟨rfl, b⟩
  clear x0 x1 y0 y1 z0 z1
  have T := Lib.hid (T.out.below b)
  clear b
  have x0 := cell_of T.out.2.2.2.1 0 (.slice (some ⟨g1, 0, none⟩) 5 c1) rfl
  have x1 := cell_of T.out.2.2.2.1 1 (.int .i64 4) rfl
  have y0 := cell_of T.out.2.2.2.2.1 0 (.slice (some ⟨g2, 0, none⟩) 5 c2) rfl
  have y1 := cell_of T.out.2.2.2.2.1 1 (.int .i64 4) rfl
  have z0 := cell_of T.out.2.2.2.2.2.1 0 (.slice (some ⟨g3, 0, none⟩) 5 c3) rfl
  have z1 := cell_of T.out.2.2.2.2.2.1 1 (.int .i64 3) rfl
  go_wp2_with fail
  refine (right_is false (T.out.2.2.1.syn text_fine 3 ⟨by decide, by decide⟩ (by decide)) (by decide) text_fine text_c).mono ?_
  rintro e W' ⟨rfl, b⟩
  clear x0 x1 y0 y1 z0 z1
  have T := Lib.hid (T.out.below b)
  clear b
  go_wp2_with fail
  refine (text_is _).mono ?_
  rintro e W' ⟨h2, d2, rfl, p1, -, -, b⟩
  have T := Lib.hid (T.out.below b)
  have P := Lib.hid p1
  clear p1 b
  go_wp2_with fail
  refine (text_is _).mono ?_
  rintro e W' ⟨h3, d3, rfl, p1, -, -, b⟩
  have T := Lib.hid (T.out.below b)
  have P := Lib.hid (P.out.below b)
  have Q := Lib.hid p1
  clear p1 b
  go_wp2_with fail
  refine (own_same _ _ textL textL 4 4 _ (P.out.syn text_fine 4 ⟨by decide, by decide⟩ (by decide)) (Q.out.syn text_fine 4 ⟨by decide, by decide⟩ (by decide)) (by decide) (by decide) text_fine text_fine).mono ?_
  rintro e W' ⟨bb, rfl, hbb, b⟩
  obtain rfl : bb = true := hbb.2 (same_self (rightB_iff.1 text_right))
  have T := Lib.hid (T.out.below b)
  clear b hbb P Q
  go_wp2_with fail
  refine (own_stat 13 _ (by decide)).mono ?_
  rintro e W' ⟨rfl, rfl⟩
  go_wp2_with fail
  refine (own_stat 1 _ (by decide)).mono ?_
  rintro e W' ⟨rfl, rfl⟩
  go_wp2_with fail
  refine (own_expr 38 _ (by decide)).mono ?_
  rintro e W' ⟨rfl, rfl⟩
  go_wp2_with fail
  refine (own_expr 36 _ (by decide)).mono ?_
  rintro e W' ⟨rfl, rfl⟩
  go_wp2_with fail
  go_ret
  exact ⟨rfl, T.out.2.2.2.2.2.2⟩

end Go.Proofs.Ytmddffacjkkeiaa.Nd
