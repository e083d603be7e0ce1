/-
  Layer 12: the law PoolNumbers, over what the calls say (written by pl-numbers.py).
-/
import Derived.Test.YtpfhaafaoedgpaaPlAwake
import Derived.Test.YtpfhaafaoedgpaaPlBig
namespace Go.Proofs.Ytpfhaafaoedgpaa.Pl
open Go Go.RowKit

section
variable {PA : PoolP} {w0 w w' : World} {b : Nat} {m : Int} {l l' : Ob}
theorem count_at (H : PoolSays PA) (u : Int) (hu : (cntL l : Int) = u) (h : PoolAt PA w0 b m l w) : Calls Try.prog 13 #[.pointer (some ⟨b, 0, none⟩)] w (fun e w' => e = .returned (.int .i64 u) ∧ PoolAt PA w0 b m l w') := by
  have h' := h
  obtain ⟨F, hp, hF, h0⟩ := h
  refine (H.count hp).mono ?_
  rintro e w1 ⟨rfl, h1⟩
  rw [hu]
  exact ⟨rfl, h'.below H h1⟩
theorem size_at (H : PoolSays PA) (id u : Int) (y : Bool) (hi : In64 id) (hu : sizeL l id = (u, y)) (h : PoolAt PA w0 b m l w) : Calls Try.prog 12 #[.pointer (some ⟨b, 0, none⟩), .int .i64 id] w (fun e w' => e = .returned (.tuple #[.int .i64 u, .bool y]) ∧ PoolAt PA w0 b m l w') := by
  have h' := h
  obtain ⟨F, hp, hF, h0⟩ := h
  refine (H.size id hp hi).mono ?_
  rintro e w1 ⟨rfl, h1⟩
  rw [hu]
  exact ⟨rfl, h'.below H h1⟩
end
theorem below_69 (n : Nat) (hn : 7000 ≤ n) (b c : Option Int) : ∀ j, j < 69 → ∃ s, (mkL n none b c)[j]? = some (some s) := fun j hj => by
  rw [mk_get n hn, if_neg (by omega), if_neg (by omega), if_neg (by omega), if_pos (by omega)]
  exact ⟨0, rfl⟩
theorem below_699 (n : Nat) (hn : 7000 ≤ n) (a : Int) (c : Option Int) : ∀ j, j < 699 → ∃ s, (mkL n (some a) none c)[j]? = some (some s) := fun j hj => by
  rw [mk_get n hn, if_neg (by omega), if_neg (by omega)]
  by_cases h : j = 69
  · rw [if_pos h]; exact ⟨a, rfl⟩
  · rw [if_neg h, if_pos (by omega)]; exact ⟨0, rfl⟩
theorem below_6999 (n : Nat) (hn : 7000 ≤ n) (a b : Int) : ∀ j, j < 6999 → ∃ s, (mkL n (some a) (some b) none)[j]? = some (some s) := fun j hj => by
  rw [mk_get n hn, if_neg (by omega)]
  by_cases h2 : j = 699
  · rw [if_pos h2]; exact ⟨b, rfl⟩
  · rw [if_neg h2]
    by_cases h : j = 69
    · rw [if_pos h]; exact ⟨a, rfl⟩
    · rw [if_neg h, if_pos (by omega)]; exact ⟨0, rfl⟩
/-- What the steps at the end come to. -/
structure EndFacts (N : Nat) : Prop where
  full : takeL 1073741824 (bigL N) 0 = (bigL N, 0, 5)
  last : sizeL (bigL N) 65536 = (0, true)
  no : sizeL (bigL N) 65537 = (0, false)
  count : (cntL (bigL N) : Int) = 65536
  g1 : giveL (bigL N) 700 = (mkL N (some 0) none (some 0), 0)
  g2 : giveL (mkL N (some 0) none (some 0)) 70 = (mkL N none none (some 0), 0)
  g3 : giveL (mkL N none none (some 0)) 7000 = (mkL N none none none, 0)
  t1 : takeL 1073741824 (mkL N none none none) 5 = (mkL N (some 5) none none, 70, 0)
  t2 : takeL 1073741824 (mkL N (some 5) none none) 6 = (mkL N (some 5) (some 6) none, 700, 0)
  t3 : takeL 1073741824 (mkL N (some 5) (some 6) none) 7 = (mkL N (some 5) (some 6) (some 7), 7000, 0)
  used : usedL (mkL N (some 5) (some 6) (some 7)) = 18
theorem end_facts (N : Nat) (hN : N = 65536) : EndFacts N := by
  have h7 : 7000 ≤ N := by omega
  refine ⟨big_full N _ (by omega), ?_, ?_, by rw [big_cnt]; omega, ?_, ?_, ?_, ?_, ?_, ?_, ?_⟩
  · unfold sizeL; rw [big_at N _ (by decide), if_pos (by omega)]
  · unfold sizeL; rw [big_at N _ (by decide), if_neg (by omega)]
  · rw [← mk_big N h7]
    have h := mk_give N 699 (some 0) (some 0) (some 0) 0 (by rw [mk_get N h7, if_neg (by decide), if_pos rfl])
    rw [mk_setB] at h
    exact h
  · have h := mk_give N 69 (some 0) none (some 0) 0 (by rw [mk_get N h7, if_neg (by decide), if_neg (by decide), if_pos rfl])
    rw [mk_setA] at h
    exact h
  · have h := mk_give N 6999 none none (some 0) 0 (by rw [mk_get N h7, if_pos rfl])
    rw [mk_setC] at h
    exact h
  · have h := mk_take N ⟨h7, by omega⟩ 69 none none none 5 1073741824 (by decide) (by decide) (by omega) (by rw [mk_get N h7, if_neg (by decide), if_neg (by decide), if_pos rfl]) (below_69 N h7 _ _)
    rw [mk_setA] at h
    exact h
  · have h := mk_take N ⟨h7, by omega⟩ 699 (some 5) none none 6 1073741824 (by decide) (by decide) (by omega) (by rw [mk_get N h7, if_neg (by decide), if_pos rfl]) (below_699 N h7 _ _)
    rw [mk_setB] at h
    exact h
  · have h := mk_take N ⟨h7, by omega⟩ 6999 (some 5) (some 6) none 7 1073741824 (by decide) (by decide) (by omega) (by rw [mk_get N h7, if_pos rfl]) (below_6999 N h7 _ _)
    rw [mk_setC] at h
    exact h
  · rw [mk_used N h7]; rfl

set_option maxHeartbeats 4000000 in
set_option maxRecDepth 1000000 in
theorem numbers_walk (PA : PoolP) (H : PoolSays PA) (w : World) : Calls Try.prog 3 #[] w (fun e w' => e = .returned (.bool true) ∧ Below w.heap.size w w') := by
  obtain ⟨N, hN⟩ : ∃ N : Nat, N = 65536 := ⟨_, rfl⟩
  have E := Lib.hid (end_facts N hN)
  have HN := Lib.hid hN
  have HBT := Lib.hid (show ∀ n : Nat, n < N → takeL 1073741824 (bigL n) 0 = (bigL (n + 1), ((n + 1 : Nat) : Int), 0) from fun n h => big_take n _ (by decide) (by omega))
  clear hN
  go_enter Try.func3, Try.ntmps3
  go_wp2_with fail
  refine (H.newBad (-1) w (in_small _ (by decide) (by decide)) (.inl (by decide))).mono ?_
  rintro e w1 ⟨rfl, hb1⟩
  have HB1 := Lib.hid hb1
  clear hb1
  go_wp2_with fail
  refine (H.newBad 1073741825 w1 (in_small _ (by decide) (by decide)) (.inr (by decide))).mono ?_
  rintro e w2 ⟨rfl, hb2⟩
  have HB2 := Lib.hid (HB1.out.trans (hb2.mono HB1.out.size))
  clear hb2
  go_wp2_with fail
  refine (H.new 1073741824 w2 (by decide) (by decide)).mono ?_
  rintro e w3 ⟨b, F, rfl, hp, hF, hb3⟩
  have H1 := Lib.hid (show PoolAt PA w b 1073741824 [] w3 from ⟨F, hp, fun k hk => Nat.le_trans HB2.out.size (hF k hk), HB2.out.trans (hb3.mono HB2.out.size)⟩)
  clear hp hF hb3
  go_wp2_with fail
  refine (take_at H (-1) [] 0 2 (in_small _ (by decide) (by decide)) (show takeL 1073741824 [] (-1) = _ by rfl) H1.out).mono ?_
  rintro e w11 ⟨rfl, h2⟩
  have H2 := Lib.hid h2
  clear h2
  go_wp2_with fail
  refine (take_at H 1073741825 [] 0 5 (in_small _ (by decide) (by decide)) (show takeL 1073741824 [] 1073741825 = _ by rfl) H2.out).mono ?_
  rintro e w12 ⟨rfl, h3⟩
  have H3 := Lib.hid h3
  clear h3
  go_wp2_with fail
  refine (give_at H 9 [] 2 (in_small _ (by decide) (by decide)) (show giveL [] 9 = _ by rfl) H3.out).mono ?_
  rintro e w13 ⟨rfl, h4⟩
  have H4 := Lib.hid h4
  clear h4
  go_wp2_with fail
  refine (give_at H 0 [] 2 (in_small _ (by decide) (by decide)) (show giveL [] 0 = _ by rfl) H4.out).mono ?_
  rintro e w14 ⟨rfl, h5⟩
  have H5 := Lib.hid h5
  clear h5
  go_wp2_with fail
  refine (resize_at H 1 1 [] 2 (in_small _ (by decide) (by decide)) (in_small _ (by decide) (by decide)) (show resizeL 1073741824 [] 1 1 = _ by rfl) H5.out).mono ?_
  rintro e w15 ⟨rfl, h6⟩
  have H6 := Lib.hid h6
  clear h6
  go_wp2_with fail
  refine (take_want H 1073741824 1 [some 1073741824] 1 (in_small _ (by decide) (by decide)) (show takeL 1073741824 [] 1073741824 = _ by rfl) rfl H6.out).mono ?_
  rintro e w16 ⟨rfl, h7⟩
  have H7 := Lib.hid h7
  clear h7
  go_wp2_with fail
  refine (resize_at H 1 (-1) [some 1073741824] 2 (in_small _ (by decide) (by decide)) (in_small _ (by decide) (by decide)) (show resizeL 1073741824 [some 1073741824] 1 (-1) = _ by rfl) H7.out).mono ?_
  rintro e w17 ⟨rfl, h8⟩
  have H8 := Lib.hid h8
  clear h8
  go_wp2_with fail
  refine (resize_at H 1 1073741825 [some 1073741824] 5 (in_small _ (by decide) (by decide)) (in_small _ (by decide) (by decide)) (show resizeL 1073741824 [some 1073741824] 1 1073741825 = _ by rfl) H8.out).mono ?_
  rintro e w18 ⟨rfl, h9⟩
  have H9 := Lib.hid h9
  clear h9
  go_wp2_with fail
  refine (take_at H 1 [some 1073741824] 0 5 (in_small _ (by decide) (by decide)) (show takeL 1073741824 [some 1073741824] 1 = _ by rfl) H9.out).mono ?_
  rintro e w19 ⟨rfl, h10⟩
  have H10 := Lib.hid h10
  clear h10
  go_wp2_with fail
  refine (resize_at H 1 0 [some 0] 0 (in_small _ (by decide) (by decide)) (in_small _ (by decide) (by decide)) (show resizeL 1073741824 [some 1073741824] 1 0 = _ by rfl) H10.out).mono ?_
  rintro e w20 ⟨rfl, h11⟩
  have H11 := Lib.hid h11
  clear h11
  go_upto_block 0 with fail
  go_cut [14] from 106 to 113 (fun _ wx => PoolAt PA w b 1073741824 (bigL N) wx)
  case first =>
    go_wp2_with fail
    go_loopg [14] N (fun r x wr => ∃ (i : Nat), r = N + 2 - i ∧ x = .int .i64 i ∧ 2 ≤ i ∧ i ≤ N + 1 ∧ PoolAt PA w b 1073741824 (bigL (i - 1)) wr)
    case atStart => exact ⟨2, by have := HN.out; omega, rfl, Nat.le_refl _, by have := HN.out; omega, H11.out⟩
    case round =>
      obtain ⟨i, rfl, rfl, hi1, hi2, ha⟩ := hrel
      have HA := Lib.hid ha
      clear ha
      by_cases hlt : i ≤ N
      · have hlt' : (i : Int) ≤ 65536 := by have := HN.out; omega
        have hi0 : (2 : Int) ≤ i := by omega
        have e0 := IntWalk.i64_in ((i : Int) + 1) (by omega)
        have hbt := HBT.out (i - 1) (by omega)
        rw [show i - 1 + 1 = i by omega] at hbt
        have HK := Lib.hid (take_want H 0 (i : Int) (bigL i) (i : Int) (in_small _ (by decide) (by decide)) hbt rfl HA.out)
        clear hbt
        go_wp2_with fail
        refine HK.out.mono ?_
        rintro e w5 ⟨rfl, h5⟩
        have H5 := Lib.hid h5
        clear h5
        go_wp2_with fail
        go_roundg (N + 2 - (i + 1))
        case measure => omega
        case rel => exact ⟨i + 1, rfl, by go_num, by omega, by omega, H5.out⟩
      · obtain rfl : i = N + 1 := by omega
        have hge : ¬ ((N + 1 : Nat) : Int) ≤ 65536 := by have := HN.out; omega
        have HA2 := Lib.hid (show PoolAt PA w b 1073741824 (bigL N) wr from HA.out)
        generalize ((N + 1 : Nat) : Int) = z at *
        go_wp2_with fail
        go_meet
        exact HA2.out
  case rest =>
    have H12 := Lib.hid hcut
    clear hcut
    go_wp2_with fail
    refine (take_at H 0 (bigL N) 0 5 (in_small _ (by decide) (by decide)) E.out.full H12.out).mono ?_
    rintro e w22 ⟨rfl, h13⟩
    have H13 := Lib.hid h13
    clear h13
    go_wp2_with fail
    refine (size_at H 65536 0 true (in_small _ (by decide) (by decide)) E.out.last H13.out).mono ?_
    rintro e w23 ⟨rfl, h14⟩
    have H14 := Lib.hid h14
    clear h14
    go_wp2_with fail
    refine (size_at H 65537 0 false (in_small _ (by decide) (by decide)) E.out.no H14.out).mono ?_
    rintro e w24 ⟨rfl, h15⟩
    have H15 := Lib.hid h15
    clear h15
    go_wp2_with fail
    refine (count_at H 65536 E.out.count H15.out).mono ?_
    rintro e w25 ⟨rfl, h16⟩
    have H16 := Lib.hid h16
    clear h16
    go_wp2_with fail
    refine (give_at H 700 _ 0 (in_small _ (by decide) (by decide)) E.out.g1 H16.out).mono ?_
    rintro e w26 ⟨rfl, h17⟩
    have H17 := Lib.hid h17
    clear h17
    go_wp2_with fail
    refine (give_at H 70 _ 0 (in_small _ (by decide) (by decide)) E.out.g2 H17.out).mono ?_
    rintro e w27 ⟨rfl, h18⟩
    have H18 := Lib.hid h18
    clear h18
    go_wp2_with fail
    refine (give_at H 7000 _ 0 (in_small _ (by decide) (by decide)) E.out.g3 H18.out).mono ?_
    rintro e w28 ⟨rfl, h19⟩
    have H19 := Lib.hid h19
    clear h19
    go_wp2_with fail
    refine (take_want H 5 70 _ 70 (in_small _ (by decide) (by decide)) E.out.t1 rfl H19.out).mono ?_
    rintro e w29 ⟨rfl, h20⟩
    have H20 := Lib.hid h20
    clear h20
    go_wp2_with fail
    refine (take_want H 6 700 _ 700 (in_small _ (by decide) (by decide)) E.out.t2 rfl H20.out).mono ?_
    rintro e w30 ⟨rfl, h21⟩
    have H21 := Lib.hid h21
    clear h21
    go_wp2_with fail
    refine (take_want H 7 7000 _ 7000 (in_small _ (by decide) (by decide)) E.out.t3 rfl H21.out).mono ?_
    rintro e w31 ⟨rfl, h22⟩
    have H22 := Lib.hid h22
    clear h22
    go_wp2_with fail
    refine (used_at H 18 E.out.used H22.out).mono ?_
    rintro e w32 ⟨rfl, h23⟩
    have H23 := Lib.hid h23
    clear h23
    go_wp2_with fail
    refine (awake_fn PA H _).mono ?_
    rintro e w9 ⟨rfl, h9⟩
    have H9 := Lib.hid (H23.out.low.trans (h9.mono H23.out.low.size))
    clear h9
    go_wp2_with fail
    go_ret
    exact ⟨rfl, H9.out⟩
end Go.Proofs.Ytpfhaafaoedgpaa.Pl
