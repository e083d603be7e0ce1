/-
  A part of the proof.
-/
import Derived.Lib.Hide
import Derived.Test.YtnkejjlidgnkkaaGreatDoorClRL
import Derived.Test.YtnkejjlidgnkkaaGreatDoorClRN
import Derived.Test.YtnkejjlidgnkkaaGreatDoorClRO
import Derived.Test.YtnkejjlidgnkkaaGreatDoorClRP
set_option maxRecDepth 100000
set_option maxHeartbeats 40000000
namespace Go.Proofs.YtnkejjlidgnkkaaGreatDoor.Ps

open Go.Lib renaming hid → qh
open Go Go.RowKit Go.ChangeShapes Go.WideShapes Go.Shelf
open Go.Proofs.YtnkejjlidgnkkaaGreatDoor.Nd
open Go.Proofs.YtnkejjlidgnkkaaGreatDoor.Lex (Tok tokensL TokReads)
section
variable {T : List Tok} {tv : Value} {P base : Nat} {s : St} {nv : NR} {d : Fns} {L : Int}
theorem loc_apart {w : World} {b b2 : Nat} {e e2 : TypeId} {v v2 : Value} {x x2 : List Value} (L : Loc w b nv e v x) (L2 : Loc w b2 nv e2 v2 x2) (hne : e ≠ e2) : ∀ g, v.ownBlock = some g -> ¬ Xv v2 g := by
 intro g hg hx;rcases ownBlock_ne L.own L2.own hne with h | h
 ·rw [h] at hg; cases hg
 ·exact h (hg.trans (show v2.ownBlock = some g from hx).symm)
theorem bounds_len {a : List Int} {s' : St} (h : bounds T d s = .ok a s') : a.length <= 3 := by
 unfold bounds at h;simp only [run_bind] at h;cases h1 : d.expr 0 s with
 | no e l => rw [h1] at h; cases h
 | ok c s1 =>
  rw [h1] at h
  dsimp only at h
  cases h2 : expect T wComma s1 with
  | no e l => rw [h2] at h; cases h
  | ok u s2 =>
   rw [h2] at h
   dsimp only at h
   cases h3 : d.expr 0 s2 with
   | no e l => rw [h3] at h; cases h
   | ok b s3 =>
    rw [h3] at h
    dsimp only at h
    by_cases hm : markOf (tk T s3) = wComma
    ·rw [accept_t hm] at h
     dsimp only at h
     rw [if_pos rfl] at h;simp only [run_bind] at h;cases h4 : d.expr 0 ⟨s3.at' + 1, s3.l⟩ with
     | no e l => rw [h4] at h; cases h
     | ok x s4 => rw [h4] at h; cases h; simp
    ·rw [accept_f hm] at h
     dsimp only at h
     rw [if_neg (fun e => Bool.noConfusion e)] at h;cases h;simp
theorem for_fn (hE : EndT T) (hd : DFn T tv P base d L) (hk : (tk T s).k ≠ 6) (w : World) (h : PAt T tv P base s nv w) : Calls Tryz.prog 118 #[.pointer (some ⟨P, 0, none⟩), .int .i64 L] w (Does T tv P base (forStat T d) s nv Xn w vInt 1) := by
 have HLOW := qh h.lows;have HP0 := qh h;have HT0 := qh (show Turn P nv Xn w w nv from Turn.of_below (Below.refl _ _));clear h;go_enter Tryz.func118, Tryz.ntmps118;go_wp2_with fail;refine (line_fn _ HP0.out).mono ?_;rintro e w1 ⟨rfl, b⟩;have HP1 := qh (HP0.out.below b);have HT1 := qh (HT0.out.trans (Turn.of_below b));clear b;go_wp2_with fail;refine (next_do hE _ HP1.out hk).mono ?_;intro e w2 hd2;rcases does_cases hd2 with ⟨a2, s2, v2, nv2, hx2, rfl, hv2, hP2, hT2, hl2⟩ | ⟨er, l2, nv2, hx2, rfl, hT2⟩;rotate_left
 ·have HX2 := qh hx2;have HT2 := qh (HT1.out.trans hT2);clear hd2 hx2 hT2;go_wp2_with fail;exact ⟨rfl, does_no (by simp only [forStat, runs, HX2.out]) HT2.out⟩
 obtain rfl : v2 = .tuple #[] := hv2;have HX2 := qh hx2;have HP2 := qh hP2;have HT2 := qh (HT1.out.trans hT2);have HL2 := qh hl2;clear hd2 hx2 hP2 hT2 hl2;go_wp2_with fail;refine (names_do hE _ HP2.out).mono ?_;intro e w3 hd3;rcases hidC HT2 hd3 with ⟨a3, s3, v3, nv3, HX3, rfl, hv3, HP3, HT3, HL3⟩ | ⟨er, l3, nv3, HX3, rfl, HT3⟩;rotate_left
 ·clear hd3;go_wp2_with fail;exact ⟨rfl, does_no (by simp only [forStat, runs, HX2.out, HX3.out]) HT3.out⟩
 obtain ⟨hv3, ho3, hn3⟩ := hv3;obtain ⟨ao3, co3, rfl⟩ := loc_is hv3 (texts_len _);have HV3 := qh hv3;have HO3 := qh ho3;have HN3 := qh hn3;clear hd3 hv3 ho3 hn3;have HNM := qh (HV3.out.base HT2.out.size);by_cases hc4 : a3.length = 1
 ·have HC4 := qh hc4;clear hc4;have k1 : ((a3.length : Int) == 1) = true := by have := HC4.out; simp; omega
  go_wp2_with fail;have HP5 := qh (HP3.out.below (al w3 (.cells #[.int .u8 9, .int .i64 0, .string ⟨#[]⟩, .slice ao3 a3.length co3, .slice none 0 0, .int .i64 ((tk T s).line : Int)] 35)));have HT5 := qh (HT3.out.trans (Turn.of_below (al w3 (.cells #[.int .u8 9, .int .i64 0, .string ⟨#[]⟩, .slice ao3 a3.length co3, .slice none 0 0, .int .i64 ((tk T s).line : Int)] 35))));have HB := qh (Blk.new (cs := #[.int .u8 9, .int .i64 0, .string ⟨#[]⟩, .slice ao3 a3.length co3, .slice none 0 0, .int .i64 ((tk T s).line : Int)]) (e := 35) HP3.out);have HBS := qh HT3.out.size;have HNM_5 := qh (HNM.out.below (al w3 (.cells #[.int .u8 9, .int .i64 0, .string ⟨#[]⟩, .slice ao3 a3.length co3, .slice none 0 0, .int .i64 ((tk T s).line : Int)] 35)));by_cases hc6 : markOf (tk T s3) = wEq
  ·have HC6 := qh hc6;clear hc6;refine (accept_y hE _ HP5.out HC6.out (by decide)).mono ?_;intro e w7 hd7;rcases hidR HT5 hd7 with ⟨a7, s7, v7, nv7, HX7, rfl, hv7, HP7, HT7, hT7, HL7⟩ | ⟨er, l7, nv7, HX7, rfl, HT7⟩;rotate_left
   ·clear hd7;go_wp2_with fail;exact ⟨rfl, does_no (by simp only [forStat, runs, HX2.out, HX3.out, if_pos HC4.out, HX7.out]) HT7.out⟩
   obtain ⟨rfl, rfl⟩ := hv7;have HNM_7 := qh (HNM_5.out.turn HP5.out hT7 not_none (by decide) (by decide));have HB_7 := qh (HB.out.turn hT7 no_Xn);clear hd7 hT7;go_wp2_with fail;refine (bounds_do hE hd _ HP7.out).mono ?_;intro e w8 hd8;rcases hidR HT7 hd8 with ⟨a8, s8, v8, nv8, HX8, rfl, hv8, HP8, HT8, hT8, HL8⟩ | ⟨er, l8, nv8, HX8, rfl, HT8⟩;rotate_left
   ·clear hd8;go_wp2_with fail;exact ⟨rfl, does_no (by simp only [forStat, runs, HX2.out, HX3.out, if_pos HC4.out, HX7.out, HX8.out]) HT8.out⟩
   obtain ⟨ao8, co8, rfl⟩ := loc_is hv8 (ints_len _);have HV8 := qh (Loc.base hv8 HT7.out.size);have HNM_8 := qh (HNM_7.out.turn HP7.out hT8 not_none (by decide) (by decide));have HB_8 := qh (HB_7.out.turn hT8 no_Xn);clear hd8 hT8 hv8;have q9 := cell_of HB_8.out.at' 0 (.int .u8 9) rfl;have r9 := fun o => cell_up (al w8 o) q9
   have q10 := cell_of HB_8.out.at' 1 (.int .i64 0) rfl;have r10 := fun o => cell_up (al w8 o) q10
   have q11 := cell_of HB_8.out.at' 2 (.string ⟨#[]⟩) rfl;have r11 := fun o => cell_up (al w8 o) q11
   have q12 := cell_of HB_8.out.at' 3 (.slice ao3 a3.length co3) rfl;have r12 := fun o => cell_up (al w8 o) q12
   have q13 := cell_of HB_8.out.at' 4 (.slice none 0 0) rfl;have r13 := fun o => cell_up (al w8 o) q13
   have q14 := cell_of HB_8.out.at' 5 (.int .i64 ((tk T s).line : Int)) rfl;have r14 := fun o => cell_up (al w8 o) q14
   have g15 := free_of HB_8.out.at' 4;go_wp2_with fail;have HP16 := qh (HP8.out.store (j := 4) (u := .slice ao8 a8.length co8) HB_8.out HLOW.out HBS.out (by decide) (by decide));have HT16 := qh (HT8.out.store (j := 4) (u := .slice ao8 a8.length co8) HBS.out);have HNM_16 := qh (HNM_8.out.store (j := 4) (u := .slice ao8 a8.length co8) HB_8.out (by decide));have HK_16 := qh (HV8.out.store (j := 4) (u := .slice ao8 a8.length co8) HB_8.out (by decide));have HB_16 := qh (HB_8.out.set (j := 4) (.slice ao8 a8.length co8));go_wp2_with fail;have HPd := qh (HP16.out.below ((Below.refl _ _).drew));have HBd := qh (HB_16.out.below ((Below.refl _ _).drew));have HKd := qh (HK_16.out.below ((Below.refl _ _).drew));have HNd := qh (HNM_16.out.below ((Below.refl _ _).drew));have HTd := qh (HT16.out.trans (Turn.of_below ((Below.refl _ _).drew)));have y4 := cell_of HB_16.out.at' 4 (.slice ao8 a8.length co8) rfl;refine region_mono (RP := fun ch w' => Does T tv P base (forStat T d) s nv Xn w vInt 1 (.panicked ch) w') (fun ch a w hd hr => ⟨hd, hr⟩) (region_f (H := fun b v2 w' w2 => ∃ (s' : St) (nv' : NR), doBlock T d s8 = .ok b s' /\ PAt T tv P base s' nv' w2 /\ Turn P nv Xn w w2 nv' /\ Loc w2 w.heap.size nv' 3 v2 (intsV (a8 ++ [b])) /\ Blk P (w3.heap.size) (.cells #[.int .u8 9, .int .i64 0, .string ⟨#[]⟩, .slice ao3 a3.length co3, .slice ao8 a8.length co8, .int .i64 ((tk T s).line : Int)] 35 (0, 0)) nv' w2 /\ Loc w2 w.heap.size nv' 9 (.slice ao3 a3.length co3) (textsV a3) /\ s8.at' + 1 <= s'.at') y4 (doBlock_fn hE hd _ HPd.out) ?_ ?_ ?_ ?_)
   ·intro v w' hG;rcases does_cases hG with ⟨b, s', v', nv', hx, he, hv, hP', hT', hl'⟩ | ⟨er, l', nv', hx, he, hT'⟩;rotate_left
    ·cases he
    cases he;obtain ⟨rfl, hr⟩ := hv;have LK := HKd.out.turn HPd.out hT' not_none (by decide) (by decide);have LN := HNd.out.turn HPd.out hT' not_none (by decide) (by decide);have B1 := HBd.out.turn hT' no_Xn;have hTT := HTd.out.trans hT';obtain ⟨v2, w2, hrun, hL2, hP2, hT2⟩ := append_run hP' HLOW.out hTT.size b LK ((by have := bounds_len HX8.out; omega));obtain ⟨a2, c2, rfl⟩ := loc_is hL2 (ints_snoc _ _);have B2 := B1.turn hT2 (B1.apart LK (by decide));have LN2 := LN.turn hP' hT2 (loc_apart LN LK (by decide)) (by decide) (by decide);exact ⟨b, a2, _, c2, w2, rfl, cell_of B1.at' 4 _ rfl, cell_up (al _ _) (cell_of B1.at' 4 _ rfl), hrun, cell_of B2.at' 4 _ rfl, free_of B2.at' 4, s', nv', hx, hP2, hTT.trans' hT2 (own_above LK), hL2, B2, LN2, hl'⟩
   ·intro e w' hG;rcases does_cases hG with ⟨b, s', v', nv', hx, he, hv, hP', hT', hl'⟩ | ⟨er, l', nv', hx, he, hT'⟩
    ·exact .inl ⟨_, he⟩
    ·exact .inr ⟨_, he⟩
   rotate_left
   ·intro ch w' hG;rcases does_cases hG with ⟨b, s', v', nv', hx, he, hv, hP', hT', hl'⟩ | ⟨er, l', nv', hx, he, hT'⟩
    ·cases he
    ·cases he;have HX17 := qh hx;exact does_no (by simp only [forStat, runs, HX2.out, HX3.out, if_pos HC4.out, HX7.out, HX8.out, HX17.out]) (HTd.out.trans hT')
   ·intro b v2 w1 w17 y1 y2 y3 y4 y5 y6 y7 y8 hG hH;obtain ⟨s17, nv17, hx, hP', hT', hL', hB', hN', hl'⟩ := hH;obtain ⟨a2, c2, rfl⟩ := loc_is hL' (ints_snoc _ _);have HX17 := qh hx;have HP17 := qh hP';have HT17 := qh hT';have HK17 := qh hL';have HB17 := qh hB';have HNN17 := qh hN';have HL17 := qh hl';clear hG hx hP' hT' hL' hB' hN' hl';have q18 := cell_of HB17.out.at' 0 (.int .u8 9) rfl;have r18 := fun o => cell_up (al w17 o) q18
    have q19 := cell_of HB17.out.at' 1 (.int .i64 0) rfl;have r19 := fun o => cell_up (al w17 o) q19
    have q20 := cell_of HB17.out.at' 2 (.string ⟨#[]⟩) rfl;have r20 := fun o => cell_up (al w17 o) q20
    have q21 := cell_of HB17.out.at' 3 (.slice ao3 a3.length co3) rfl;have r21 := fun o => cell_up (al w17 o) q21
    have q22 := cell_of HB17.out.at' 4 (.slice ao8 a8.length co8) rfl;have r22 := fun o => cell_up (al w17 o) q22
    have q23 := cell_of HB17.out.at' 5 (.int .i64 ((tk T s).line : Int)) rfl;have r23 := fun o => cell_up (al w17 o) q23
    go_wp2_with fail;have HP24 := qh (HP17.out.store (j := 4) (u := .slice a2 (a8.length + 1) c2) HB17.out HLOW.out HBS.out (by decide) (by decide));have HT24 := qh (HT17.out.store (j := 4) (u := .slice a2 (a8.length + 1) c2) HBS.out);have HK_24 := qh (HK17.out.store (j := 4) (u := .slice a2 (a8.length + 1) c2) HB17.out (by decide));have HNM_24 := qh (HNN17.out.store (j := 4) (u := .slice a2 (a8.length + 1) c2) HB17.out (by decide));have HB_24 := qh (HB17.out.set (j := 4) (.slice a2 (a8.length + 1) c2));refine (add_do _ HP24.out ⟨9, 0, ⟨#[]⟩, a3, a8 ++ [b], ((tk T s).line : Nat)⟩ _ _ _ _ HNM_24.out HK_24.out rfl rfl rfl rfl).mono ?_;intro e w25 hd25;rcases does_cases hd25 with ⟨a25, s25, v25, nv25, hx25, rfl, hv25, hP25, hT25, hl25⟩ | ⟨er, l25, nv25, hx25, rfl, hT25⟩;rotate_left
    ·have HX25 := qh hx25;have HT25 := qh (HT24.out.trans' hT25 (fun i hi => hi.elim (own_above HNM_24.out i) (own_above HK_24.out i)));clear hd25 hx25 hT25;go_wp2_with fail;exact ⟨rfl, does_no (by simp only [forStat, runs, HX2.out, HX3.out, if_pos HC4.out, HX7.out, HX8.out, HX17.out, HX25.out]) HT25.out⟩
    obtain ⟨rfl, hr25⟩ : v25 = .int .i64 a25 /\ Rng a25 nv25 := hv25;have HR25 := qh hr25;have HX25 := qh hx25;have HP25 := qh hP25;have HT25 := qh (HT24.out.trans' hT25 (fun i hi => hi.elim (own_above HNM_24.out i) (own_above HK_24.out i)));have HL25 := qh hl25;clear hd25 hx25 hP25 hT25 hl25 hr25;go_wp2_with fail;go_ret;exact does_ok (a := a25) (s' := s25) (by simp only [forStat, runs, HX2.out, HX3.out, if_pos HC4.out, HX7.out, HX8.out, HX17.out, HX25.out]) ⟨rfl, HR25.out⟩ HP25.out HT25.out (by have := HL2.out; have := HL3.out; have := HL7.out; have := HL8.out; have := HL17.out; have := HL25.out; omega)
  ·have HC6 := qh hc6;clear hc6;refine (accept_n _ HP5.out HC6.out).mono ?_;intro e w26 hd26;rcases hidR HT5 hd26 with ⟨a26, s26, v26, nv26, HX26, rfl, hv26, HP26, HT26, hT26, HL26⟩ | ⟨er, l26, nv26, HX26, rfl, HT26⟩;rotate_left
   ·clear hd26;go_wp2_with fail;exact ⟨rfl, does_no (by simp only [forStat, runs, HX2.out, HX3.out, if_pos HC4.out, HX26.out]) HT26.out⟩
   obtain ⟨rfl, rfl⟩ := hv26;have HNM_26 := qh (HNM_5.out.turn HP5.out hT26 not_none (by decide) (by decide));have HB_26 := qh (HB.out.turn hT26 no_Xn);clear hd26 hT26;have q27 := cell_of HB_26.out.at' 0 (.int .u8 9) rfl;have r27 := fun o => cell_up (al w26 o) q27
   have q28 := cell_of HB_26.out.at' 1 (.int .i64 0) rfl;have r28 := fun o => cell_up (al w26 o) q28
   have q29 := cell_of HB_26.out.at' 2 (.string ⟨#[]⟩) rfl;have r29 := fun o => cell_up (al w26 o) q29
   have q30 := cell_of HB_26.out.at' 3 (.slice ao3 a3.length co3) rfl;have r30 := fun o => cell_up (al w26 o) q30
   have q31 := cell_of HB_26.out.at' 4 (.slice none 0 0) rfl;have r31 := fun o => cell_up (al w26 o) q31
   have q32 := cell_of HB_26.out.at' 5 (.int .i64 ((tk T s).line : Int)) rfl;have r32 := fun o => cell_up (al w26 o) q32
   have g33 := free_of HB_26.out.at' 0;go_wp2_with fail;have HP34 := qh (HP26.out.store (j := 0) (u := .int .u8 10) HB_26.out HLOW.out HBS.out (by decide) (by decide));have HT34 := qh (HT26.out.store (j := 0) (u := .int .u8 10) HBS.out);have HNM_34 := qh (HNM_26.out.store (j := 0) (u := .int .u8 10) HB_26.out (by decide));have HB_34 := qh (HB_26.out.set (j := 0) (.int .u8 10));refine (expect_do hE _ HP34.out (m := wIn) (by decide)).mono ?_;intro e w35 hd35;rcases hidR HT34 hd35 with ⟨a35, s35, v35, nv35, HX35, rfl, hv35, HP35, HT35, hT35, HL35⟩ | ⟨er, l35, nv35, HX35, rfl, HT35⟩;rotate_left
   ·clear hd35;go_wp2_with fail;exact ⟨rfl, does_no (by simp only [forStat, runs, HX2.out, HX3.out, if_pos HC4.out, HX26.out, HX35.out]) HT35.out⟩
   obtain rfl : v35 = .tuple #[] := hv35;have HNM_35 := qh (HNM_34.out.turn HP34.out hT35 not_none (by decide) (by decide));have HB_35 := qh (HB_34.out.turn hT35 no_Xn);clear hd35 hT35;go_wp2_with fail;refine (hd.exprs _ _ _ HP35.out).mono ?_;intro e w36 hd36;rcases hidR HT35 hd36 with ⟨a36, s36, v36, nv36, HX36, rfl, hv36, HP36, HT36, hT36, HL36⟩ | ⟨er, l36, nv36, HX36, rfl, HT36⟩;rotate_left
   ·clear hd36;go_wp2_with fail;exact ⟨rfl, does_no (by simp only [forStat, runs, HX2.out, HX3.out, if_pos HC4.out, HX26.out, HX35.out, HX36.out]) HT36.out⟩
   obtain ⟨ao36, co36, rfl⟩ := loc_is hv36 (ints_len _);have HV36 := qh (Loc.base hv36 HT35.out.size);have HNM_36 := qh (HNM_35.out.turn HP35.out hT36 not_none (by decide) (by decide));have HB_36 := qh (HB_35.out.turn hT36 no_Xn);clear hd36 hT36 hv36;have q37 := cell_of HB_36.out.at' 0 (.int .u8 10) rfl;have r37 := fun o => cell_up (al w36 o) q37
   have q38 := cell_of HB_36.out.at' 1 (.int .i64 0) rfl;have r38 := fun o => cell_up (al w36 o) q38
   have q39 := cell_of HB_36.out.at' 2 (.string ⟨#[]⟩) rfl;have r39 := fun o => cell_up (al w36 o) q39
   have q40 := cell_of HB_36.out.at' 3 (.slice ao3 a3.length co3) rfl;have r40 := fun o => cell_up (al w36 o) q40
   have q41 := cell_of HB_36.out.at' 4 (.slice none 0 0) rfl;have r41 := fun o => cell_up (al w36 o) q41
   have q42 := cell_of HB_36.out.at' 5 (.int .i64 ((tk T s).line : Int)) rfl;have r42 := fun o => cell_up (al w36 o) q42
   have g43 := free_of HB_36.out.at' 4;go_wp2_with fail;have HP44 := qh (HP36.out.store (j := 4) (u := .slice ao36 a36.length co36) HB_36.out HLOW.out HBS.out (by decide) (by decide));have HT44 := qh (HT36.out.store (j := 4) (u := .slice ao36 a36.length co36) HBS.out);have HNM_44 := qh (HNM_36.out.store (j := 4) (u := .slice ao36 a36.length co36) HB_36.out (by decide));have HK_44 := qh (HV36.out.store (j := 4) (u := .slice ao36 a36.length co36) HB_36.out (by decide));have HB_44 := qh (HB_36.out.set (j := 4) (.slice ao36 a36.length co36));go_wp2_with fail;have HPd := qh (HP44.out.below ((Below.refl _ _).drew));have HBd := qh (HB_44.out.below ((Below.refl _ _).drew));have HKd := qh (HK_44.out.below ((Below.refl _ _).drew));have HNd := qh (HNM_44.out.below ((Below.refl _ _).drew));have HTd := qh (HT44.out.trans (Turn.of_below ((Below.refl _ _).drew)));have y4 := cell_of HB_44.out.at' 4 (.slice ao36 a36.length co36) rfl;refine region_mono (RP := fun ch w' => Does T tv P base (forStat T d) s nv Xn w vInt 1 (.panicked ch) w') (fun ch a w hd hr => ⟨hd, hr⟩) (region_f (H := fun b v2 w' w2 => ∃ (s' : St) (nv' : NR), doBlock T d s36 = .ok b s' /\ PAt T tv P base s' nv' w2 /\ Turn P nv Xn w w2 nv' /\ Loc w2 w.heap.size nv' 3 v2 (intsV (a36 ++ [b])) /\ Blk P (w3.heap.size) (.cells #[.int .u8 10, .int .i64 0, .string ⟨#[]⟩, .slice ao3 a3.length co3, .slice ao36 a36.length co36, .int .i64 ((tk T s).line : Int)] 35 (0, 0)) nv' w2 /\ Loc w2 w.heap.size nv' 9 (.slice ao3 a3.length co3) (textsV a3) /\ s36.at' + 1 <= s'.at') y4 (doBlock_fn hE hd _ HPd.out) ?_ ?_ ?_ ?_)
   ·intro v w' hG;rcases does_cases hG with ⟨b, s', v', nv', hx, he, hv, hP', hT', hl'⟩ | ⟨er, l', nv', hx, he, hT'⟩;rotate_left
    ·cases he
    cases he;obtain ⟨rfl, hr⟩ := hv;have LK := HKd.out.turn HPd.out hT' not_none (by decide) (by decide);have LN := HNd.out.turn HPd.out hT' not_none (by decide) (by decide);have B1 := HBd.out.turn hT' no_Xn;have hTT := HTd.out.trans hT';obtain ⟨v2, w2, hrun, hL2, hP2, hT2⟩ := append_run hP' HLOW.out hTT.size b LK ((by have := (hd.ne _ _ _ HX36.out).2; omega));obtain ⟨a2, c2, rfl⟩ := loc_is hL2 (ints_snoc _ _);have B2 := B1.turn hT2 (B1.apart LK (by decide));have LN2 := LN.turn hP' hT2 (loc_apart LN LK (by decide)) (by decide) (by decide);exact ⟨b, a2, _, c2, w2, rfl, cell_of B1.at' 4 _ rfl, cell_up (al _ _) (cell_of B1.at' 4 _ rfl), hrun, cell_of B2.at' 4 _ rfl, free_of B2.at' 4, s', nv', hx, hP2, hTT.trans' hT2 (own_above LK), hL2, B2, LN2, hl'⟩
   ·intro e w' hG;rcases does_cases hG with ⟨b, s', v', nv', hx, he, hv, hP', hT', hl'⟩ | ⟨er, l', nv', hx, he, hT'⟩
    ·exact .inl ⟨_, he⟩
    ·exact .inr ⟨_, he⟩
   rotate_left
   ·intro ch w' hG;rcases does_cases hG with ⟨b, s', v', nv', hx, he, hv, hP', hT', hl'⟩ | ⟨er, l', nv', hx, he, hT'⟩
    ·cases he
    ·cases he;have HX45 := qh hx;exact does_no (by simp only [forStat, runs, HX2.out, HX3.out, if_pos HC4.out, HX26.out, HX35.out, HX36.out, HX45.out]) (HTd.out.trans hT')
   ·intro b v2 w1 w45 y1 y2 y3 y4 y5 y6 y7 y8 hG hH;obtain ⟨s45, nv45, hx, hP', hT', hL', hB', hN', hl'⟩ := hH;obtain ⟨a2, c2, rfl⟩ := loc_is hL' (ints_snoc _ _);have HX45 := qh hx;have HP45 := qh hP';have HT45 := qh hT';have HK45 := qh hL';have HB45 := qh hB';have HNN45 := qh hN';have HL45 := qh hl';clear hG hx hP' hT' hL' hB' hN' hl';have q46 := cell_of HB45.out.at' 0 (.int .u8 10) rfl;have r46 := fun o => cell_up (al w45 o) q46
    have q47 := cell_of HB45.out.at' 1 (.int .i64 0) rfl;have r47 := fun o => cell_up (al w45 o) q47
    have q48 := cell_of HB45.out.at' 2 (.string ⟨#[]⟩) rfl;have r48 := fun o => cell_up (al w45 o) q48
    have q49 := cell_of HB45.out.at' 3 (.slice ao3 a3.length co3) rfl;have r49 := fun o => cell_up (al w45 o) q49
    have q50 := cell_of HB45.out.at' 4 (.slice ao36 a36.length co36) rfl;have r50 := fun o => cell_up (al w45 o) q50
    have q51 := cell_of HB45.out.at' 5 (.int .i64 ((tk T s).line : Int)) rfl;have r51 := fun o => cell_up (al w45 o) q51
    go_wp2_with fail;have HP52 := qh (HP45.out.store (j := 4) (u := .slice a2 (a36.length + 1) c2) HB45.out HLOW.out HBS.out (by decide) (by decide));have HT52 := qh (HT45.out.store (j := 4) (u := .slice a2 (a36.length + 1) c2) HBS.out);have HK_52 := qh (HK45.out.store (j := 4) (u := .slice a2 (a36.length + 1) c2) HB45.out (by decide));have HNM_52 := qh (HNN45.out.store (j := 4) (u := .slice a2 (a36.length + 1) c2) HB45.out (by decide));have HB_52 := qh (HB45.out.set (j := 4) (.slice a2 (a36.length + 1) c2));refine (add_do _ HP52.out ⟨10, 0, ⟨#[]⟩, a3, a36 ++ [b], ((tk T s).line : Nat)⟩ _ _ _ _ HNM_52.out HK_52.out rfl rfl rfl rfl).mono ?_;intro e w53 hd53;rcases does_cases hd53 with ⟨a53, s53, v53, nv53, hx53, rfl, hv53, hP53, hT53, hl53⟩ | ⟨er, l53, nv53, hx53, rfl, hT53⟩;rotate_left
    ·have HX53 := qh hx53;have HT53 := qh (HT52.out.trans' hT53 (fun i hi => hi.elim (own_above HNM_52.out i) (own_above HK_52.out i)));clear hd53 hx53 hT53;go_wp2_with fail;exact ⟨rfl, does_no (by simp only [forStat, runs, HX2.out, HX3.out, if_pos HC4.out, HX26.out, HX35.out, HX36.out, HX45.out, HX53.out]) HT53.out⟩
    obtain ⟨rfl, hr53⟩ : v53 = .int .i64 a53 /\ Rng a53 nv53 := hv53;have HR53 := qh hr53;have HX53 := qh hx53;have HP53 := qh hP53;have HT53 := qh (HT52.out.trans' hT53 (fun i hi => hi.elim (own_above HNM_52.out i) (own_above HK_52.out i)));have HL53 := qh hl53;clear hd53 hx53 hP53 hT53 hl53 hr53;go_wp2_with fail;go_ret;exact does_ok (a := a53) (s' := s53) (by simp only [forStat, runs, HX2.out, HX3.out, if_pos HC4.out, HX26.out, HX35.out, HX36.out, HX45.out, HX53.out]) ⟨rfl, HR53.out⟩ HP53.out HT53.out (by have := HL2.out; have := HL3.out; have := HL26.out; have := HL35.out; have := HL36.out; have := HL45.out; have := HL53.out; omega)
 ·have HC4 := qh hc4;clear hc4;have k1 : ((a3.length : Int) == 1) = false := by have := HC4.out; simp; omega
  go_wp2_with fail;have HP54 := qh (HP3.out.below (al w3 (.cells #[.int .u8 10, .int .i64 0, .string ⟨#[]⟩, .slice ao3 a3.length co3, .slice none 0 0, .int .i64 ((tk T s).line : Int)] 35)));have HT54 := qh (HT3.out.trans (Turn.of_below (al w3 (.cells #[.int .u8 10, .int .i64 0, .string ⟨#[]⟩, .slice ao3 a3.length co3, .slice none 0 0, .int .i64 ((tk T s).line : Int)] 35))));have HB := qh (Blk.new (cs := #[.int .u8 10, .int .i64 0, .string ⟨#[]⟩, .slice ao3 a3.length co3, .slice none 0 0, .int .i64 ((tk T s).line : Int)]) (e := 35) HP3.out);have HBS := qh HT3.out.size;have HNM_54 := qh (HNM.out.below (al w3 (.cells #[.int .u8 10, .int .i64 0, .string ⟨#[]⟩, .slice ao3 a3.length co3, .slice none 0 0, .int .i64 ((tk T s).line : Int)] 35)));refine (expect_do hE _ HP54.out (m := wIn) (by decide)).mono ?_;intro e w55 hd55;rcases hidR HT54 hd55 with ⟨a55, s55, v55, nv55, HX55, rfl, hv55, HP55, HT55, hT55, HL55⟩ | ⟨er, l55, nv55, HX55, rfl, HT55⟩;rotate_left
  ·clear hd55;go_wp2_with fail;exact ⟨rfl, does_no (by simp only [forStat, runs, HX2.out, HX3.out, if_neg HC4.out, HX55.out]) HT55.out⟩
  obtain rfl : v55 = .tuple #[] := hv55;have HNM_55 := qh (HNM_54.out.turn HP54.out hT55 not_none (by decide) (by decide));have HB_55 := qh (HB.out.turn hT55 no_Xn);clear hd55 hT55;go_wp2_with fail;refine (hd.exprs _ _ _ HP55.out).mono ?_;intro e w56 hd56;rcases hidR HT55 hd56 with ⟨a56, s56, v56, nv56, HX56, rfl, hv56, HP56, HT56, hT56, HL56⟩ | ⟨er, l56, nv56, HX56, rfl, HT56⟩;rotate_left
  ·clear hd56;go_wp2_with fail;exact ⟨rfl, does_no (by simp only [forStat, runs, HX2.out, HX3.out, if_neg HC4.out, HX55.out, HX56.out]) HT56.out⟩
  obtain ⟨ao56, co56, rfl⟩ := loc_is hv56 (ints_len _);have HV56 := qh (Loc.base hv56 HT55.out.size);have HNM_56 := qh (HNM_55.out.turn HP55.out hT56 not_none (by decide) (by decide));have HB_56 := qh (HB_55.out.turn hT56 no_Xn);clear hd56 hT56 hv56;have q57 := cell_of HB_56.out.at' 0 (.int .u8 10) rfl;have r57 := fun o => cell_up (al w56 o) q57
  have q58 := cell_of HB_56.out.at' 1 (.int .i64 0) rfl;have r58 := fun o => cell_up (al w56 o) q58
  have q59 := cell_of HB_56.out.at' 2 (.string ⟨#[]⟩) rfl;have r59 := fun o => cell_up (al w56 o) q59
  have q60 := cell_of HB_56.out.at' 3 (.slice ao3 a3.length co3) rfl;have r60 := fun o => cell_up (al w56 o) q60
  have q61 := cell_of HB_56.out.at' 4 (.slice none 0 0) rfl;have r61 := fun o => cell_up (al w56 o) q61
  have q62 := cell_of HB_56.out.at' 5 (.int .i64 ((tk T s).line : Int)) rfl;have r62 := fun o => cell_up (al w56 o) q62
  have g63 := free_of HB_56.out.at' 4;go_wp2_with fail;have HP64 := qh (HP56.out.store (j := 4) (u := .slice ao56 a56.length co56) HB_56.out HLOW.out HBS.out (by decide) (by decide));have HT64 := qh (HT56.out.store (j := 4) (u := .slice ao56 a56.length co56) HBS.out);have HNM_64 := qh (HNM_56.out.store (j := 4) (u := .slice ao56 a56.length co56) HB_56.out (by decide));have HK_64 := qh (HV56.out.store (j := 4) (u := .slice ao56 a56.length co56) HB_56.out (by decide));have HB_64 := qh (HB_56.out.set (j := 4) (.slice ao56 a56.length co56));go_wp2_with fail;have HPd := qh (HP64.out.below ((Below.refl _ _).drew));have HBd := qh (HB_64.out.below ((Below.refl _ _).drew));have HKd := qh (HK_64.out.below ((Below.refl _ _).drew));have HNd := qh (HNM_64.out.below ((Below.refl _ _).drew));have HTd := qh (HT64.out.trans (Turn.of_below ((Below.refl _ _).drew)));have y4 := cell_of HB_64.out.at' 4 (.slice ao56 a56.length co56) rfl;refine region_mono (RP := fun ch w' => Does T tv P base (forStat T d) s nv Xn w vInt 1 (.panicked ch) w') (fun ch a w hd hr => ⟨hd, hr⟩) (region_f (H := fun b v2 w' w2 => ∃ (s' : St) (nv' : NR), doBlock T d s56 = .ok b s' /\ PAt T tv P base s' nv' w2 /\ Turn P nv Xn w w2 nv' /\ Loc w2 w.heap.size nv' 3 v2 (intsV (a56 ++ [b])) /\ Blk P (w3.heap.size) (.cells #[.int .u8 10, .int .i64 0, .string ⟨#[]⟩, .slice ao3 a3.length co3, .slice ao56 a56.length co56, .int .i64 ((tk T s).line : Int)] 35 (0, 0)) nv' w2 /\ Loc w2 w.heap.size nv' 9 (.slice ao3 a3.length co3) (textsV a3) /\ s56.at' + 1 <= s'.at') y4 (doBlock_fn hE hd _ HPd.out) ?_ ?_ ?_ ?_)
  ·intro v w' hG;rcases does_cases hG with ⟨b, s', v', nv', hx, he, hv, hP', hT', hl'⟩ | ⟨er, l', nv', hx, he, hT'⟩;rotate_left
   ·cases he
   cases he;obtain ⟨rfl, hr⟩ := hv;have LK := HKd.out.turn HPd.out hT' not_none (by decide) (by decide);have LN := HNd.out.turn HPd.out hT' not_none (by decide) (by decide);have B1 := HBd.out.turn hT' no_Xn;have hTT := HTd.out.trans hT';obtain ⟨v2, w2, hrun, hL2, hP2, hT2⟩ := append_run hP' HLOW.out hTT.size b LK ((by have := (hd.ne _ _ _ HX56.out).2; omega));obtain ⟨a2, c2, rfl⟩ := loc_is hL2 (ints_snoc _ _);have B2 := B1.turn hT2 (B1.apart LK (by decide));have LN2 := LN.turn hP' hT2 (loc_apart LN LK (by decide)) (by decide) (by decide);exact ⟨b, a2, _, c2, w2, rfl, cell_of B1.at' 4 _ rfl, cell_up (al _ _) (cell_of B1.at' 4 _ rfl), hrun, cell_of B2.at' 4 _ rfl, free_of B2.at' 4, s', nv', hx, hP2, hTT.trans' hT2 (own_above LK), hL2, B2, LN2, hl'⟩
  ·intro e w' hG;rcases does_cases hG with ⟨b, s', v', nv', hx, he, hv, hP', hT', hl'⟩ | ⟨er, l', nv', hx, he, hT'⟩
   ·exact .inl ⟨_, he⟩
   ·exact .inr ⟨_, he⟩
  rotate_left
  ·intro ch w' hG;rcases does_cases hG with ⟨b, s', v', nv', hx, he, hv, hP', hT', hl'⟩ | ⟨er, l', nv', hx, he, hT'⟩
   ·cases he
   ·cases he;have HX65 := qh hx;exact does_no (by simp only [forStat, runs, HX2.out, HX3.out, if_neg HC4.out, HX55.out, HX56.out, HX65.out]) (HTd.out.trans hT')
  ·intro b v2 w1 w65 y1 y2 y3 y4 y5 y6 y7 y8 hG hH;obtain ⟨s65, nv65, hx, hP', hT', hL', hB', hN', hl'⟩ := hH;obtain ⟨a2, c2, rfl⟩ := loc_is hL' (ints_snoc _ _);have HX65 := qh hx;have HP65 := qh hP';have HT65 := qh hT';have HK65 := qh hL';have HB65 := qh hB';have HNN65 := qh hN';have HL65 := qh hl';clear hG hx hP' hT' hL' hB' hN' hl';have q66 := cell_of HB65.out.at' 0 (.int .u8 10) rfl;have r66 := fun o => cell_up (al w65 o) q66
   have q67 := cell_of HB65.out.at' 1 (.int .i64 0) rfl;have r67 := fun o => cell_up (al w65 o) q67
   have q68 := cell_of HB65.out.at' 2 (.string ⟨#[]⟩) rfl;have r68 := fun o => cell_up (al w65 o) q68
   have q69 := cell_of HB65.out.at' 3 (.slice ao3 a3.length co3) rfl;have r69 := fun o => cell_up (al w65 o) q69
   have q70 := cell_of HB65.out.at' 4 (.slice ao56 a56.length co56) rfl;have r70 := fun o => cell_up (al w65 o) q70
   have q71 := cell_of HB65.out.at' 5 (.int .i64 ((tk T s).line : Int)) rfl;have r71 := fun o => cell_up (al w65 o) q71
   go_wp2_with fail;have HP72 := qh (HP65.out.store (j := 4) (u := .slice a2 (a56.length + 1) c2) HB65.out HLOW.out HBS.out (by decide) (by decide));have HT72 := qh (HT65.out.store (j := 4) (u := .slice a2 (a56.length + 1) c2) HBS.out);have HK_72 := qh (HK65.out.store (j := 4) (u := .slice a2 (a56.length + 1) c2) HB65.out (by decide));have HNM_72 := qh (HNN65.out.store (j := 4) (u := .slice a2 (a56.length + 1) c2) HB65.out (by decide));have HB_72 := qh (HB65.out.set (j := 4) (.slice a2 (a56.length + 1) c2));refine (add_do _ HP72.out ⟨10, 0, ⟨#[]⟩, a3, a56 ++ [b], ((tk T s).line : Nat)⟩ _ _ _ _ HNM_72.out HK_72.out rfl rfl rfl rfl).mono ?_;intro e w73 hd73;rcases does_cases hd73 with ⟨a73, s73, v73, nv73, hx73, rfl, hv73, hP73, hT73, hl73⟩ | ⟨er, l73, nv73, hx73, rfl, hT73⟩;rotate_left
   ·have HX73 := qh hx73;have HT73 := qh (HT72.out.trans' hT73 (fun i hi => hi.elim (own_above HNM_72.out i) (own_above HK_72.out i)));clear hd73 hx73 hT73;go_wp2_with fail;exact ⟨rfl, does_no (by simp only [forStat, runs, HX2.out, HX3.out, if_neg HC4.out, HX55.out, HX56.out, HX65.out, HX73.out]) HT73.out⟩
   obtain ⟨rfl, hr73⟩ : v73 = .int .i64 a73 /\ Rng a73 nv73 := hv73;have HR73 := qh hr73;have HX73 := qh hx73;have HP73 := qh hP73;have HT73 := qh (HT72.out.trans' hT73 (fun i hi => hi.elim (own_above HNM_72.out i) (own_above HK_72.out i)));have HL73 := qh hl73;clear hd73 hx73 hP73 hT73 hl73 hr73;go_wp2_with fail;go_ret;exact does_ok (a := a73) (s' := s73) (by simp only [forStat, runs, HX2.out, HX3.out, if_neg HC4.out, HX55.out, HX56.out, HX65.out, HX73.out]) ⟨rfl, HR73.out⟩ HP73.out HT73.out (by have := HL2.out; have := HL3.out; have := HL55.out; have := HL56.out; have := HL65.out; have := HL73.out; omega)
end
end Go.Proofs.YtnkejjlidgnkkaaGreatDoor.Ps
namespace Go.Proofs.YtnkejjlidgnkkaaGreatDoor.Ps

open Go.Lib renaming hid → qh
open Go Go.RowKit Go.ChangeShapes Go.WideShapes Go.Shelf
open Go.Proofs.YtnkejjlidgnkkaaGreatDoor.Nd
open Go.Proofs.YtnkejjlidgnkkaaGreatDoor.Lex (Tok tokensL TokReads)
section
variable {T : List Tok} {tv : Value} {P base : Nat} {s : St} {nv : NR}
theorem expr_all (hE : EndT T) : ExprFn T tv P base := fun _ _ _ hw hd hS hop _ _ w h => expr_fn hE hw hd hS hop w h
theorem for_all (hE : EndT T) : ForFn T tv P base := fun _ _ hd _ _ w h hk => for_fn hE hd hk w h
theorem text_is (hE : EndT T) (w : World) (h : PAt T tv P base s nv w) : Calls Tryz.prog 15 #[.pointer (some ⟨P, 0, none⟩)] w (Does T tv P base (textM T) s nv Xn w vInt 0) :=
 text_fn hE (expr_all hE) (for_all hE) w h
end
end Go.Proofs.YtnkejjlidgnkkaaGreatDoor.Ps
