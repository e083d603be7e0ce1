/-
  A part of the proof.
-/
import Derived.Deep.DeepCutAuto
import Derived.Lib.Hide
import Derived.Test.YtnkejjlidgnkkaaGreatDoorClRM
import Derived.Test.YtnkejjlidgnkkaaGreatDoorClRO
set_option maxRecDepth 100000
set_option maxHeartbeats 40000000
namespace Go.Proofs.YtnkejjlidgnkkaaGreatDoor.Ps

open Go.Lib renaming hid → qh
open Go Go.RowKit Go.ChangeShapes Go.WideShapes Go.Shelf
open Go.Proofs.YtnkejjlidgnkkaaGreatDoor.Nd
open Go.Proofs.YtnkejjlidgnkkaaGreatDoor.Lex (Tok tokensL TokReads)
section
variable {T : List Tok} {tv : Value} {P base : Nat} {s : St} {nv : NR} {d : Fns} {L : Int}
theorem expr_fn {binds : Nat} (hE : EndT T) (hw : IntKind.i64.wrap (L + 1) = L + 1) (hd : DFn T tv P base d (L + 1)) (hS : ∀ s nv w, PAt T tv P base s nv w -> Calls Tryz.prog 136 #[.pointer (some ⟨P, 0, none⟩), .int .i64 L] w (Does T tv P base (startExpr T) s nv Xn w vUnit 0)) (hop : ∀ s nv w, PAt T tv P base s nv w -> startsE (tk T s) = true -> Calls Tryz.prog 170 #[.pointer (some ⟨P, 0, none⟩), .int .i64 L] w (Does T tv P base (operandM T d) s nv Xn w vInt 1)) (w : World) (h : PAt T tv P base s nv w) : Calls Tryz.prog 138 #[.pointer (some ⟨P, 0, none⟩), .int .i64 L, .int .i64 (binds : Int)] w (Does T tv P base (exprM T d binds) s nv Xn w vInt 1) := by
 have HLOW := qh h.lows;have HP0 := qh h;have HT0 := qh (show Turn P nv Xn w w nv from Turn.of_below (Below.refl _ _));clear h;go_enter Tryz.func138, Tryz.ntmps138;go_wp2_with fail;refine (hS _ _ _ HP0.out).mono ?_;intro e w1 hd1;rcases hidC HT0 hd1 with ⟨a1, s1, v1, nv1, HX1, rfl, hv1, HP1, HT1, HL1⟩ | ⟨er, l1, nv1, HX1, rfl, HT1⟩;rotate_left
 ·clear hd1;go_wp2_with fail;exact ⟨rfl, does_no (by simp only [exprM, runs, HX1.out]) HT1.out⟩
 obtain rfl : v1 = .tuple #[] := hv1;clear hd1;go_wp2_with fail;refine (hop _ _ _ HP1.out (starts_ok HX1.out)).mono ?_;intro e w2 hd2;rcases hidC HT1 hd2 with ⟨a2, s2, v2, nv2, HX2, rfl, hv2, HP2, HT2, HL2⟩ | ⟨er, l2, nv2, HX2, rfl, HT2⟩;rotate_left
 ·clear hd2;go_wp2_with fail;exact ⟨rfl, does_no (by simp only [exprM, runs, HX1.out, HX2.out]) HT2.out⟩
 obtain ⟨rfl, hr2⟩ : v2 = .int .i64 a2 /\ Rng a2 nv2 := hv2;have HR2 := qh hr2;clear hd2 hr2;go_wp2_with fail;refine (mark_fn _ HP2.out).mono ?_;rintro e w3 ⟨rfl, b⟩;have HP3 := qh (HP2.out.below b);have HT3 := qh (HT2.out.trans (Turn.of_below b));clear b;go_wp2_with fail;refine (operator_is _ _ HP3.out.ops).mono ?_;rintro e w4 ⟨⟨mm, rfl⟩, b⟩;have HP4 := qh (HP3.out.below b);have HT4 := qh (HT3.out.trans (Turn.of_below b));clear b;go_wp2_with fail;have HP5 := qh (HP4.out.below (al w4 (.cells #[.string mm, .int .u8 ((operOf (markOf (tk T s2))).kind : Int), .int .u8 ((operOf (markOf (tk T s2))).op : Int), .int .i64 ((operOf (markOf (tk T s2))).binds : Int)] 159)));have HT5 := qh (HT4.out.trans (Turn.of_below (al w4 (.cells #[.string mm, .int .u8 ((operOf (markOf (tk T s2))).kind : Int), .int .u8 ((operOf (markOf (tk T s2))).op : Int), .int .i64 ((operOf (markOf (tk T s2))).binds : Int)] 159))));have HO := qh (Blk.new (cs := #[.string mm, .int .u8 ((operOf (markOf (tk T s2))).kind : Int), .int .u8 ((operOf (markOf (tk T s2))).op : Int), .int .i64 ((operOf (markOf (tk T s2))).binds : Int)]) (e := 159) HP4.out);have HOS := qh HT4.out.size;go_loopg [7, 8] (T.length + 1) (fun r left op wr => ∃ (f : Nat) (s' : St) (nv' : NR) (a : Int) (B : Nat) (mm : ByteArray), r = f /\ T.length < f + s'.at' /\ PAt T tv P base s' nv' wr /\ Turn P nv Xn w wr nv' /\ (left = .int .i64 a /\ op = .pointer (some ⟨B, 0, none⟩)) /\ Rng a nv' /\ w.heap.size <= B /\ Blk P B (.cells #[.string mm, .int .u8 ((operOf (markOf (tk T s'))).kind : Int), .int .u8 ((operOf (markOf (tk T s'))).op : Int), .int .i64 ((operOf (markOf (tk T s'))).binds : Int)] 159 (0, 0)) nv' wr /\ s.at' + 1 <= s'.at' /\ exprM T d binds s = exprGo T d binds f a s')
 case atStart =>
  exact ⟨T.length + 1, s2, nv2, _, _, mm, rfl, by omega, HP5.out, HT5.out, ⟨rfl, rfl⟩, HR2.out, HOS.out, HO.out, (by have := HL1.out; have := HL2.out; omega), (by simp only [exprM, runs, HX1.out, HX2.out])⟩
 case round =>
  obtain ⟨f6, s6, nv6, a, B, mm, hq6, hf6, hP6, hT6, hte, hrt, hbs, hbk, hl, hm6⟩ := hrel;obtain ⟨f7, rfl⟩ : ∃ k, f6 = k + 1 := ⟨f6 - 1, by have := hP6.here; omega⟩;subst hq6;have HP6 := qh hP6;have HT6 := qh hT6;have HM6 := qh hm6;have HF6 := qh hf6;have HTE := qh hte;have HRT := qh hrt;have HBS := qh hbs;have HBK := qh hbk;have HL := qh hl;clear hP6 hT6 hm6 hf6 hte hrt hbs hbk hl;obtain ⟨hte2, hoe2⟩ := HTE.out;subst hte2 hoe2;clear HTE;have q8 := cell_of HBK.out.at' 0 (.string mm) rfl;have r8 := fun o => cell_up (al wr o) q8
  have q9 := cell_of HBK.out.at' 1 (.int .u8 ((operOf (markOf (tk T s6))).kind : Int)) rfl;have r9 := fun o => cell_up (al wr o) q9
  have q10 := cell_of HBK.out.at' 2 (.int .u8 ((operOf (markOf (tk T s6))).op : Int)) rfl;have r10 := fun o => cell_up (al wr o) q10
  have q11 := cell_of HBK.out.at' 3 (.int .i64 ((operOf (markOf (tk T s6))).binds : Int)) rfl;have r11 := fun o => cell_up (al wr o) q11
  by_cases hc12 : (operOf (markOf (tk T s6))).binds > binds
  ·have HC12 := qh hc12;clear hc12;have hbi : ((operOf (markOf (tk T s6))).binds : Int) > (binds : Int) := by have := HC12.out; omega
   go_upto_block 1 with fail;go_cut [7] (fun v wx => ∃ (a' : Int) (s' : St) (nv' : NR), v = .int .i64 a' /\ exprM T d binds s = exprGo T d binds f7 a' s' /\ Rng a' nv' /\ PAt T tv P base s' nv' wx /\ Turn P nv Xn w wx nv' /\ Blk P B (.cells #[.string mm, .int .u8 ((operOf (markOf (tk T s6))).kind : Int), .int .u8 ((operOf (markOf (tk T s6))).op : Int), .int .i64 ((operOf (markOf (tk T s6))).binds : Int)] 159 (0, 0)) nv' wx /\ T.length < f7 + s'.at' /\ s.at' + 1 <= s'.at')
   case first =>
    go_wp2_with fail;refine (next_do hE _ HP6.out (oper_k HC12.out)).mono ?_;intro e w13 hd13;rcases hidR HT6 hd13 with ⟨a13, s13, v13, nv13, HX13, rfl, hv13, HP13, HT13, hT13, HL13⟩ | ⟨er, l13, nv13, HX13, rfl, HT13⟩;rotate_left
    ·clear hd13;go_wp2_with fail;exact ⟨rfl, does_no (HM6.out.trans (by simp only [exprGo, runs, if_pos HC12.out, HX13.out])) HT13.out⟩
    obtain rfl : v13 = .tuple #[] := hv13;have hbk_13 := qh (HBK.out.turn hT13 no_Xn);have hrt_13 := qh (hT13.rng HRT.out);clear hd13 hT13;have q14 := cell_of hbk_13.out.at' 0 (.string mm) rfl;have r14 := fun o => cell_up (al w13 o) q14
    have q15 := cell_of hbk_13.out.at' 1 (.int .u8 ((operOf (markOf (tk T s6))).kind : Int)) rfl;have r15 := fun o => cell_up (al w13 o) q15
    have q16 := cell_of hbk_13.out.at' 2 (.int .u8 ((operOf (markOf (tk T s6))).op : Int)) rfl;have r16 := fun o => cell_up (al w13 o) q16
    have q17 := cell_of hbk_13.out.at' 3 (.int .i64 ((operOf (markOf (tk T s6))).binds : Int)) rfl;have r17 := fun o => cell_up (al w13 o) q17
    by_cases hc18 : (operOf (markOf (tk T s6))).op = 11
    ·have HC18 := qh hc18;clear hc18;have h11 : (((operOf (markOf (tk T s6))).op : Int) == 11) = true := by have := HC18.out; simp; omega
     have hwb : IntKind.i64.wrap (((operOf (markOf (tk T s6))).binds : Int) - 1) = (((operOf (markOf (tk T s6))).binds - 1 : Nat) : Int) := by have := oper_is (markOf (tk T s6)); have := HC12.out; rw [IntWalk.i64_in _ (by omega)]; omega
     go_wp2_with fail;refine (hd.expr ((operOf (markOf (tk T s6))).binds - 1) _ _ _ HP13.out).mono ?_;intro e w19 hd19;rcases hidR HT13 hd19 with ⟨a19, s19, v19, nv19, HX19, rfl, hv19, HP19, HT19, hT19, HL19⟩ | ⟨er, l19, nv19, HX19, rfl, HT19⟩;rotate_left
     ·clear hd19;go_wp2_with fail;exact ⟨rfl, does_no (HM6.out.trans (by simp only [exprGo, runs, if_pos HC12.out, HX13.out, if_pos HC18.out, HX19.out])) HT19.out⟩
     obtain ⟨rfl, hr19⟩ : v19 = .int .i64 a19 /\ Rng a19 nv19 := hv19;have HR19 := qh hr19;have hbk_19 := qh (hbk_13.out.turn hT19 no_Xn);have hrt_19 := qh (hT19.rng hrt_13.out);clear hd19 hT19 hr19;go_wp2_with fail;obtain ⟨i, n, g, c, hi, hlt, hv, c0, c5⟩ := node_cells HP19.out hrt_19.out;subst hi;obtain ⟨ln, hln⟩ : ∃ ln, (Nd.at' s19.l (i : Int)).line = ln := ⟨_, rfl⟩;rw [hln] at c5;have HLN := qh hln;have hlt' : (i : Int) < (n : Int) := by omega
     have y2 := cell_of (HP19.out).cells 2 nv19.v rfl;rw [hv] at y2;have y2' := fun o => cell_up (al w19 o) y2
     have c5' := fun o => cell_up (al w19 o) c5
     have o1 := cell_of (hbk_19.out).at' 1 (.int .u8 ((operOf (markOf (tk T s6))).kind : Int)) rfl;have o2 := cell_of (hbk_19.out).at' 2 (.int .u8 ((operOf (markOf (tk T s6))).op : Int)) rfl;have o1' := fun o => cell_up (al w19 o) o1
     have o2' := fun o => cell_up (al w19 o) o2
     have hwu : IntKind.i64.wrap (((operOf (markOf (tk T s6))).op : Nat) : Int) = (((operOf (markOf (tk T s6))).op : Nat) : Int) := IntWalk.i64_in _ (by have := (oper_is (markOf (tk T s6))).2.1; omega);have HPd := qh ((HP19.out).below ((Below.refl _ _).drew));have HTd := qh ((HT19.out).trans (Turn.of_below ((Below.refl _ _).drew)));have hbkd := qh ((hbk_19.out).below ((Below.refl _ _).drew));have HADD := qh (calls_nilX (add_kids (b := 0) (n := 2) _ HPd.out ⟨(operOf (markOf (tk T s6))).kind, (operOf (markOf (tk T s6))).op, ⟨#[]⟩, [], [(i : Int), a19], ln⟩ _ _ _ _ (Nat.zero_le _) (Loc.nil _ _ _ _) rfl rfl (by decide) rfl rfl rfl rfl));clear hv c0 hln hlt;refine region_mono (RP := fun ch w' => Does T tv P base (exprM T d binds) s nv Xn w vInt 1 (.panicked ch) w') (fun ch a w hd hr => ⟨hd, hr⟩) (region_e (G := Does T tv P base (add T ⟨(operOf (markOf (tk T s6))).kind, (operOf (markOf (tk T s6))).op, ⟨#[]⟩, [], [(i : Int), a19], ln⟩) s19 nv19 Xn w19.drew vInt 0) hwu hlt' y2 c5 o1 o2 HADD.out ?_ ?_ ?_ ?_)
     ·intro v w20 hG20;rcases does_cases hG20 with ⟨a20, s20, v20, nv20, hx20, he20, hv20, hP20, hT20, hl20⟩ | ⟨er, l20, nv20, hx20, he20, hT20⟩
      ·have HBB20 := hbkd.out.turn hT20 no_Xn;exact ⟨cell_of HBB20.at' 1 (.int .u8 ((operOf (markOf (tk T s6))).kind : Int)) rfl, cell_of HBB20.at' 2 (.int .u8 ((operOf (markOf (tk T s6))).op : Int)) rfl⟩
      ·cases he20
     ·intro e w20 hG20;rcases does_cases hG20 with ⟨a20, s20, v20, nv20, hx20, he20, hv20, hP20, hT20, hl20⟩ | ⟨er, l20, nv20, hx20, he20, hT20⟩
      ·exact .inl ⟨_, he20⟩
      ·exact .inr ⟨_, he20⟩
     ·intro v y0 y1 y2 y3 y4 y5 y6 y7 y8 y9 y10 y11 y12 y13 y14 y15 y16 y17 y18 w20 hG20;rcases does_cases hG20 with ⟨a20, s20, v20, nv20, hx20, he20, hv20, hP20, hT20, hl20⟩ | ⟨er, l20, nv20, hx20, he20, hT20⟩;rotate_left
      ·cases he20
      cases he20;obtain ⟨rfl, hr20⟩ : v = .int .i64 a20 /\ Rng a20 nv20 := hv20;have HR20 := qh hr20; have HX20 := qh hx20; have HBB20 := qh (hbkd.out.turn hT20 no_Xn); have HP20 := qh hP20; have HT20 := qh (HTd.out.trans hT20); have HL20 := qh hl20; clear hG20 hx20 hP20 hT20 hl20 hr20
      go_wp2_with fail;go_meet;exact ⟨_, _, _, rfl, HM6.out.trans (by simp only [exprGo, runs, if_pos HC12.out, HX13.out, if_pos HC18.out, HX19.out, HLN.out, HX20.out]), HR20.out, HP20.out, HT20.out, HBB20.out, (by have := HF6.out; have := HL.out; have := HL13.out; have := HL19.out; have := HL20.out; omega), (by have := HF6.out; have := HL.out; have := HL13.out; have := HL19.out; have := HL20.out; omega)⟩
     ·intro ch w20 hG20;rcases does_cases hG20 with ⟨a20, s20, v20, nv20, hx20, he20, hv20, hP20, hT20, hl20⟩ | ⟨er, l20, nv20, hx20, he20, hT20⟩
      ·cases he20
      ·cases he20;have HX20 := qh hx20;exact does_no (HM6.out.trans (by simp only [exprGo, runs, if_pos HC12.out, HX13.out, if_pos HC18.out, HX19.out, HLN.out, HX20.out])) (HTd.out.trans hT20)
    ·have HC18 := qh hc18;clear hc18;have h11 : (((operOf (markOf (tk T s6))).op : Int) == 11) = false := by have := HC18.out; simp; omega
     go_wp2_with fail;refine (hd.expr ((operOf (markOf (tk T s6))).binds) _ _ _ HP13.out).mono ?_;intro e w21 hd21;rcases hidR HT13 hd21 with ⟨a21, s21, v21, nv21, HX21, rfl, hv21, HP21, HT21, hT21, HL21⟩ | ⟨er, l21, nv21, HX21, rfl, HT21⟩;rotate_left
     ·clear hd21;go_wp2_with fail;exact ⟨rfl, does_no (HM6.out.trans (by simp only [exprGo, runs, if_pos HC12.out, HX13.out, if_neg HC18.out, HX21.out])) HT21.out⟩
     obtain ⟨rfl, hr21⟩ : v21 = .int .i64 a21 /\ Rng a21 nv21 := hv21;have HR21 := qh hr21;have hbk_21 := qh (hbk_13.out.turn hT21 no_Xn);have hrt_21 := qh (hT21.rng hrt_13.out);clear hd21 hT21 hr21;go_wp2_with fail;obtain ⟨i, n, g, c, hi, hlt, hv, c0, c5⟩ := node_cells HP21.out hrt_21.out;subst hi;obtain ⟨ln, hln⟩ : ∃ ln, (Nd.at' s21.l (i : Int)).line = ln := ⟨_, rfl⟩;rw [hln] at c5;have HLN := qh hln;have hlt' : (i : Int) < (n : Int) := by omega
     have y2 := cell_of (HP21.out).cells 2 nv21.v rfl;rw [hv] at y2;have y2' := fun o => cell_up (al w21 o) y2
     have c5' := fun o => cell_up (al w21 o) c5
     have o1 := cell_of (hbk_21.out).at' 1 (.int .u8 ((operOf (markOf (tk T s6))).kind : Int)) rfl;have o2 := cell_of (hbk_21.out).at' 2 (.int .u8 ((operOf (markOf (tk T s6))).op : Int)) rfl;have o1' := fun o => cell_up (al w21 o) o1
     have o2' := fun o => cell_up (al w21 o) o2
     have hwu : IntKind.i64.wrap (((operOf (markOf (tk T s6))).op : Nat) : Int) = (((operOf (markOf (tk T s6))).op : Nat) : Int) := IntWalk.i64_in _ (by have := (oper_is (markOf (tk T s6))).2.1; omega);have HPd := qh ((HP21.out).below ((Below.refl _ _).drew));have HTd := qh ((HT21.out).trans (Turn.of_below ((Below.refl _ _).drew)));have hbkd := qh ((hbk_21.out).below ((Below.refl _ _).drew));have HADD := qh (calls_nilX (add_kids (b := 0) (n := 2) _ HPd.out ⟨(operOf (markOf (tk T s6))).kind, (operOf (markOf (tk T s6))).op, ⟨#[]⟩, [], [(i : Int), a21], ln⟩ _ _ _ _ (Nat.zero_le _) (Loc.nil _ _ _ _) rfl rfl (by decide) rfl rfl rfl rfl));clear hv c0 hln hlt;refine region_mono (RP := fun ch w' => Does T tv P base (exprM T d binds) s nv Xn w vInt 1 (.panicked ch) w') (fun ch a w hd hr => ⟨hd, hr⟩) (region_e (G := Does T tv P base (add T ⟨(operOf (markOf (tk T s6))).kind, (operOf (markOf (tk T s6))).op, ⟨#[]⟩, [], [(i : Int), a21], ln⟩) s21 nv21 Xn w21.drew vInt 0) hwu hlt' y2 c5 o1 o2 HADD.out ?_ ?_ ?_ ?_)
     ·intro v w22 hG22;rcases does_cases hG22 with ⟨a22, s22, v22, nv22, hx22, he22, hv22, hP22, hT22, hl22⟩ | ⟨er, l22, nv22, hx22, he22, hT22⟩
      ·have HBB22 := hbkd.out.turn hT22 no_Xn;exact ⟨cell_of HBB22.at' 1 (.int .u8 ((operOf (markOf (tk T s6))).kind : Int)) rfl, cell_of HBB22.at' 2 (.int .u8 ((operOf (markOf (tk T s6))).op : Int)) rfl⟩
      ·cases he22
     ·intro e w22 hG22;rcases does_cases hG22 with ⟨a22, s22, v22, nv22, hx22, he22, hv22, hP22, hT22, hl22⟩ | ⟨er, l22, nv22, hx22, he22, hT22⟩
      ·exact .inl ⟨_, he22⟩
      ·exact .inr ⟨_, he22⟩
     ·intro v y0 y1 y2 y3 y4 y5 y6 y7 y8 y9 y10 y11 y12 y13 y14 y15 y16 y17 y18 w22 hG22;rcases does_cases hG22 with ⟨a22, s22, v22, nv22, hx22, he22, hv22, hP22, hT22, hl22⟩ | ⟨er, l22, nv22, hx22, he22, hT22⟩;rotate_left
      ·cases he22
      cases he22;obtain ⟨rfl, hr22⟩ : v = .int .i64 a22 /\ Rng a22 nv22 := hv22;have HR22 := qh hr22; have HX22 := qh hx22; have HBB22 := qh (hbkd.out.turn hT22 no_Xn); have HP22 := qh hP22; have HT22 := qh (HTd.out.trans hT22); have HL22 := qh hl22; clear hG22 hx22 hP22 hT22 hl22 hr22
      go_wp2_with fail;go_meet;exact ⟨_, _, _, rfl, HM6.out.trans (by simp only [exprGo, runs, if_pos HC12.out, HX13.out, if_neg HC18.out, HX21.out, HLN.out, HX22.out]), HR22.out, HP22.out, HT22.out, HBB22.out, (by have := HF6.out; have := HL.out; have := HL13.out; have := HL21.out; have := HL22.out; omega), (by have := HF6.out; have := HL.out; have := HL13.out; have := HL21.out; have := HL22.out; omega)⟩
     ·intro ch w22 hG22;rcases does_cases hG22 with ⟨a22, s22, v22, nv22, hx22, he22, hv22, hP22, hT22, hl22⟩ | ⟨er, l22, nv22, hx22, he22, hT22⟩
      ·cases he22
      ·cases he22;have HX22 := qh hx22;exact does_no (HM6.out.trans (by simp only [exprGo, runs, if_pos HC12.out, HX13.out, if_neg HC18.out, HX21.out, HLN.out, HX22.out])) (HTd.out.trans hT22)
   case rest =>
    obtain ⟨ac, sc, nvc, rfl, hxc, hrc, hPc, hTc, hBc, hfc, hlc⟩ := hcut;have HXC := qh hxc;have HRC := qh hrc;have HPC := qh hPc;have HTC := qh hTc;have HBC := qh hBc;have HFC := qh hfc;have HLC := qh hlc;clear hxc hrc hPc hTc hBc hfc hlc;have q23 := cell_of HBC.out.at' 0 (.string mm) rfl;have r23 := fun o => cell_up (al wc o) q23
    have q24 := cell_of HBC.out.at' 1 (.int .u8 ((operOf (markOf (tk T s6))).kind : Int)) rfl;have r24 := fun o => cell_up (al wc o) q24
    have q25 := cell_of HBC.out.at' 2 (.int .u8 ((operOf (markOf (tk T s6))).op : Int)) rfl;have r25 := fun o => cell_up (al wc o) q25
    have q26 := cell_of HBC.out.at' 3 (.int .i64 ((operOf (markOf (tk T s6))).binds : Int)) rfl;have r26 := fun o => cell_up (al wc o) q26
    go_wp2_with fail;have HP27 := qh (HPC.out.below (al wc (.cells #[.string mm, .int .u8 ((operOf (markOf (tk T s6))).kind : Int), .int .u8 ((operOf (markOf (tk T s6))).op : Int), .int .i64 ((operOf (markOf (tk T s6))).binds : Int)] 159)));have HT27 := qh (HTC.out.trans (Turn.of_below (al wc (.cells #[.string mm, .int .u8 ((operOf (markOf (tk T s6))).kind : Int), .int .u8 ((operOf (markOf (tk T s6))).op : Int), .int .i64 ((operOf (markOf (tk T s6))).binds : Int)] 159))));have HQ := qh (Blk.new (cs := #[.string mm, .int .u8 ((operOf (markOf (tk T s6))).kind : Int), .int .u8 ((operOf (markOf (tk T s6))).op : Int), .int .i64 ((operOf (markOf (tk T s6))).binds : Int)]) (e := 159) HPC.out);have HQS := qh HTC.out.size;have hbk_27 := qh (HBC.out.below (al wc (.cells #[.string mm, .int .u8 ((operOf (markOf (tk T s6))).kind : Int), .int .u8 ((operOf (markOf (tk T s6))).op : Int), .int .i64 ((operOf (markOf (tk T s6))).binds : Int)] 159)));refine (mark_fn _ HP27.out).mono ?_;rintro e w28 ⟨rfl, b⟩;have HP28 := qh (HP27.out.below b);have HT28 := qh (HT27.out.trans (Turn.of_below b));have hbk_28 := qh (hbk_27.out.below b);have HQ_28 := qh (HQ.out.below b);clear b;go_wp2_with fail;refine (operator_is _ _ HP28.out.ops).mono ?_;rintro e w29 ⟨⟨mm, rfl⟩, b⟩;have HP29 := qh (HP28.out.below b);have HT29 := qh (HT28.out.trans (Turn.of_below b));have hbk_29 := qh (hbk_28.out.below b);have HQ_29 := qh (HQ_28.out.below b);clear b;have q30 := cell_of HQ_29.out.at' 0 (_) rfl;have r30 := fun o => cell_up (al w29 o) q30
    have q31 := cell_of HQ_29.out.at' 1 (.int .u8 ((operOf (markOf (tk T s6))).kind : Int)) rfl;have r31 := fun o => cell_up (al w29 o) q31
    have q32 := cell_of HQ_29.out.at' 2 (.int .u8 ((operOf (markOf (tk T s6))).op : Int)) rfl;have r32 := fun o => cell_up (al w29 o) q32
    have q33 := cell_of HQ_29.out.at' 3 (.int .i64 ((operOf (markOf (tk T s6))).binds : Int)) rfl;have r33 := fun o => cell_up (al w29 o) q33
    have g34 := free_of HQ_29.out.at' 0;have g35 := free_of HQ_29.out.at' 1;have g36 := free_of HQ_29.out.at' 2;have g37 := free_of HQ_29.out.at' 3;go_wp2_with fail;have HP38 := qh (HP29.out.store (j := 0) (u := .string mm) HQ_29.out HLOW.out HQS.out (by decide) (by decide));have HT38 := qh (HT29.out.store (j := 0) (u := .string mm) HQS.out);have HQ_38 := qh (HQ_29.out.set (j := 0) (.string mm));have HP39 := qh (HP38.out.store (j := 1) (u := .int .u8 ((operOf (markOf (tk T sc))).kind : Int)) HQ_38.out HLOW.out HQS.out (by decide) (by decide));have HT39 := qh (HT38.out.store (j := 1) (u := .int .u8 ((operOf (markOf (tk T sc))).kind : Int)) HQS.out);have HQ_39 := qh (HQ_38.out.set (j := 1) (.int .u8 ((operOf (markOf (tk T sc))).kind : Int)));have HP40 := qh (HP39.out.store (j := 2) (u := .int .u8 ((operOf (markOf (tk T sc))).op : Int)) HQ_39.out HLOW.out HQS.out (by decide) (by decide));have HT40 := qh (HT39.out.store (j := 2) (u := .int .u8 ((operOf (markOf (tk T sc))).op : Int)) HQS.out);have HQ_40 := qh (HQ_39.out.set (j := 2) (.int .u8 ((operOf (markOf (tk T sc))).op : Int)));have HP41 := qh (HP40.out.store (j := 3) (u := .int .i64 ((operOf (markOf (tk T sc))).binds : Int)) HQ_40.out HLOW.out HQS.out (by decide) (by decide));have HT41 := qh (HT40.out.store (j := 3) (u := .int .i64 ((operOf (markOf (tk T sc))).binds : Int)) HQS.out);have HQ_41 := qh (HQ_40.out.set (j := 3) (.int .i64 ((operOf (markOf (tk T sc))).binds : Int)));go_wp2_with fail;go_roundg f7
    case measure => omega
    case rel => exact ⟨f7, sc, nvc, _, _, mm, rfl, (by have := HFC.out; have := HLC.out; omega), HP41.out, HT41.out, ⟨rfl, rfl⟩, HRC.out, HQS.out, HQ_41.out, (by have := HFC.out; have := HLC.out; omega), (HXC.out)⟩
  ·have HC12 := qh hc12;clear hc12;have hbi : ¬ ((operOf (markOf (tk T s6))).binds : Int) > (binds : Int) := by have := HC12.out; omega
   go_wp2_with fail;go_ret;exact does_ok (a := a) (s' := s6) (HM6.out.trans (by simp only [exprGo, runs, if_neg HC12.out])) ⟨rfl, HRT.out⟩ HP6.out HT6.out (by have := HF6.out; have := HL.out; omega)
end
end Go.Proofs.YtnkejjlidgnkkaaGreatDoor.Ps
namespace Go.Proofs.YtnkejjlidgnkkaaGreatDoor.Ps

open Go.Lib renaming hid → qh
open List renaming getElem_toArray → ja, getElem_cons_succ → jb, getElem_cons_zero → jc, setIfInBounds_toArray → jd, set_cons_zero → je, set_cons_succ → jf
open Go Go.RowKit Go.ChangeShapes Go.WideShapes Go.Shelf
open Go.Proofs.YtnkejjlidgnkkaaGreatDoor.Nd
open Go.Proofs.YtnkejjlidgnkkaaGreatDoor.Lex (Tok tokensL TokReads)
noncomputable def forReg : Code := ((Tryz.f118.body).bind (findReg 9)).getD .skip
theorem wp_append_run {P : Program} {o : Go.Oper} {a : Act} {w w2 : World} {K : Act -> World -> Prop} {Q : Exit -> Act -> World -> Prop} {x y : Operand} {t ty : TypeId} {u v v2 : Value} (hr : (Builtin.append_ #[t, t] ty #[u, v]).run P w = .ok v2 w2)
  (ho : o = { dst := o.dst, op := .call { callee := .builtin .append, args := #[x, y], argTypes := #[t, t] }, type := ty, pos := o.pos, after := o.after, guard := o.guard }) (hx : a.eval x = u) (hy : a.eval y = v) (hK : K (a.put o.dst v2) w2) : o.wp P a w K Q := by
 unfold Oper.wp execOp;have e1 : o.op = .call { callee := .builtin .append, args := #[x, y], argTypes := #[t, t] } := by rw [ho]
 have e2 : o.type = ty := by rw [ho]
 simp only [e1, e2, resolve, invoke, builtin, Sem.run_bind, Sem.run_pure, Result.andThen_ok, List.map_toArray, List.map_cons, List.map_nil, hx, hy, hr];exact hK
theorem region_f {Q : Exit -> Act -> World -> Prop} {RP : List PanicEntry -> World -> Prop} {G : Ending -> World -> Prop} {H : Int -> Value -> World -> World -> Prop} {p2 p3 p4 p5 p7 p8 p9 p10 p11 p12 p13 p14 p15 p16 p17 p18 p19 p20 p21 p22 p23 p24 p25 p26 p27 p28 p29 p30 p31 p32 p33 p34 p35 p36 p37 p38 p39 p40 p41 p42 p43 p44 : Value} {w : World} {P B : Nat} {L : Int} {ak : Option Addr} {nk ck : Nat}
  (y4 : w.cell? ⟨B, 4, none⟩ = some (.slice ak nk ck))
  (hdo : Calls Tryz.prog 139 #[.pointer (some ⟨P, 0, none⟩), .int .i64 L] w.drew G)
  (hGS : ∀ v w', G (.returned v) w' -> ∃ (b : Int) (a2 : Option Addr) (n2 c2 : Nat) (w2 : World), v = .int .i64 b /\ w'.cell? ⟨B, 4, none⟩ = some (.slice ak nk ck) /\ (w'.alloc (.cells #[.int .i64 b] 3)).cell? ⟨B, 4, none⟩ = some (.slice ak nk ck) /\ (Builtin.append_ #[33, 33] 33 #[.slice ak nk ck, .slice (some ⟨w'.heap.size, 0, none⟩) 1 1]).run Tryz.prog (w'.alloc (.cells #[.int .i64 b] 3)) = .ok (.slice a2 n2 c2) w2 /\ w2.cell? ⟨B, 4, none⟩ = some (.slice ak nk ck) /\ w2.frozen? ⟨B, 4, none⟩ = false /\ H b (.slice a2 n2 c2) w' w2)
  (hout : ∀ e w', G e w' -> (∃ v, e = .returned v) \/ ∃ ch, e = .panicked ch)
  (hQ : ∀ (b : Int) (v2 : Value) (w' w2 : World) (y34 y35 y36 y37 y38 y39 y40 y41 : Value), G (.returned (.int .i64 b)) w' -> H b v2 w' w2 -> Q .normal ⟨#[.pointer (some ⟨P, 0, none⟩), .int .i64 L, p2, p3, p4, p5, .pointer (some ⟨B, 0, none⟩), p7, p8, p9, p10, p11, p12, p13, p14, p15, p16, p17, p18, p19, p20, p21, p22, p23, p24, p25, p26, p27, p28, p29, p30, p31, p32, p33, y34, y35, y36, y37, y38, y39, y40, y41, p42, p43, p44], []⟩ (w2.setCell ⟨B, 4, none⟩ v2))
  (hP : ∀ (ch : List PanicEntry) (w' : World), G (.panicked ch) w' -> RP ch w') :
  Code.wp Tryz.prog forReg (QP Q RP) ⟨#[.pointer (some ⟨P, 0, none⟩), .int .i64 L, p2, p3, p4, p5, .pointer (some ⟨B, 0, none⟩), p7, p8, p9, p10, p11, p12, p13, p14, p15, p16, p17, p18, p19, p20, p21, p22, p23, p24, p25, p26, p27, p28, p29, p30, p31, p32, p33, p34, p35, p36, p37, p38, p39, p40, p41, p42, p43, p44], []⟩ w := by
 conv => arg 2; whnf
 have hmx : Tryz.prog.follows .mixedOrders = true := by kernel_rfl
 refine wp_region_held_drew (S := fun _ => True) hmx trivial (fun hS => ?_);refine wpAnyH_take (i := 0) (v := .pointer (some ⟨B, 4, none⟩)) rfl (by kernel_rfl) (by kernel_rfl) (by kernel_rfl) (fun _ _ _ h => h) (.inl ⟨by rfl, fun w' hs => ?_⟩) hS ?_
 ·clear hs;go_simp
 simp only [ja, jc, Act.put, jd, je, jf];refine wpAnyH_take (i := 2) (v := .pointer (some ⟨P, 0, none⟩)) rfl (by kernel_rfl) (by kernel_rfl) (by kernel_rfl) (fun _ _ _ h => h) (.inl ⟨by rfl, fun w' hs => ?_⟩) hS ?_
 ·clear hs;go_simp
 simp only [ja, jb, jc, Act.put, jd, je, jf];refine wpAnyH_take (i := 3) (v := .int .i64 L) rfl (by kernel_rfl) (by kernel_rfl) (by kernel_rfl) (fun _ _ _ h => h) (.inl ⟨by rfl, fun w' hs => ?_⟩) hS ?_
 ·clear hs;go_simp
 simp only [ja, jb, jc, Act.put, jd, je, jf];refine wpAnyH_ready (rs := [1, 4]) (by kernel_rfl) (by simp) (AllReadyH.cons rfl (fun K hK => ?_) (AllReadyH.cons rfl (fun K hK => ?_) (AllReadyH.nil)))
 ·skip
  go_simp;refine hK.out _ _ trivial (fun hS => ?_);clear hK;refine wpAnyH_ready (rs := [4]) (by kernel_rfl) (by simp) (AllReadyH.cons rfl (fun K hK => ?_) (AllReadyH.nil));go_simp;refine hdo.mono ?_;intro e w1 hG;rcases hout e w1 hG with ⟨v, rfl⟩ | ⟨ch, rfl⟩;rotate_left
  ·exact And.intro rfl (hP ch w1 hG)
  obtain ⟨b, a2, n2, c2, w2, rfl, z4, z4', hrun, u4, uf, hH⟩ := hGS v w1 hG;refine hK.out _ _ trivial (fun hS => ?_);clear hK;refine wpAnyH_ready (rs := [5]) (by kernel_rfl) (by simp) (AllReadyH.cons rfl (fun K hK => ?_) (AllReadyH.nil));go_simp;refine hK.out _ _ trivial (fun hS => ?_);clear hK;refine wpAnyH_ready (rs := [6]) (by kernel_rfl) (by simp) (AllReadyH.cons rfl (fun K hK => ?_) (AllReadyH.nil));have hrun2 := hrun;refine wp_append_run hrun2 rfl rfl rfl ?_;refine hK.out _ _ trivial (fun hS => ?_);clear hK;refine wpAnyH_take (i := 7) (v := .pointer (some ⟨B, 4, none⟩)) rfl (by kernel_rfl) (by kernel_rfl) (by kernel_rfl) (fun _ _ _ h => h) (.inl ⟨by rfl, fun w' hs => ?_⟩) hS ?_
  ·clear hs;go_simp
  simp only [ja, jb, jc, Act.put, jd, je, jf];refine wpAnyH_ready (rs := [8]) (by kernel_rfl) (by simp) (AllReadyH.cons rfl (fun K hK => ?_) (AllReadyH.nil));go_simp;refine hK.out _ _ trivial (fun hS => ?_);clear hK;refine wpAnyH_done (by kernel_rfl) ?_ _
  show Q _ _ _;exact hQ _ _ _ _ _ _ _ _ _ _ _ _ hG hH
 ·skip
  go_simp;refine hdo.mono ?_;intro e w1 hG;rcases hout e w1 hG with ⟨v, rfl⟩ | ⟨ch, rfl⟩;rotate_left
  ·exact And.intro rfl (hP ch w1 hG)
  obtain ⟨b, a2, n2, c2, w2, rfl, z4, z4', hrun, u4, uf, hH⟩ := hGS v w1 hG;refine hK.out _ _ trivial (fun hS => ?_);clear hK;refine wpAnyH_ready (rs := [1, 5]) (by kernel_rfl) (by simp) (AllReadyH.cons rfl (fun K hK => ?_) (AllReadyH.cons rfl (fun K hK => ?_) (AllReadyH.nil)))
  ·skip
   go_simp;refine hK.out _ _ trivial (fun hS => ?_);clear hK;refine wpAnyH_ready (rs := [5]) (by kernel_rfl) (by simp) (AllReadyH.cons rfl (fun K hK => ?_) (AllReadyH.nil));go_simp;refine hK.out _ _ trivial (fun hS => ?_);clear hK;refine wpAnyH_ready (rs := [6]) (by kernel_rfl) (by simp) (AllReadyH.cons rfl (fun K hK => ?_) (AllReadyH.nil));have hrun2 := hrun;refine wp_append_run hrun2 rfl rfl rfl ?_;refine hK.out _ _ trivial (fun hS => ?_);clear hK;refine wpAnyH_take (i := 7) (v := .pointer (some ⟨B, 4, none⟩)) rfl (by kernel_rfl) (by kernel_rfl) (by kernel_rfl) (fun _ _ _ h => h) (.inl ⟨by rfl, fun w' hs => ?_⟩) hS ?_
   ·clear hs;go_simp
   simp only [ja, jb, jc, Act.put, jd, je, jf];refine wpAnyH_ready (rs := [8]) (by kernel_rfl) (by simp) (AllReadyH.cons rfl (fun K hK => ?_) (AllReadyH.nil));go_simp;refine hK.out _ _ trivial (fun hS => ?_);clear hK;refine wpAnyH_done (by kernel_rfl) ?_ _
   show Q _ _ _;exact hQ _ _ _ _ _ _ _ _ _ _ _ _ hG hH
  ·skip
   go_simp;refine hK.out _ _ trivial (fun hS => ?_);clear hK;refine wpAnyH_ready (rs := [1]) (by kernel_rfl) (by simp) (AllReadyH.cons rfl (fun K hK => ?_) (AllReadyH.nil));go_simp;refine hK.out _ _ trivial (fun hS => ?_);clear hK;refine wpAnyH_ready (rs := [6]) (by kernel_rfl) (by simp) (AllReadyH.cons rfl (fun K hK => ?_) (AllReadyH.nil));have hrun2 := hrun;refine wp_append_run hrun2 rfl rfl rfl ?_;refine hK.out _ _ trivial (fun hS => ?_);clear hK;refine wpAnyH_take (i := 7) (v := .pointer (some ⟨B, 4, none⟩)) rfl (by kernel_rfl) (by kernel_rfl) (by kernel_rfl) (fun _ _ _ h => h) (.inl ⟨by rfl, fun w' hs => ?_⟩) hS ?_
   ·clear hs;go_simp
   simp only [ja, jb, jc, Act.put, jd, je, jf];refine wpAnyH_ready (rs := [8]) (by kernel_rfl) (by simp) (AllReadyH.cons rfl (fun K hK => ?_) (AllReadyH.nil));go_simp;refine hK.out _ _ trivial (fun hS => ?_);clear hK;refine wpAnyH_done (by kernel_rfl) ?_ _
   show Q _ _ _;exact hQ _ _ _ _ _ _ _ _ _ _ _ _ hG hH
section
variable {T : List Tok} {tv : Value} {P base : Nat} {s : St} {nv : NR}
theorem append_run {w : World} (h : PAt T tv P base s nv w) {b : Nat} (hlow : Low tv P b) (hb : b <= w.heap.size) {kv : Value} {ks : List Int} (k : Int) (L : Loc w b nv 3 kv (intsV ks)) (hl : ks.length <= 1000000) :
  ∃ v2 w2, (Builtin.append_ #[33, 33] 33 #[kv, .slice (some ⟨w.heap.size, 0, none⟩) 1 1]).run Tryz.prog (w.alloc (.cells #[.int .i64 k] 3)) = .ok v2 w2 /\ Loc w2 b nv 3 v2 (intsV (ks ++ [k])) /\ PAt T tv P base s nv w2 /\ Turn P nv (Xv kv) w w2 nv := by
 obtain ⟨i, hi, hz, hsize, hby⟩ := info_parts infoI;have hal := al w (.cells #[.int .i64 k] 3);have L1 := L.below hal;have hn : (intsV ks).length = ks.length := ints_len ks;obtain ⟨v2, w2, hr, h1, h2, _, h4⟩ := run_append_own_at (P := Tryz.prog) (w.alloc (.cells #[.int .i64 k] 3)) b 33 33 3 i _ 1 8 Tryz.underlying33 hi hz hsize hby rfl (by decide) kv (intsV ks).length (intsV ks) L1.own ⟨w.heap.size, 0, none⟩ 1 1 [.int .i64 k] rfl (cell_one_new _ _ _) (fun u hu => by simp at hu; subst hu; rfl) (by unfold maxLen; omega) (by omega) (by simp; omega);have hP1 := h.below hal;have h4' : v2.ownBlock = kv.ownBlock \/ ∃ g, v2.ownBlock = some g /\ (w.alloc (.cells #[.int .i64 k] 3)).heap.size <= g := by
  rcases h4 with e | e
  ·exact .inl e
  ·exact .inr ⟨_, e, Nat.le_refl _⟩
 refine ⟨v2, w2, hr, ?_, hP1.grown L1 hlow (by decide) h2, (Turn.of_below hal).trans' (Turn.grown h2) fun _ hi => .inl hi⟩;have := loc_more (ys := [.int .i64 k]) hP1 L1 h1 h4';unfold intsV at this ⊢;rw [List.map_append];exact this
end
end Go.Proofs.YtnkejjlidgnkkaaGreatDoor.Ps
