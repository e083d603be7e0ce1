/-
  A part of the proof.
-/
import Derived.Lib.Hide
import Derived.Test.YtnkejjlidgnkkaaGreatDoorClRK
set_option maxRecDepth 100000
set_option maxHeartbeats 40000000
namespace Go.Proofs.YtnkejjlidgnkkaaGreatDoor.Ps

open Go.Lib renaming hid → qh
open Go Go.RowKit Go.ChangeShapes Go.WideShapes Go.Shelf
open Go.Proofs.YtnkejjlidgnkkaaGreatDoor.Nd
open Go.Proofs.YtnkejjlidgnkkaaGreatDoor.Lex (Tok tokensL TokReads)
section
variable {T : List Tok} {tv : Value} {P base : Nat} {s : St} {nv : NR} {d : Fns} {L : Int}
theorem local_do (hE : EndT T) (hd : DFn T tv P base d L) (hk : (tk T s).k ≠ 6) (w : World) (h : PAt T tv P base s nv w) : Calls Tryz.prog 120 #[.pointer (some ⟨P, 0, none⟩), .int .i64 L] w (Does T tv P base (localStat T d) s nv Xn w vInt 1) := by
 have HLOW := qh h.lows;have HP0 := qh h;have HT0 := qh (show Turn P nv Xn w w nv from Turn.of_below (Below.refl _ _));clear h;go_enter Tryz.func120, Tryz.ntmps120;go_wp2_with fail;refine (line_fn _ HP0.out).mono ?_;rintro e w1 ⟨rfl, b⟩;have HP1 := qh (HP0.out.below b);have HT1 := qh (HT0.out.trans (Turn.of_below b));clear b;go_wp2_with fail;refine (next_do hE _ HP1.out hk).mono ?_;intro e w2 hd2;rcases hidC HT1 hd2 with ⟨a2, s2, v2, nv2, HX2, rfl, hv2, HP2, HT2, HL2⟩ | ⟨er, l2, nv2, HX2, rfl, HT2⟩;rotate_left
 ·clear hd2;go_wp2_with fail;exact ⟨rfl, does_no (by simp only [localStat_eq, runs, HX2.out]) HT2.out⟩
 obtain rfl : v2 = .tuple #[] := hv2;clear hd2;by_cases hc3 : markOf (tk T s2) = wFunction
 ·have bc3 := w_t [102, 117, 110, 99, 116, 105, 111, 110] hc3;have nc3 := wn_t [102, 117, 110, 99, 116, 105, 111, 110] hc3;have HC3 := qh hc3;clear hc3;go_wp2_with fail;refine (mark_fn _ HP2.out).mono ?_;rintro e w4 ⟨rfl, b⟩;have HP4 := qh (HP2.out.below b);have HT4 := qh (HT2.out.trans (Turn.of_below b));clear b;go_wp2_with fail;refine (localFunction_do hE hd (mark_no HC3.out (by decide)) _ HP4.out).mono ?_;intro e w5 hd5;rcases hidC HT4 hd5 with ⟨a5, s5, v5, nv5, HX5, rfl, hv5, HP5, HT5, HL5⟩ | ⟨er, l5, nv5, HX5, rfl, HT5⟩;rotate_left
  ·clear hd5;go_wp2_with fail;exact ⟨rfl, does_no (by simp only [localStat_eq, runs, HX2.out, if_pos HC3.out, HX5.out]) HT5.out⟩
  obtain ⟨rfl, hr5⟩ : v5 = .int .i64 a5 /\ Rng a5 nv5 := hv5;have HR5 := qh hr5;clear hd5 hr5;go_wp2_with fail;go_ret;exact does_ok (a := a5) (s' := s5) (by simp only [localStat_eq, runs, HX2.out, if_pos HC3.out, HX5.out]) ⟨rfl, HR5.out⟩ HP5.out HT5.out (by have := HL2.out; have := HL5.out; omega)
 ·have bc3 := w_f [102, 117, 110, 99, 116, 105, 111, 110] hc3;have nc3 := wn_f [102, 117, 110, 99, 116, 105, 111, 110] hc3;have HC3 := qh hc3;clear hc3;go_wp2_with fail;refine (mark_fn _ HP2.out).mono ?_;rintro e w6 ⟨rfl, b⟩;have HP6 := qh (HP2.out.below b);have HT6 := qh (HT2.out.trans (Turn.of_below b));clear b;go_wp2_with fail;refine (names_do hE _ HP6.out).mono ?_;intro e w7 hd7;rcases hidC HT6 hd7 with ⟨a7, s7, v7, nv7, HX7, rfl, hv7, HP7, HT7, HL7⟩ | ⟨er, l7, nv7, HX7, rfl, HT7⟩;rotate_left
  ·clear hd7;go_wp2_with fail;exact ⟨rfl, does_no (by simp only [localStat_eq, runs, HX2.out, if_neg HC3.out, HX7.out]) HT7.out⟩
  obtain ⟨hv7, ho7, hn7⟩ := hv7;obtain ⟨ao7, co7, rfl⟩ := loc_is hv7 (texts_len _);have HV7 := qh hv7;have HO7 := qh ho7;have HN7 := qh hn7;clear hd7 hv7 ho7 hn7;have HNM := qh (HV7.out.base HT6.out.size);go_wp2_with fail;have HP8 := qh (HP7.out.below (al w7 (.cells #[.int .u8 2, .int .i64 0, .string ⟨#[]⟩, .slice ao7 a7.length co7, .slice none 0 0, .int .i64 ((tk T s).line : Int)] 35)));have HT8 := qh (HT7.out.trans (Turn.of_below (al w7 (.cells #[.int .u8 2, .int .i64 0, .string ⟨#[]⟩, .slice ao7 a7.length co7, .slice none 0 0, .int .i64 ((tk T s).line : Int)] 35))));have HB := qh (Blk.new (cs := #[.int .u8 2, .int .i64 0, .string ⟨#[]⟩, .slice ao7 a7.length co7, .slice none 0 0, .int .i64 ((tk T s).line : Int)]) (e := 35) HP7.out);have HBS := qh HT7.out.size;have HNM_8 := qh (HNM.out.below (al w7 (.cells #[.int .u8 2, .int .i64 0, .string ⟨#[]⟩, .slice ao7 a7.length co7, .slice none 0 0, .int .i64 ((tk T s).line : Int)] 35)));by_cases hc9 : markOf (tk T s7) = wEq
  ·have HC9 := qh hc9;clear hc9;refine (accept_y hE _ HP8.out HC9.out (by decide)).mono ?_;intro e w10 hd10;rcases hidR HT8 hd10 with ⟨a10, s10, v10, nv10, HX10, rfl, hv10, HP10, HT10, hT10, HL10⟩ | ⟨er, l10, nv10, HX10, rfl, HT10⟩;rotate_left
   ·clear hd10;go_wp2_with fail;exact ⟨rfl, does_no (by simp only [localStat_eq, runs, HX2.out, if_neg HC3.out, HX7.out, HX10.out]) HT10.out⟩
   obtain ⟨rfl, rfl⟩ := hv10;have HNM_10 := qh (HNM_8.out.turn HP8.out hT10 not_none (by decide) (by decide));have HB_10 := qh (HB.out.turn hT10 no_Xn);clear hd10 hT10;go_wp2_with fail;refine (hd.exprs _ _ _ HP10.out).mono ?_;intro e w11 hd11;rcases hidR HT10 hd11 with ⟨a11, s11, v11, nv11, HX11, rfl, hv11, HP11, HT11, hT11, HL11⟩ | ⟨er, l11, nv11, HX11, rfl, HT11⟩;rotate_left
   ·clear hd11;go_wp2_with fail;exact ⟨rfl, does_no (by simp only [localStat_eq, runs, HX2.out, if_neg HC3.out, HX7.out, HX10.out, HX11.out]) HT11.out⟩
   obtain ⟨ao11, co11, rfl⟩ := loc_is hv11 (ints_len _);have HV11 := qh (Loc.base hv11 HT10.out.size);have HNM_11 := qh (HNM_10.out.turn HP10.out hT11 not_none (by decide) (by decide));have HB_11 := qh (HB_10.out.turn hT11 no_Xn);clear hd11 hT11 hv11;have q12 := cell_of HB_11.out.at' 0 (.int .u8 2) rfl;have r12 := fun o => cell_up (al w11 o) q12
   have q13 := cell_of HB_11.out.at' 1 (.int .i64 0) rfl;have r13 := fun o => cell_up (al w11 o) q13
   have q14 := cell_of HB_11.out.at' 2 (.string ⟨#[]⟩) rfl;have r14 := fun o => cell_up (al w11 o) q14
   have q15 := cell_of HB_11.out.at' 3 (.slice ao7 a7.length co7) rfl;have r15 := fun o => cell_up (al w11 o) q15
   have q16 := cell_of HB_11.out.at' 4 (.slice none 0 0) rfl;have r16 := fun o => cell_up (al w11 o) q16
   have q17 := cell_of HB_11.out.at' 5 (.int .i64 ((tk T s).line : Int)) rfl;have r17 := fun o => cell_up (al w11 o) q17
   have g18 := free_of HB_11.out.at' 4;go_wp2_with fail;have HP19 := qh (HP11.out.store (j := 4) (u := .slice ao11 a11.length co11) HB_11.out HLOW.out HBS.out (by decide) (by decide));have HT19 := qh (HT11.out.store (j := 4) (u := .slice ao11 a11.length co11) HBS.out);have HNM_19 := qh (HNM_11.out.store (j := 4) (u := .slice ao11 a11.length co11) HB_11.out (by decide));have HK_19 := qh (HV11.out.store (j := 4) (u := .slice ao11 a11.length co11) HB_11.out (by decide));have HB_19 := qh (HB_11.out.set (j := 4) (.slice ao11 a11.length co11));refine (add_do _ HP19.out ⟨2, 0, ⟨#[]⟩, a7, a11, ((tk T s).line : Nat)⟩ _ _ _ _ HNM_19.out HK_19.out rfl rfl rfl rfl).mono ?_;intro e w20 hd20;rcases does_cases hd20 with ⟨a20, s20, v20, nv20, hx20, rfl, hv20, hP20, hT20, hl20⟩ | ⟨er, l20, nv20, hx20, rfl, hT20⟩;rotate_left
   ·have HX20 := qh hx20;have HT20 := qh (HT19.out.trans' hT20 (fun i hi => hi.elim (own_above HNM_19.out i) (own_above HK_19.out i)));clear hd20 hx20 hT20;go_wp2_with fail;exact ⟨rfl, does_no (by simp only [localStat_eq, runs, HX2.out, if_neg HC3.out, HX7.out, HX10.out, HX11.out, HX20.out]) HT20.out⟩
   obtain ⟨rfl, hr20⟩ : v20 = .int .i64 a20 /\ Rng a20 nv20 := hv20;have HR20 := qh hr20;have HX20 := qh hx20;have HP20 := qh hP20;have HT20 := qh (HT19.out.trans' hT20 (fun i hi => hi.elim (own_above HNM_19.out i) (own_above HK_19.out i)));have HL20 := qh hl20;clear hd20 hx20 hP20 hT20 hl20 hr20;go_wp2_with fail;go_ret;exact does_ok (a := a20) (s' := s20) (by simp only [localStat_eq, runs, HX2.out, if_neg HC3.out, HX7.out, HX10.out, HX11.out, HX20.out]) ⟨rfl, HR20.out⟩ HP20.out HT20.out (by have := HL2.out; have := HL7.out; have := HL10.out; have := HL11.out; have := HL20.out; omega)
  ·have HC9 := qh hc9;clear hc9;refine (accept_n _ HP8.out HC9.out).mono ?_;intro e w21 hd21;rcases hidR HT8 hd21 with ⟨a21, s21, v21, nv21, HX21, rfl, hv21, HP21, HT21, hT21, HL21⟩ | ⟨er, l21, nv21, HX21, rfl, HT21⟩;rotate_left
   ·clear hd21;go_wp2_with fail;exact ⟨rfl, does_no (by simp only [localStat_eq, runs, HX2.out, if_neg HC3.out, HX7.out, HX21.out]) HT21.out⟩
   obtain ⟨rfl, rfl⟩ := hv21;have HNM_21 := qh (HNM_8.out.turn HP8.out hT21 not_none (by decide) (by decide));have HB_21 := qh (HB.out.turn hT21 no_Xn);clear hd21 hT21;have q22 := cell_of HB_21.out.at' 0 (.int .u8 2) rfl;have r22 := fun o => cell_up (al w21 o) q22
   have q23 := cell_of HB_21.out.at' 1 (.int .i64 0) rfl;have r23 := fun o => cell_up (al w21 o) q23
   have q24 := cell_of HB_21.out.at' 2 (.string ⟨#[]⟩) rfl;have r24 := fun o => cell_up (al w21 o) q24
   have q25 := cell_of HB_21.out.at' 3 (.slice ao7 a7.length co7) rfl;have r25 := fun o => cell_up (al w21 o) q25
   have q26 := cell_of HB_21.out.at' 4 (.slice none 0 0) rfl;have r26 := fun o => cell_up (al w21 o) q26
   have q27 := cell_of HB_21.out.at' 5 (.int .i64 ((tk T s).line : Int)) rfl;have r27 := fun o => cell_up (al w21 o) q27
   go_wp2_with fail;refine (add_do _ HP21.out ⟨2, 0, ⟨#[]⟩, a7, [], ((tk T s).line : Nat)⟩ _ _ _ _ HNM_21.out (Loc.nil _ _ _ _) rfl rfl rfl rfl).mono ?_;intro e w28 hd28;rcases does_cases hd28 with ⟨a28, s28, v28, nv28, hx28, rfl, hv28, hP28, hT28, hl28⟩ | ⟨er, l28, nv28, hx28, rfl, hT28⟩;rotate_left
   ·have HX28 := qh hx28;have HT28 := qh (HT21.out.trans' hT28 (fun i hi => hi.elim (own_above HNM_21.out i) (fun h => (nil_X h).elim)));clear hd28 hx28 hT28;go_wp2_with fail;exact ⟨rfl, does_no (by simp only [localStat_eq, runs, HX2.out, if_neg HC3.out, HX7.out, HX21.out, HX28.out]) HT28.out⟩
   obtain ⟨rfl, hr28⟩ : v28 = .int .i64 a28 /\ Rng a28 nv28 := hv28;have HR28 := qh hr28;have HX28 := qh hx28;have HP28 := qh hP28;have HT28 := qh (HT21.out.trans' hT28 (fun i hi => hi.elim (own_above HNM_21.out i) (fun h => (nil_X h).elim)));have HL28 := qh hl28;clear hd28 hx28 hP28 hT28 hl28 hr28;go_wp2_with fail;go_ret;exact does_ok (a := a28) (s' := s28) (by simp only [localStat_eq, runs, HX2.out, if_neg HC3.out, HX7.out, HX21.out, HX28.out]) ⟨rfl, HR28.out⟩ HP28.out HT28.out (by have := HL2.out; have := HL7.out; have := HL21.out; have := HL28.out; omega)
theorem prefix_do (hE : EndT T) (hd : DFn T tv P base d L) (w : World) (h : PAt T tv P base s nv w) : Calls Tryz.prog 122 #[.pointer (some ⟨P, 0, none⟩), .int .i64 L] w (Does T tv P base (prefixStat T d) s nv Xn w vInt 1) := by
 have HLOW := qh h.lows;have HP0 := qh h;have HT0 := qh (show Turn P nv Xn w w nv from Turn.of_below (Below.refl _ _));clear h;go_enter Tryz.func122, Tryz.ntmps122;go_wp2_with fail;refine (startPre_do _ HP0.out).mono ?_;intro e w1 hd1;rcases hidC HT0 hd1 with ⟨a1, s1, v1, nv1, HX1, rfl, hv1, HP1, HT1, HL1⟩ | ⟨er, l1, nv1, HX1, rfl, HT1⟩;rotate_left
 ·clear hd1;go_wp2_with fail;exact ⟨rfl, does_no (by simp only [prefixStat, runs, HX1.out]) HT1.out⟩
 obtain rfl : v1 = .tuple #[] := hv1;clear hd1;go_wp2_with fail;refine (hd.beg _ _ _ HP1.out).mono ?_;intro e w2 hd2;rcases hidC HT1 hd2 with ⟨a2, s2, v2, nv2, HX2, rfl, hv2, HP2, HT2, HL2⟩ | ⟨er, l2, nv2, HX2, rfl, HT2⟩;rotate_left
 ·clear hd2;go_wp2_with fail;exact ⟨rfl, does_no (by simp only [prefixStat, runs, HX1.out, HX2.out]) HT2.out⟩
 obtain rfl : v2 = .tuple #[] := hv2;clear hd2;have hb := hd.ok _ _ _ HX2.out;have HBG := qh hb;clear hb;go_wp2_with fail;refine (line_fn _ HP2.out).mono ?_;rintro e w3 ⟨rfl, b⟩;have HP3 := qh (HP2.out.below b);have HT3 := qh (HT2.out.trans (Turn.of_below b));clear b;go_wp2_with fail;refine (hd.pre HBG.out.1 _ _ _ HP3.out).mono ?_;intro e w4 hd4;rcases hidC HT3 hd4 with ⟨a4, s4, v4, nv4, HX4, rfl, hv4, HP4, HT4, HL4⟩ | ⟨er, l4, nv4, HX4, rfl, HT4⟩;rotate_left
 ·clear hd4;go_wp2_with fail;exact ⟨rfl, does_no (by simp only [prefixStat, runs, HX1.out, HX2.out, HX4.out]) HT4.out⟩
 obtain ⟨rfl, hr4⟩ : v4 = .int .i64 a4 /\ Rng a4 nv4 := hv4;have HR4 := qh hr4;clear hd4 hr4;by_cases hc5 : isCall (Nd.at' s4.l a4).k = true
 ·have HC5 := qh hc5;clear hc5;go_wp2_with fail;refine (isCall_t _ HP4.out HR4.out HC5.out).mono ?_;rintro e w6 ⟨rfl, b⟩;have HP6 := qh (HP4.out.below b);have HT6 := qh (HT4.out.trans (Turn.of_below b));clear b;go_wp2_with fail;refine (calls_nilX (add_kids (b := 0) (n := 1) w6 HP6.out ⟨4, 0, ⟨#[]⟩, [], [a4], ((tk T s2).line : Nat)⟩ _ _ _ _ (Nat.zero_le _) (Loc.nil _ _ _ _) rfl rfl (by decide) rfl rfl rfl rfl)).mono ?_;intro e w7 hd7;rcases hidR HT6 hd7 with ⟨a7, s7, v7, nv7, HX7, rfl, hv7, HP7, HT7, hT7, HL7⟩ | ⟨er, l7, nv7, HX7, rfl, HT7⟩;rotate_left
  ·clear hd7;go_wp2_with fail;exact ⟨rfl, does_no (by simp only [prefixStat, runs, HX1.out, HX2.out, HX4.out, if_pos HC5.out, HX7.out]) HT7.out⟩
  obtain ⟨rfl, hr7⟩ : v7 = .int .i64 a7 /\ Rng a7 nv7 := hv7;have HR7 := qh hr7;have HR4_7 := qh (hT7.rng HR4.out);clear hd7 hT7 hr7;go_wp2_with fail;go_ret;exact does_ok (a := a7) (s' := s7) (by simp only [prefixStat, runs, HX1.out, HX2.out, HX4.out, if_pos HC5.out, HX7.out]) ⟨rfl, HR7.out⟩ HP7.out HT7.out (by have := HL1.out; have := HL2.out; have := HL4.out; have := HL7.out; omega)
 ·have HC5 := qh hc5;clear hc5;go_wp2_with fail;refine (isCall_f _ HP4.out HR4.out HC5.out).mono ?_;rintro e w8 ⟨rfl, b⟩;have HP8 := qh (HP4.out.below b);have HT8 := qh (HT4.out.trans (Turn.of_below b));clear b;go_wp2_with fail;refine (target_do _ HP8.out HR4.out).mono ?_;intro e w9 hd9;rcases hidR HT8 hd9 with ⟨a9, s9, v9, nv9, HX9, rfl, hv9, HP9, HT9, hT9, HL9⟩ | ⟨er, l9, nv9, HX9, rfl, HT9⟩;rotate_left
  ·clear hd9;go_wp2_with fail;exact ⟨rfl, does_no (by simp only [prefixStat, runs, HX1.out, HX2.out, HX4.out, if_neg HC5.out, HX9.out]) HT9.out⟩
  obtain ⟨rfl, hr9⟩ : v9 = .int .i64 a9 /\ Rng a9 nv9 := hv9;have HR9 := qh hr9;have HR4_9 := qh (hT9.rng HR4.out);clear hd9 hT9 hr9;go_wp2_with fail;have HP10 := qh (HP9.out.below (al w9 (.cells #[.int .i64 a9] 3)));have HT10 := qh (HT9.out.trans (Turn.of_below (al w9 (.cells #[.int .i64 a9] 3))));have HK := qh (fresh_row (n := 1) (e := 3) HP9.out HT9.out.size #[.int .i64 a9] (intsV [a9]) rfl rfl (by decide));go_loopg [7] (T.length + 1) (fun r kv wr => ∃ (f : Nat) (s' : St) (nv' : NR) (ks : List Int), r = f /\ T.length < f + s'.at' /\ PAt T tv P base s' nv' wr /\ Turn P nv Xn w wr nv' /\ Loc wr w.heap.size nv' 3 kv (intsV ks) /\ ks.length <= 200 /\ s.at' + 1 <= s'.at' /\ prefixStat T d s = (targetsGo T d f ks >>= fun ks => expect T wEq >>= fun _ => d.exprs >>= fun es => add T ⟨3, ks.length, ⟨#[]⟩, [], ks ++ es, (tk T s2).line⟩) s')
  case atStart =>
   exact ⟨T.length + 1, s9, nv9, _, rfl, by omega, HP10.out, HT10.out, HK.out, (by simp), (by have := HL1.out; have := HL2.out; have := HL4.out; have := HL9.out; omega), (by simp only [prefixStat, runs, HX1.out, HX2.out, HX4.out, if_neg HC5.out, HX9.out])⟩
  case round =>
   obtain ⟨f11, s11, nv11, ks, hq11, hf11, hP11, hT11, hk, h200, hl, hm11⟩ := hrel;obtain ⟨f12, rfl⟩ : ∃ k, f11 = k + 1 := ⟨f11 - 1, by have := hP11.here; omega⟩;subst hq11;have HP11 := qh hP11;have HT11 := qh hT11;have HM11 := qh hm11;have HF11 := qh hf11;have HK := qh hk;have H200 := qh h200;have HL := qh hl;clear hP11 hT11 hm11 hf11 hk h200 hl;obtain ⟨ao, co, hsh⟩ := loc_is HK.out (ints_len _);subst hsh;by_cases hc13 : markOf (tk T s11) = wComma
   ·have HC13 := qh hc13;clear hc13;go_wp2_with fail;refine (accept_y hE _ HP11.out HC13.out (by decide)).mono ?_;intro e w14 hd14;rcases hidR HT11 hd14 with ⟨a14, s14, v14, nv14, HX14, rfl, hv14, HP14, HT14, hT14, HL14⟩ | ⟨er, l14, nv14, HX14, rfl, HT14⟩;rotate_left
    ·clear hd14;go_wp2_with fail;exact ⟨rfl, does_no (HM11.out.trans (by simp only [targetsGo, runs, HX14.out])) HT14.out⟩
    obtain ⟨rfl, rfl⟩ := hv14;have hk_14 := qh (HK.out.turn HP11.out hT14 not_none (by decide) (by decide));clear hd14 hT14;go_wp2_with fail;refine (startPre_do _ HP14.out).mono ?_;intro e w15 hd15;rcases hidR HT14 hd15 with ⟨a15, s15, v15, nv15, HX15, rfl, hv15, HP15, HT15, hT15, HL15⟩ | ⟨er, l15, nv15, HX15, rfl, HT15⟩;rotate_left
    ·clear hd15;go_wp2_with fail;exact ⟨rfl, does_no (HM11.out.trans (by simp only [targetsGo, runs, HX14.out, HX15.out])) HT15.out⟩
    obtain rfl : v15 = .tuple #[] := hv15;have hk_15 := qh (hk_14.out.turn HP14.out hT15 not_none (by decide) (by decide));clear hd15 hT15;go_wp2_with fail;refine (room_do ks.length _ HP15.out H200.out).mono ?_;intro e w16 hd16;rcases hidR HT15 hd16 with ⟨a16, s16, v16, nv16, HX16, rfl, hv16, HP16, HT16, hT16, HL16⟩ | ⟨er, l16, nv16, HX16, rfl, HT16⟩;rotate_left
    ·clear hd16;go_wp2_with fail;exact ⟨rfl, does_no (HM11.out.trans (by simp only [targetsGo, runs, HX14.out, HX15.out, HX16.out])) HT16.out⟩
    obtain rfl : v16 = .tuple #[] := hv16;have hk_16 := qh (hk_15.out.turn HP15.out hT16 not_none (by decide) (by decide));clear hd16 hT16;go_wp2_with fail;refine (hd.pre HBG.out.1 _ _ _ HP16.out).mono ?_;intro e w17 hd17;rcases hidR HT16 hd17 with ⟨a17, s17, v17, nv17, HX17, rfl, hv17, HP17, HT17, hT17, HL17⟩ | ⟨er, l17, nv17, HX17, rfl, HT17⟩;rotate_left
    ·clear hd17;go_wp2_with fail;exact ⟨rfl, does_no (HM11.out.trans (by simp only [targetsGo, runs, HX14.out, HX15.out, HX16.out, HX17.out])) HT17.out⟩
    obtain ⟨rfl, hr17⟩ : v17 = .int .i64 a17 /\ Rng a17 nv17 := hv17;have HR17 := qh hr17;have hk_17 := qh (hk_16.out.turn HP16.out hT17 not_none (by decide) (by decide));clear hd17 hT17 hr17;go_wp2_with fail;refine (target_do _ HP17.out HR17.out).mono ?_;intro e w18 hd18;rcases hidR HT17 hd18 with ⟨a18, s18, v18, nv18, HX18, rfl, hv18, HP18, HT18, hT18, HL18⟩ | ⟨er, l18, nv18, HX18, rfl, HT18⟩;rotate_left
    ·clear hd18;go_wp2_with fail;exact ⟨rfl, does_no (HM11.out.trans (by simp only [targetsGo, runs, HX14.out, HX15.out, HX16.out, HX17.out, HX18.out])) HT18.out⟩
    obtain ⟨rfl, hr18⟩ : v18 = .int .i64 a18 /\ Rng a18 nv18 := hv18;have HR18 := qh hr18;have hk_18 := qh (hk_17.out.turn HP17.out hT18 not_none (by decide) (by decide));have HR17_18 := qh (hT18.rng HR17.out);clear hd18 hT18 hr18;go_wp2_with (at_builtin; go_loud (refine wpList_append_kid rfl (.tmp 40) (.tmp 46) rfl HP18.out HLOW.out HT18.out.size _ ks a18 rfl hk_18.out _ rfl rfl (by have := H200.out; omega) ?_));intro v19 w19 hv19 hP19 hT19
    first | obtain ⟨ao19, co19, rfl⟩ := loc_is hv19 (ints_snoc _ _) | obtain ⟨ao19, co19, rfl⟩ := loc_is hv19 (ints_len _)
    have HV19 := qh hv19;have HP19 := qh hP19;have HT19 := qh (HT18.out.trans' hT19 (own_above hk_18.out));clear hv19 hP19 hT19;go_wp2_with fail;go_roundg f12
    case measure => omega
    case rel => exact ⟨f12, s18, nv18, ks ++ [a18], rfl, (by have := HF11.out; have := HL.out; have := HL14.out; have := HL15.out; have := HL16.out; have := HL17.out; have := HL18.out; omega), HP19.out, HT19.out, HV19.out, (by rw [List.length_append, List.length_singleton]; have := H200.out; have := room_ne HX16.out; omega), (by have := HF11.out; have := HL.out; have := HL14.out; have := HL15.out; have := HL16.out; have := HL17.out; have := HL18.out; omega), (HM11.out.trans (by simp only [targetsGo, runs, HX14.out, HX15.out, HX16.out, HX17.out, HX18.out]))⟩
   ·have HC13 := qh hc13;clear hc13;go_wp2_with fail;refine (accept_n _ HP11.out HC13.out).mono ?_;intro e w20 hd20;rcases hidR HT11 hd20 with ⟨a20, s20, v20, nv20, HX20, rfl, hv20, HP20, HT20, hT20, HL20⟩ | ⟨er, l20, nv20, HX20, rfl, HT20⟩;rotate_left
    ·clear hd20;go_wp2_with fail;exact ⟨rfl, does_no (HM11.out.trans (by simp only [targetsGo, runs, HX20.out])) HT20.out⟩
    obtain ⟨rfl, rfl⟩ := hv20;have hk_20 := qh (HK.out.turn HP11.out hT20 not_none (by decide) (by decide));clear hd20 hT20;go_wp2_with fail;have HP21 := qh (HP20.out.below (al w20 (.cells #[.int .u8 3, .int .i64 (ks.length : Int), .string ⟨#[]⟩, .slice none 0 0, .slice none 0 0, .int .i64 (((tk T s2).line : Nat) : Int)] 35)));have HT21 := qh (HT20.out.trans (Turn.of_below (al w20 (.cells #[.int .u8 3, .int .i64 (ks.length : Int), .string ⟨#[]⟩, .slice none 0 0, .slice none 0 0, .int .i64 (((tk T s2).line : Nat) : Int)] 35))));have HB := qh (Blk.new (cs := #[.int .u8 3, .int .i64 (ks.length : Int), .string ⟨#[]⟩, .slice none 0 0, .slice none 0 0, .int .i64 (((tk T s2).line : Nat) : Int)]) (e := 35) HP20.out);have HBS := qh HT20.out.size;have hk_21 := qh (hk_20.out.below (al w20 (.cells #[.int .u8 3, .int .i64 (ks.length : Int), .string ⟨#[]⟩, .slice none 0 0, .slice none 0 0, .int .i64 (((tk T s2).line : Nat) : Int)] 35)));refine (expect_do hE _ HP21.out (m := wEq) (by decide)).mono ?_;intro e w22 hd22;rcases hidR HT21 hd22 with ⟨a22, s22, v22, nv22, HX22, rfl, hv22, HP22, HT22, hT22, HL22⟩ | ⟨er, l22, nv22, HX22, rfl, HT22⟩;rotate_left
    ·clear hd22;go_wp2_with fail;exact ⟨rfl, does_no (HM11.out.trans (by simp only [targetsGo, runs, HX20.out, HX22.out])) HT22.out⟩
    obtain rfl : v22 = .tuple #[] := hv22;have hk_22 := qh (hk_21.out.turn HP21.out hT22 not_none (by decide) (by decide));have HB_22 := qh (HB.out.turn hT22 no_Xn);clear hd22 hT22;go_wp2_with fail;refine (hd.exprs _ _ _ HP22.out).mono ?_;intro e w23 hd23;rcases hidR HT22 hd23 with ⟨a23, s23, v23, nv23, HX23, rfl, hv23, HP23, HT23, hT23, HL23⟩ | ⟨er, l23, nv23, HX23, rfl, HT23⟩;rotate_left
    ·clear hd23;go_wp2_with fail;exact ⟨rfl, does_no (HM11.out.trans (by simp only [targetsGo, runs, HX20.out, HX22.out, HX23.out])) HT23.out⟩
    obtain ⟨ao23, co23, rfl⟩ := loc_is hv23 (ints_len _);have HV23 := qh (Loc.base hv23 HT22.out.size);have hk_23 := qh (hk_22.out.turn HP22.out hT23 not_none (by decide) (by decide));have HB_23 := qh (HB_22.out.turn hT23 no_Xn);clear hd23 hT23 hv23;have hlen2 : ks.length + a23.length <= 1000000 := by have := (hd.ne _ _ _ HX23.out).2; have := H200.out; omega
    have HLEN2 := qh hlen2;clear hlen2;have q24 := cell_of HB_23.out.at' 0 (.int .u8 3) rfl;have r24 := fun o => cell_up (al w23 o) q24
    have q25 := cell_of HB_23.out.at' 1 (.int .i64 (ks.length : Int)) rfl;have r25 := fun o => cell_up (al w23 o) q25
    have q26 := cell_of HB_23.out.at' 2 (.string ⟨#[]⟩) rfl;have r26 := fun o => cell_up (al w23 o) q26
    have q27 := cell_of HB_23.out.at' 3 (.slice none 0 0) rfl;have r27 := fun o => cell_up (al w23 o) q27
    have q28 := cell_of HB_23.out.at' 4 (.slice none 0 0) rfl;have r28 := fun o => cell_up (al w23 o) q28
    have q29 := cell_of HB_23.out.at' 5 (.int .i64 (((tk T s2).line : Nat) : Int)) rfl;have r29 := fun o => cell_up (al w23 o) q29
    have g30 := free_of HB_23.out.at' 4;go_wp2_with (at_builtin; go_loud (refine wpList_append_any rfl (.tmp 54) (.tmp 57) rfl HP23.out HLOW.out HT23.out.size _ _ ks a23 rfl hk_23.out rfl HV23.out HLEN2.out ?_));intro v31 w31 hv31 hP31 hT31;obtain ⟨ao31, co31, rfl⟩ := loc_is hv31 (ints_app _ _);have HB_31 := qh (HB_23.out.turn hT31 (HB_23.out.apart hk_23.out (by decide)));have HV31 := qh hv31;have HP31 := qh hP31;have HT31 := qh (HT23.out.trans' hT31 (own_above hk_23.out));clear hv31 hP31 hT31;have q32 := cell_of HB_31.out.at' 0 (.int .u8 3) rfl;have r32 := fun o => cell_up (al w31 o) q32
    have q33 := cell_of HB_31.out.at' 1 (.int .i64 (ks.length : Int)) rfl;have r33 := fun o => cell_up (al w31 o) q33
    have q34 := cell_of HB_31.out.at' 2 (.string ⟨#[]⟩) rfl;have r34 := fun o => cell_up (al w31 o) q34
    have q35 := cell_of HB_31.out.at' 3 (.slice none 0 0) rfl;have r35 := fun o => cell_up (al w31 o) q35
    have q36 := cell_of HB_31.out.at' 4 (.slice none 0 0) rfl;have r36 := fun o => cell_up (al w31 o) q36
    have q37 := cell_of HB_31.out.at' 5 (.int .i64 (((tk T s2).line : Nat) : Int)) rfl;have r37 := fun o => cell_up (al w31 o) q37
    have g38 := free_of HB_31.out.at' 4;go_wp2_with fail;have HP39 := qh (HP31.out.store (j := 4) (u := .slice ao31 (ks.length + a23.length) co31) HB_31.out HLOW.out HBS.out (by decide) (by decide));have HT39 := qh (HT31.out.store (j := 4) (u := .slice ao31 (ks.length + a23.length) co31) HBS.out);have hk_39 := qh (HV31.out.store (j := 4) (u := .slice ao31 (ks.length + a23.length) co31) HB_31.out (by decide));have HB_39 := qh (HB_31.out.set (j := 4) (.slice ao31 (ks.length + a23.length) co31));refine (add_do _ HP39.out ⟨3, ks.length, ⟨#[]⟩, [], ks ++ a23, ((tk T s2).line : Nat)⟩ _ _ _ _ (Loc.nil _ _ _ _) hk_39.out rfl rfl rfl rfl).mono ?_;intro e w40 hd40;rcases does_cases hd40 with ⟨a40, s40, v40, nv40, hx40, rfl, hv40, hP40, hT40, hl40⟩ | ⟨er, l40, nv40, hx40, rfl, hT40⟩;rotate_left
    ·have HX40 := qh hx40;have HT40 := qh (HT39.out.trans' hT40 (fun i hi => hi.elim (fun h => (nil_X h).elim) (own_above hk_39.out i)));clear hd40 hx40 hT40;go_wp2_with fail;exact ⟨rfl, does_no (HM11.out.trans (by simp only [targetsGo, runs, HX20.out, HX22.out, HX23.out, HX40.out])) HT40.out⟩
    obtain ⟨rfl, hr40⟩ : v40 = .int .i64 a40 /\ Rng a40 nv40 := hv40;have HR40 := qh hr40;have HX40 := qh hx40;have HP40 := qh hP40;have HT40 := qh (HT39.out.trans' hT40 (fun i hi => hi.elim (fun h => (nil_X h).elim) (own_above hk_39.out i)));have HL40 := qh hl40;clear hd40 hx40 hP40 hT40 hl40 hr40;go_wp2_with fail;go_ret;exact does_ok (a := a40) (s' := s40) (HM11.out.trans (by simp only [targetsGo, runs, HX20.out, HX22.out, HX23.out, HX40.out])) ⟨rfl, HR40.out⟩ HP40.out HT40.out (by have := HF11.out; have := HL.out; have := HL20.out; have := HL22.out; have := HL23.out; have := HL40.out; omega)
end
end Go.Proofs.YtnkejjlidgnkkaaGreatDoor.Ps
namespace Go.Proofs.YtnkejjlidgnkkaaGreatDoor.Ps

open Go.Lib renaming hid → qh
open Go Go.RowKit Go.ChangeShapes Go.WideShapes Go.Shelf
open Go.Proofs.YtnkejjlidgnkkaaGreatDoor.Nd
open Go.Proofs.YtnkejjlidgnkkaaGreatDoor.Lex (Tok tokensL TokReads)
section
variable {T : List Tok} {tv : Value} {P base : Nat} {s : St} {nv : NR} {d : Fns} {L : Int}
theorem args_len (hd : DFn T tv P base d L) {a : List Int} {s' : St} (h : argsM T d s = .ok a s') : a.length <= 200 := by
 unfold argsM at h;simp only [run_bind, run_tok] at h;by_cases h1 : startsArgs (tk T s) = true
 ·rw [if_pos h1] at h;simp only [run_bind] at h;by_cases h2 : markOf (tk T s) = wOpen
  ·rw [accept_t h2] at h;simp only [↓reduceIte, run_bind, run_mark] at h;by_cases h3 : markOf (tk T ⟨s.at' + 1, s.l⟩) = wShut
   ·rw [if_pos h3] at h;simp only [run_pure] at h;cases h4 : expect T wShut ⟨s.at' + 1, s.l⟩ with
    | no e l => rw [h4] at h; cases h
    | ok u s4 => rw [h4] at h; cases h; decide
   ·rw [if_neg h3] at h;cases h4 : d.exprs ⟨s.at' + 1, s.l⟩ with
    | no e l => rw [h4] at h; cases h
    | ok u s4 =>
     rw [h4] at h
     dsimp only at h
     cases h5 : expect T wShut s4 with
     | no e l => rw [h5] at h; cases h
     | ok u2 s5 => rw [h5] at h; cases h; exact (hd.ne _ _ _ h4).2
  ·rw [accept_f h2] at h;simp only [Bool.false_eq_true, ↓reduceIte, run_bind] at h;cases h4 : d.beg s with
   | no e l => rw [h4] at h; cases h
   | ok u s4 =>
    rw [h4] at h
    dsimp only at h
    cases h5 : d.operand s4 with
    | no e l => rw [h5] at h; cases h
    | ok u2 s5 => rw [h5] at h; cases h; simp
 ·rw [if_neg h1] at h; cases h
theorem ints_cons (k : Int) (ms : List Int) : (intsV (k :: ms)).length = ms.length + 1 := by rw [ints_len]; rfl
theorem starts_ok {u : Unit} {s' : St} (h : startExpr T s = .ok u s') : startsE (tk T s') = true := by
 unfold startExpr at h;by_cases h1 : startsE (tk T s) = true
 ·rw [if_pos h1] at h; cases h; exact h1
 ·rw [if_neg h1] at h; cases h
theorem starts_k {t : Tok} (h : startsE t = true) : t.k ≠ 6 := by
 intro e;have hm : markOf t = ⟨#[]⟩ := by unfold markOf; rw [if_neg (by omega)]
 unfold startsE at h;rw [hm, e] at h;exact absurd h (by decide)
theorem un_le (m : ByteArray) : unOf m <= 21 := by
 unfold unOf
 split
 ·decide
 ·split
  ·decide
  ·split
   ·decide
   ·split <;> decide
theorem un_mark {t : Tok} (h : unOf (markOf t) ≠ 0) : t.k ≠ 6 := by
 intro e;have hm : markOf t = ⟨#[]⟩ := by unfold markOf; rw [if_neg (by omega)]
 rw [hm] at h;exact h (by decide)
theorem oper_k {t : Tok} {b : Nat} (h : (operOf (markOf t)).binds > b) : t.k ≠ 6 := by
 intro e;have hm : markOf t = ⟨#[]⟩ := by unfold markOf; rw [if_neg (by omega)]
 rw [hm] at h;have : (operOf ⟨#[]⟩).binds = 0 := by decide
 omega
theorem find_in : ∀ (l : List (ByteArray × Oper)) (m : ByteArray), operFind l m = ⟨0, 0, 0⟩ \/ ∃ x ∈ l, x.2 = operFind l m
 | [], _ => .inl rfl
 | (n, o) :: r, m => by
  unfold operFind
  split
  ·exact .inr ⟨(n, o), List.mem_cons_self, rfl⟩
  ·rcases find_in r m with h | ⟨x, hx, e⟩
   ·exact .inl h
   ·exact .inr ⟨x, List.mem_cons_of_mem _ hx, e⟩
theorem oper_is (m : ByteArray) : (operOf m).binds <= 10 /\ (operOf m).op <= 17 /\ (operOf m).kind <= 33 /\ ((operOf m).op = 11 -> (operOf m).binds = 8) := by
 have hall : (operators.all fun x => decide (x.2.binds <= 10 /\ x.2.op <= 17 /\ x.2.kind <= 33 /\ (x.2.op = 11 -> x.2.binds = 8))) = true := by decide
 unfold operOf;rcases find_in operators m with h | ⟨x, hx, e⟩
 ·rw [h]; decide
 ·have := List.all_eq_true.1 hall x hx;rw [<- e];exact of_decide_eq_true this
theorem lit_names (t : Tok) : (literal t).names = [] /\ (literal t).kids = [] := by
 unfold literal
 split
 ·exact ⟨rfl, rfl⟩
 ·split <;> exact ⟨rfl, rfl⟩
theorem literal_is (t : Tok) (w : World) : Calls Tryz.prog 186 #[.agg #[.int .u8 (t.k : Int), .string t.s, .int .i64 t.n, .int .i64 (t.line : Int)]] w fun e w' => e = .returned (.agg #[.int .u8 ((literal t).k : Int), .int .i64 (literal t).n, .string (literal t).name, .slice none 0 0, .slice none 0 0, .int .i64 (literal t).line]) /\ Below w.heap.size w w' := literal_fn t w
theorem operator_is (m : ByteArray) (w : World) (hg : ∃ Ty fr, w.heap[opsG]? = some (.cells opsCells.toArray Ty fr)) : Calls Tryz.prog 171 #[.string m] w fun e w' => (∃ mm, e = .returned (.agg #[.string mm, .int .u8 ((operOf m).kind : Int), .int .u8 ((operOf m).op : Int), .int .i64 ((operOf m).binds : Int)])) /\ Below w.heap.size w w' := operatorOf_fn m w hg
end
end Go.Proofs.YtnkejjlidgnkkaaGreatDoor.Ps
