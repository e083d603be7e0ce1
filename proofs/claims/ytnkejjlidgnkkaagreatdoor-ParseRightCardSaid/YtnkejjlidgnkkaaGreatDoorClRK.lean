/-
  A part of the proof.
-/
import Derived.Lib.Hide
import Derived.Test.YtnkejjlidgnkkaaGreatDoorClRJ
set_option maxRecDepth 100000
set_option maxHeartbeats 40000000
namespace Go.Proofs.YtnkejjlidgnkkaaGreatDoor.Ps

open Go.Lib renaming hid → qh
open Go Go.RowKit Go.ChangeShapes Go.WideShapes Go.Shelf
open Go.Proofs.YtnkejjlidgnkkaaGreatDoor.Nd
open Go.Proofs.YtnkejjlidgnkkaaGreatDoor.Lex (Tok tokensL TokReads)
section
variable {T : List Tok} {tv : Value} {P base : Nat} {s : St} {nv : NR} {d : Fns} {L : Int}
theorem room_ne {c : Nat} {a : Unit} {s s' : St} (h : room T c s = .ok a s') : c ≠ 200 := fun e => by rw [room_f e] at h; cases h
theorem exprs_fn (hE : EndT T) (hS : ∀ s nv w, PAt T tv P base s nv w -> Calls Tryz.prog 136 #[.pointer (some ⟨P, 0, none⟩), .int .i64 L] w (Does T tv P base (startExpr T) s nv Xn w vUnit 0)) (hx : ∀ binds : Nat, ∀ s nv w, PAt T tv P base s nv w -> Calls Tryz.prog 138 #[.pointer (some ⟨P, 0, none⟩), .int .i64 L, .int .i64 (binds : Int)] w (Does T tv P base (exprM T d binds) s nv Xn w vInt 1)) (w : World) (h : PAt T tv P base s nv w) : Calls Tryz.prog 112 #[.pointer (some ⟨P, 0, none⟩), .int .i64 L] w (Does T tv P base (exprsM T d) s nv Xn w (vRow w.heap.size 3 intsV) 1) := by
 have HLOW := qh h.lows;have HP0 := qh h;have HT0 := qh (show Turn P nv Xn w w nv from Turn.of_below (Below.refl _ _));clear h;go_enter Tryz.func112, Tryz.ntmps112;go_wp2_with fail;go_loopg [5, 6] (T.length + 1) (fun r kv more wr => ∃ (f : Nat) (s' : St) (nv' : NR) (ks : List Int) (b : Bool), r = f /\ T.length < f + s'.at' /\ PAt T tv P base s' nv' wr /\ Turn P nv Xn w wr nv' /\ more = .bool b /\ Loc wr w.heap.size nv' 3 kv (intsV ks) /\ ks.length <= 200 /\ s.at' <= s'.at' /\ (b = false -> s.at' + 1 <= s'.at') /\ exprsM T d s = (if b = true then exprsGo T d f ks s' else R.ok ks s'))
 case atStart =>
  exact ⟨T.length + 1, s, nv, [], true, rfl, by omega, HP0.out, HT0.out, rfl, Loc.nil _ _ _ _, (by decide), (Nat.le_refl _), (fun h => by cases h), (by simp only [exprsM, runs])⟩
 case round =>
  obtain ⟨f1, s1, nv1, ks, b, hq1, hf1, hP1, hT1, hmore, hk, h200, hl, hb1, hm1⟩ := hrel;obtain ⟨f2, rfl⟩ : ∃ k, f1 = k + 1 := ⟨f1 - 1, by have := hP1.here; omega⟩;subst hq1;have HP1 := qh hP1;have HT1 := qh hT1;have HM1 := qh hm1;have HF1 := qh hf1;have HMORE := qh hmore;have HK := qh hk;have H200 := qh h200;have HL := qh hl;have HB1 := qh hb1;clear hP1 hT1 hm1 hf1 hmore hk h200 hl hb1;have hme := HMORE.out;subst hme;clear HMORE;obtain ⟨ao, co, hsh⟩ := loc_is HK.out (ints_len _);subst hsh;cases b with
  | true =>
   go_wp2_with fail;refine (hS _ _ _ HP1.out).mono ?_;intro e w3 hd3;rcases hidR HT1 hd3 with ⟨a3, s3, v3, nv3, HX3, rfl, hv3, HP3, HT3, hT3, HL3⟩ | ⟨er, l3, nv3, HX3, rfl, HT3⟩;rotate_left
   ·clear hd3;go_wp2_with fail;exact ⟨rfl, does_no (HM1.out.trans (by simp only [exprsGo, runs, HX3.out])) HT3.out⟩
   obtain rfl : v3 = .tuple #[] := hv3;have hk_3 := qh (HK.out.turn HP1.out hT3 not_none (by decide) (by decide));clear hd3 hT3;go_wp2_with fail;refine (room_do ks.length _ HP3.out H200.out).mono ?_;intro e w4 hd4;rcases hidR HT3 hd4 with ⟨a4, s4, v4, nv4, HX4, rfl, hv4, HP4, HT4, hT4, HL4⟩ | ⟨er, l4, nv4, HX4, rfl, HT4⟩;rotate_left
   ·clear hd4;go_wp2_with fail;exact ⟨rfl, does_no (HM1.out.trans (by simp only [exprsGo, runs, HX3.out, HX4.out])) HT4.out⟩
   obtain rfl : v4 = .tuple #[] := hv4;have hk_4 := qh (hk_3.out.turn HP3.out hT4 not_none (by decide) (by decide));clear hd4 hT4;go_wp2_with fail;refine (hx 0 _ _ _ HP4.out).mono ?_;intro e w5 hd5;rcases hidR HT4 hd5 with ⟨a5, s5, v5, nv5, HX5, rfl, hv5, HP5, HT5, hT5, HL5⟩ | ⟨er, l5, nv5, HX5, rfl, HT5⟩;rotate_left
   ·clear hd5;go_wp2_with fail;exact ⟨rfl, does_no (HM1.out.trans (by simp only [exprsGo, runs, HX3.out, HX4.out, HX5.out])) HT5.out⟩
   obtain ⟨rfl, hr5⟩ : v5 = .int .i64 a5 /\ Rng a5 nv5 := hv5;have HR5 := qh hr5;have hk_5 := qh (hk_4.out.turn HP4.out hT5 not_none (by decide) (by decide));clear hd5 hT5 hr5;go_wp2_with (at_builtin; go_loud (refine wpList_append_kid rfl (.tmp 17) (.tmp 21) rfl HP5.out HLOW.out HT5.out.size _ ks a5 rfl hk_5.out _ rfl rfl (by have := H200.out; omega) ?_));intro v6 w6 hv6 hP6 hT6
   first | obtain ⟨ao6, co6, rfl⟩ := loc_is hv6 (ints_snoc _ _) | obtain ⟨ao6, co6, rfl⟩ := loc_is hv6 (ints_len _)
   have HV6 := qh hv6;have HP6 := qh hP6;have HT6 := qh (HT5.out.trans' hT6 (own_above hk_5.out));clear hv6 hP6 hT6;by_cases hc7 : markOf (tk T s5) = wComma
   ·have HC7 := qh hc7;clear hc7;go_wp2_with fail;refine (accept_y hE _ HP6.out HC7.out (by decide)).mono ?_;intro e w8 hd8;rcases hidR HT6 hd8 with ⟨a8, s8, v8, nv8, HX8, rfl, hv8, HP8, HT8, hT8, HL8⟩ | ⟨er, l8, nv8, HX8, rfl, HT8⟩;rotate_left
    ·clear hd8;go_wp2_with fail;exact ⟨rfl, does_no (HM1.out.trans (by simp only [exprsGo, runs, HX3.out, HX4.out, HX5.out, HX8.out])) HT8.out⟩
    obtain ⟨rfl, rfl⟩ := hv8;have hk_8 := qh (HV6.out.turn HP6.out hT8 not_none (by decide) (by decide));have HR5_8 := qh (hT8.rng HR5.out);clear hd8 hT8;go_wp2_with fail;go_roundg f2
    case measure => omega
    case rel => exact ⟨f2, s8, nv8, ks ++ [a5], true, rfl, (by have := HF1.out; have := HL.out; have := HL3.out; have := HL4.out; have := HL5.out; have := HL8.out; omega), HP8.out, HT8.out, rfl, hk_8.out, (by rw [List.length_append, List.length_singleton]; have := H200.out; have := room_ne HX4.out; omega), (by have := HF1.out; have := HL.out; have := HL3.out; have := HL4.out; have := HL5.out; have := HL8.out; omega), (fun h => by cases h), (HM1.out.trans (by simp only [exprsGo, runs, HX3.out, HX4.out, HX5.out, HX8.out]))⟩
   ·have HC7 := qh hc7;clear hc7;go_wp2_with fail;refine (accept_n _ HP6.out HC7.out).mono ?_;intro e w9 hd9;rcases hidR HT6 hd9 with ⟨a9, s9, v9, nv9, HX9, rfl, hv9, HP9, HT9, hT9, HL9⟩ | ⟨er, l9, nv9, HX9, rfl, HT9⟩;rotate_left
    ·clear hd9;go_wp2_with fail;exact ⟨rfl, does_no (HM1.out.trans (by simp only [exprsGo, runs, HX3.out, HX4.out, HX5.out, HX9.out])) HT9.out⟩
    obtain ⟨rfl, rfl⟩ := hv9;have hk_9 := qh (HV6.out.turn HP6.out hT9 not_none (by decide) (by decide));have HR5_9 := qh (hT9.rng HR5.out);clear hd9 hT9;go_wp2_with fail;go_roundg f2
    case measure => omega
    case rel => exact ⟨f2, s9, nv9, ks ++ [a5], false, rfl, (by have := HF1.out; have := HL.out; have := HL3.out; have := HL4.out; have := HL5.out; have := HL9.out; omega), HP9.out, HT9.out, rfl, hk_9.out, (by rw [List.length_append, List.length_singleton]; have := H200.out; have := room_ne HX4.out; omega), (by have := HF1.out; have := HL.out; have := HL3.out; have := HL4.out; have := HL5.out; have := HL9.out; omega), (fun _ => (by have := HF1.out; have := HL.out; have := HL3.out; have := HL4.out; have := HL5.out; have := HL9.out; omega)), (HM1.out.trans (by simp only [exprsGo, runs, HX3.out, HX4.out, HX5.out, HX9.out]))⟩
  | false =>
   have HB2 := qh (HB1.out rfl);go_wp2_with fail;go_ret;exact does_ok (a := ks) (s' := s1) (HM1.out.trans (by simp only [runs])) HK.out HP1.out HT1.out (by have := HF1.out; have := HL.out; have := HB2.out; omega)
theorem params_do {ns : List ByteArray} {nm : Value} {b : Nat} (hE : EndT T) (hlow : Low tv P b) (hlen : ns.length <= 200) (w : World) (h : PAt T tv P base s nv w) (hb : b <= w.heap.size) (hnm : Loc w b nv 9 nm (textsV ns)) : Calls Tryz.prog 175 #[.pointer (some ⟨P, 0, none⟩), nm] w (Does T tv P base (params T ns) s nv (Xv nm) w (fun a v nv' w' => ∃ v1, v = .tuple #[v1, .int .i64 (a.2 : Int)] /\ vNames b w.heap.size nm a.1 v1 nv' w') 2) := by
 have HNM := qh hnm;have HP0 := qh h;have HT0 := qh (show Turn P nv (Xv nm) w w nv from Turn.of_below (Below.refl _ _));clear h hnm;go_enter Tryz.func175, Tryz.ntmps175;go_wp2_with fail;refine (expect_do hE _ HP0.out (m := wOpen) (by decide)).mono ?_;intro e w1 hd1;rcases hidR HT0 hd1 with ⟨a1, s1, v1, nv1, HX1, rfl, hv1, HP1, HT1, hT1, HL1⟩ | ⟨er, l1, nv1, HX1, rfl, HT1⟩;rotate_left
 ·clear hd1;go_wp2_with fail;exact ⟨rfl, does_no (by simp only [params, runs, HX1.out]) HT1.out⟩
 obtain rfl : v1 = .tuple #[] := hv1;have HNM_1 := qh (HNM.out.turn HP0.out hT1 not_none (by decide) (by decide));clear hd1 hT1;by_cases hc2 : markOf (tk T s1) = wShut
 ·have bc2 := w_t [41] hc2;have nc2 := wn_t [41] hc2;have HC2 := qh hc2;clear hc2;go_wp2_with fail;refine (mark_fn _ HP1.out).mono ?_;rintro e w3 ⟨rfl, b⟩;have HP3 := qh (HP1.out.below b);have HT3 := qh (HT1.out.trans (Turn.of_below b));have HNM_3 := qh (HNM_1.out.below b);clear b;go_wp2_with fail;go_loopg [1, 6, 7] (T.length + 1) (fun r nm2 more on wr => ∃ (f : Nat) (s' : St) (nv' : NR) (ns2 : List ByteArray) (m : Nat) (b2 : Bool), r = f /\ T.length < f + s'.at' /\ PAt T tv P base s' nv' wr /\ Turn P nv (Xv nm) w wr nv' /\ more = .int .i64 (m : Int) /\ on = .bool b2 /\ Loc wr b nv' 9 nm2 (textsV ns2) /\ (∀ i, Xv nm2 i -> Xv nm i \/ w.heap.size <= i) /\ ns2.length <= 200 /\ s.at' + 1 <= s'.at' /\ (b2 = true -> m = 0) /\ params T ns s = ((if b2 = true then paramsGo T f ns2 else pure (ns2, m)) >>= fun r => expect T wShut >>= fun _ => pure r) s')
  case atStart =>
   exact ⟨T.length + 1, s1, nv1, ns, 0, false, rfl, by omega, HP3.out, HT3.out, rfl, rfl, HNM_3.out, (fun i hi => .inl hi), hlen, (by have := HL1.out; omega), (fun _ => rfl), (by simp only [params, runs, HX1.out, if_pos HC2.out])⟩
  case round =>
   obtain ⟨f4, s4, nv4, ns2, m, b2, hq4, hf4, hP4, hT4, hmore, hon, hk, how, h200, hl, hmb, hm4⟩ := hrel;obtain ⟨f5, rfl⟩ : ∃ k, f4 = k + 1 := ⟨f4 - 1, by have := hP4.here; omega⟩;subst hq4;have HP4 := qh hP4;have HT4 := qh hT4;have HM4 := qh hm4;have HF4 := qh hf4;have HMORE := qh hmore;have HON := qh hon;have HK := qh hk;have HOW := qh how;have H200 := qh h200;have HL := qh hl;have HMB := qh hmb;clear hP4 hT4 hm4 hf4 hmore hon hk how h200 hl hmb;have hme := HMORE.out;subst hme;have hoe := HON.out;subst hoe;clear HMORE HON;obtain ⟨ao2, co2, hsh⟩ := loc_is HK.out (texts_len _);subst hsh;cases b2 with
   | true =>
    have hm0 := HMB.out rfl;subst hm0;clear HMB;by_cases hc6 : markOf (tk T s4) = wDots
    ·have HC6 := qh hc6;clear hc6;go_wp2_with fail;refine (accept_y hE _ HP4.out HC6.out (by decide)).mono ?_;intro e w7 hd7;rcases hidR HT4 hd7 with ⟨a7, s7, v7, nv7, HX7, rfl, hv7, HP7, HT7, hT7, HL7⟩ | ⟨er, l7, nv7, HX7, rfl, HT7⟩;rotate_left
     ·clear hd7;go_wp2_with fail;exact ⟨rfl, does_no (HM4.out.trans (by simp only [paramsGo, runs, HX7.out])) HT7.out⟩
     obtain ⟨rfl, rfl⟩ := hv7;have hk_7 := qh (HK.out.turn HP4.out hT7 not_none (by decide) (by decide));clear hd7 hT7;go_wp2_with fail;go_roundg f5
     case measure => omega
     case rel => exact ⟨f5, s7, nv7, ns2, 1, false, rfl, (by have := HF4.out; have := HL.out; have := HL7.out; omega), HP7.out, HT7.out, rfl, rfl, hk_7.out, HOW.out, H200.out, (by have := HF4.out; have := HL.out; have := HL7.out; omega), (fun h => by first | rfl | cases h), (HM4.out.trans (by simp only [paramsGo, runs, HX7.out]))⟩
    ·have HC6 := qh hc6;clear hc6;go_wp2_with fail;refine (accept_n _ HP4.out HC6.out).mono ?_;intro e w8 hd8;rcases hidR HT4 hd8 with ⟨a8, s8, v8, nv8, HX8, rfl, hv8, HP8, HT8, hT8, HL8⟩ | ⟨er, l8, nv8, HX8, rfl, HT8⟩;rotate_left
     ·clear hd8;go_wp2_with fail;exact ⟨rfl, does_no (HM4.out.trans (by simp only [paramsGo, runs, HX8.out])) HT8.out⟩
     obtain ⟨rfl, rfl⟩ := hv8;have hk_8 := qh (HK.out.turn HP4.out hT8 not_none (by decide) (by decide));clear hd8 hT8;go_wp2_with fail;refine (oneMore_do hE hlow H200.out _ HP8.out (Nat.le_trans hb HT8.out.size) hk_8.out).mono ?_;intro e w9 hd9;rcases does_cases hd9 with ⟨a9, s9, v9, nv9, hx9, rfl, hv9, hP9, hT9, hl9⟩ | ⟨er, l9, nv9, hx9, rfl, hT9⟩;rotate_left
     ·have HX9 := qh hx9;have HT9 := qh (HT8.out.trans' hT9 HOW.out);clear hd9 hx9 hT9;go_wp2_with fail;exact ⟨rfl, does_no (HM4.out.trans (by simp only [paramsGo, runs, HX8.out, HX9.out])) HT9.out⟩
     obtain ⟨hv9, ho9, hn9⟩ := hv9;obtain ⟨ao9, co9, rfl⟩ := loc_is hv9 (texts_len _);have HV9 := qh hv9;have HO9 := qh ho9;have HN9 := qh hn9;have HX9 := qh hx9;have HP9 := qh hP9;have HT9 := qh (HT8.out.trans' hT9 HOW.out);have HL9 := qh hl9;clear hd9 hx9 hP9 hT9 hl9 hv9 ho9 hn9;by_cases hc10 : markOf (tk T s9) = wComma
     ·have HC10 := qh hc10;clear hc10;go_wp2_with fail;refine (accept_y hE _ HP9.out HC10.out (by decide)).mono ?_;intro e w11 hd11;rcases hidR HT9 hd11 with ⟨a11, s11, v11, nv11, HX11, rfl, hv11, HP11, HT11, hT11, HL11⟩ | ⟨er, l11, nv11, HX11, rfl, HT11⟩;rotate_left
      ·clear hd11;go_wp2_with fail;exact ⟨rfl, does_no (HM4.out.trans (by simp only [paramsGo, runs, HX8.out, HX9.out, HX11.out])) HT11.out⟩
      obtain ⟨rfl, rfl⟩ := hv11;have hk_11 := qh (HV9.out.turn HP9.out hT11 not_none (by decide) (by decide));clear hd11 hT11;go_wp2_with fail;go_roundg f5
      case measure => omega
      case rel => exact ⟨f5, s11, nv11, _, 0, true, rfl, (by have := HF4.out; have := HL.out; have := HL8.out; have := HL9.out; have := HL11.out; omega), HP11.out, HT11.out, rfl, rfl, hk_11.out, (fun i hi => (HO9.out i hi).elim (HOW.out i) (fun h => .inr (Nat.le_trans HT8.out.size h))), HN9.out, (by have := HF4.out; have := HL.out; have := HL8.out; have := HL9.out; have := HL11.out; omega), (fun h => by first | rfl | cases h), (HM4.out.trans (by simp only [paramsGo, runs, HX8.out, HX9.out, HX11.out]))⟩
     ·have HC10 := qh hc10;clear hc10;go_wp2_with fail;refine (accept_n _ HP9.out HC10.out).mono ?_;intro e w12 hd12;rcases hidR HT9 hd12 with ⟨a12, s12, v12, nv12, HX12, rfl, hv12, HP12, HT12, hT12, HL12⟩ | ⟨er, l12, nv12, HX12, rfl, HT12⟩;rotate_left
      ·clear hd12;go_wp2_with fail;exact ⟨rfl, does_no (HM4.out.trans (by simp only [paramsGo, runs, HX8.out, HX9.out, HX12.out])) HT12.out⟩
      obtain ⟨rfl, rfl⟩ := hv12;have hk_12 := qh (HV9.out.turn HP9.out hT12 not_none (by decide) (by decide));clear hd12 hT12;go_wp2_with fail;go_roundg f5
      case measure => omega
      case rel => exact ⟨f5, s12, nv12, _, 0, false, rfl, (by have := HF4.out; have := HL.out; have := HL8.out; have := HL9.out; have := HL12.out; omega), HP12.out, HT12.out, rfl, rfl, hk_12.out, (fun i hi => (HO9.out i hi).elim (HOW.out i) (fun h => .inr (Nat.le_trans HT8.out.size h))), HN9.out, (by have := HF4.out; have := HL.out; have := HL8.out; have := HL9.out; have := HL12.out; omega), (fun h => by first | rfl | cases h), (HM4.out.trans (by simp only [paramsGo, runs, HX8.out, HX9.out, HX12.out]))⟩
   | false =>
    go_wp2_with fail;refine (expect_do hE _ HP4.out (m := wShut) (by decide)).mono ?_;intro e w13 hd13;rcases hidR HT4 hd13 with ⟨a13, s13, v13, nv13, HX13, rfl, hv13, HP13, HT13, hT13, HL13⟩ | ⟨er, l13, nv13, HX13, rfl, HT13⟩;rotate_left
    ·clear hd13;go_wp2_with fail;exact ⟨rfl, does_no (HM4.out.trans (by simp only [runs, HX13.out])) HT13.out⟩
    obtain rfl : v13 = .tuple #[] := hv13;have hk_13 := qh (HK.out.turn HP4.out hT13 not_none (by decide) (by decide));clear hd13 hT13;go_wp2_with fail;go_ret2;exact does_ok (a := (ns2, m)) (s' := s13) (HM4.out.trans (by simp only [runs, HX13.out])) ⟨_, rfl, hk_13.out, HOW.out, H200.out⟩ HP13.out HT13.out (by have := HF4.out; have := HL.out; have := HL13.out; omega)
 ·have bc2 := w_f [41] hc2;have nc2 := wn_f [41] hc2;have HC2 := qh hc2;clear hc2;go_wp2_with fail;refine (mark_fn _ HP1.out).mono ?_;rintro e w14 ⟨rfl, b⟩;have HP14 := qh (HP1.out.below b);have HT14 := qh (HT1.out.trans (Turn.of_below b));have HNM_14 := qh (HNM_1.out.below b);clear b;go_wp2_with fail;go_loopg [1, 6, 7] (T.length + 1) (fun r nm2 more on wr => ∃ (f : Nat) (s' : St) (nv' : NR) (ns2 : List ByteArray) (m : Nat) (b2 : Bool), r = f /\ T.length < f + s'.at' /\ PAt T tv P base s' nv' wr /\ Turn P nv (Xv nm) w wr nv' /\ more = .int .i64 (m : Int) /\ on = .bool b2 /\ Loc wr b nv' 9 nm2 (textsV ns2) /\ (∀ i, Xv nm2 i -> Xv nm i \/ w.heap.size <= i) /\ ns2.length <= 200 /\ s.at' + 1 <= s'.at' /\ (b2 = true -> m = 0) /\ params T ns s = ((if b2 = true then paramsGo T f ns2 else pure (ns2, m)) >>= fun r => expect T wShut >>= fun _ => pure r) s')
  case atStart =>
   exact ⟨T.length + 1, s1, nv1, ns, 0, true, rfl, by omega, HP14.out, HT14.out, rfl, rfl, HNM_14.out, (fun i hi => .inl hi), hlen, (by have := HL1.out; omega), (fun _ => rfl), (by simp only [params, runs, HX1.out, if_neg HC2.out])⟩
  case round =>
   obtain ⟨f15, s15, nv15, ns2, m, b2, hq15, hf15, hP15, hT15, hmore, hon, hk, how, h200, hl, hmb, hm15⟩ := hrel;obtain ⟨f16, rfl⟩ : ∃ k, f15 = k + 1 := ⟨f15 - 1, by have := hP15.here; omega⟩;subst hq15;have HP15 := qh hP15;have HT15 := qh hT15;have HM15 := qh hm15;have HF15 := qh hf15;have HMORE := qh hmore;have HON := qh hon;have HK := qh hk;have HOW := qh how;have H200 := qh h200;have HL := qh hl;have HMB := qh hmb;clear hP15 hT15 hm15 hf15 hmore hon hk how h200 hl hmb;have hme := HMORE.out;subst hme;have hoe := HON.out;subst hoe;clear HMORE HON;obtain ⟨ao2, co2, hsh⟩ := loc_is HK.out (texts_len _);subst hsh;cases b2 with
   | true =>
    have hm0 := HMB.out rfl;subst hm0;clear HMB;by_cases hc17 : markOf (tk T s15) = wDots
    ·have HC17 := qh hc17;clear hc17;go_wp2_with fail;refine (accept_y hE _ HP15.out HC17.out (by decide)).mono ?_;intro e w18 hd18;rcases hidR HT15 hd18 with ⟨a18, s18, v18, nv18, HX18, rfl, hv18, HP18, HT18, hT18, HL18⟩ | ⟨er, l18, nv18, HX18, rfl, HT18⟩;rotate_left
     ·clear hd18;go_wp2_with fail;exact ⟨rfl, does_no (HM15.out.trans (by simp only [paramsGo, runs, HX18.out])) HT18.out⟩
     obtain ⟨rfl, rfl⟩ := hv18;have hk_18 := qh (HK.out.turn HP15.out hT18 not_none (by decide) (by decide));clear hd18 hT18;go_wp2_with fail;go_roundg f16
     case measure => omega
     case rel => exact ⟨f16, s18, nv18, ns2, 1, false, rfl, (by have := HF15.out; have := HL.out; have := HL18.out; omega), HP18.out, HT18.out, rfl, rfl, hk_18.out, HOW.out, H200.out, (by have := HF15.out; have := HL.out; have := HL18.out; omega), (fun h => by first | rfl | cases h), (HM15.out.trans (by simp only [paramsGo, runs, HX18.out]))⟩
    ·have HC17 := qh hc17;clear hc17;go_wp2_with fail;refine (accept_n _ HP15.out HC17.out).mono ?_;intro e w19 hd19;rcases hidR HT15 hd19 with ⟨a19, s19, v19, nv19, HX19, rfl, hv19, HP19, HT19, hT19, HL19⟩ | ⟨er, l19, nv19, HX19, rfl, HT19⟩;rotate_left
     ·clear hd19;go_wp2_with fail;exact ⟨rfl, does_no (HM15.out.trans (by simp only [paramsGo, runs, HX19.out])) HT19.out⟩
     obtain ⟨rfl, rfl⟩ := hv19;have hk_19 := qh (HK.out.turn HP15.out hT19 not_none (by decide) (by decide));clear hd19 hT19;go_wp2_with fail;refine (oneMore_do hE hlow H200.out _ HP19.out (Nat.le_trans hb HT19.out.size) hk_19.out).mono ?_;intro e w20 hd20;rcases does_cases hd20 with ⟨a20, s20, v20, nv20, hx20, rfl, hv20, hP20, hT20, hl20⟩ | ⟨er, l20, nv20, hx20, rfl, hT20⟩;rotate_left
     ·have HX20 := qh hx20;have HT20 := qh (HT19.out.trans' hT20 HOW.out);clear hd20 hx20 hT20;go_wp2_with fail;exact ⟨rfl, does_no (HM15.out.trans (by simp only [paramsGo, runs, HX19.out, HX20.out])) HT20.out⟩
     obtain ⟨hv20, ho20, hn20⟩ := hv20;obtain ⟨ao20, co20, rfl⟩ := loc_is hv20 (texts_len _);have HV20 := qh hv20;have HO20 := qh ho20;have HN20 := qh hn20;have HX20 := qh hx20;have HP20 := qh hP20;have HT20 := qh (HT19.out.trans' hT20 HOW.out);have HL20 := qh hl20;clear hd20 hx20 hP20 hT20 hl20 hv20 ho20 hn20;by_cases hc21 : markOf (tk T s20) = wComma
     ·have HC21 := qh hc21;clear hc21;go_wp2_with fail;refine (accept_y hE _ HP20.out HC21.out (by decide)).mono ?_;intro e w22 hd22;rcases hidR HT20 hd22 with ⟨a22, s22, v22, nv22, HX22, rfl, hv22, HP22, HT22, hT22, HL22⟩ | ⟨er, l22, nv22, HX22, rfl, HT22⟩;rotate_left
      ·clear hd22;go_wp2_with fail;exact ⟨rfl, does_no (HM15.out.trans (by simp only [paramsGo, runs, HX19.out, HX20.out, HX22.out])) HT22.out⟩
      obtain ⟨rfl, rfl⟩ := hv22;have hk_22 := qh (HV20.out.turn HP20.out hT22 not_none (by decide) (by decide));clear hd22 hT22;go_wp2_with fail;go_roundg f16
      case measure => omega
      case rel => exact ⟨f16, s22, nv22, _, 0, true, rfl, (by have := HF15.out; have := HL.out; have := HL19.out; have := HL20.out; have := HL22.out; omega), HP22.out, HT22.out, rfl, rfl, hk_22.out, (fun i hi => (HO20.out i hi).elim (HOW.out i) (fun h => .inr (Nat.le_trans HT19.out.size h))), HN20.out, (by have := HF15.out; have := HL.out; have := HL19.out; have := HL20.out; have := HL22.out; omega), (fun h => by first | rfl | cases h), (HM15.out.trans (by simp only [paramsGo, runs, HX19.out, HX20.out, HX22.out]))⟩
     ·have HC21 := qh hc21;clear hc21;go_wp2_with fail;refine (accept_n _ HP20.out HC21.out).mono ?_;intro e w23 hd23;rcases hidR HT20 hd23 with ⟨a23, s23, v23, nv23, HX23, rfl, hv23, HP23, HT23, hT23, HL23⟩ | ⟨er, l23, nv23, HX23, rfl, HT23⟩;rotate_left
      ·clear hd23;go_wp2_with fail;exact ⟨rfl, does_no (HM15.out.trans (by simp only [paramsGo, runs, HX19.out, HX20.out, HX23.out])) HT23.out⟩
      obtain ⟨rfl, rfl⟩ := hv23;have hk_23 := qh (HV20.out.turn HP20.out hT23 not_none (by decide) (by decide));clear hd23 hT23;go_wp2_with fail;go_roundg f16
      case measure => omega
      case rel => exact ⟨f16, s23, nv23, _, 0, false, rfl, (by have := HF15.out; have := HL.out; have := HL19.out; have := HL20.out; have := HL23.out; omega), HP23.out, HT23.out, rfl, rfl, hk_23.out, (fun i hi => (HO20.out i hi).elim (HOW.out i) (fun h => .inr (Nat.le_trans HT19.out.size h))), HN20.out, (by have := HF15.out; have := HL.out; have := HL19.out; have := HL20.out; have := HL23.out; omega), (fun h => by first | rfl | cases h), (HM15.out.trans (by simp only [paramsGo, runs, HX19.out, HX20.out, HX23.out]))⟩
   | false =>
    go_wp2_with fail;refine (expect_do hE _ HP15.out (m := wShut) (by decide)).mono ?_;intro e w24 hd24;rcases hidR HT15 hd24 with ⟨a24, s24, v24, nv24, HX24, rfl, hv24, HP24, HT24, hT24, HL24⟩ | ⟨er, l24, nv24, HX24, rfl, HT24⟩;rotate_left
    ·clear hd24;go_wp2_with fail;exact ⟨rfl, does_no (HM15.out.trans (by simp only [runs, HX24.out])) HT24.out⟩
    obtain rfl : v24 = .tuple #[] := hv24;have hk_24 := qh (HK.out.turn HP15.out hT24 not_none (by decide) (by decide));clear hd24 hT24;go_wp2_with fail;go_ret2;exact does_ok (a := (ns2, m)) (s' := s24) (HM15.out.trans (by simp only [runs, HX24.out])) ⟨_, rfl, hk_24.out, HOW.out, H200.out⟩ HP24.out HT24.out (by have := HF15.out; have := HL.out; have := HL24.out; omega)
theorem body_do {ns : List ByteArray} {line : Nat} {nm : Value} {b : Nat} (hE : EndT T) (hw : IntKind.i64.wrap (L + 1) = L + 1) (hd : DFn T tv P base d (L + 1)) (hlow : Low tv P b) (hlen : ns.length <= 200) (w : World) (h : PAt T tv P base s nv w) (hb : b <= w.heap.size) (hnm : Loc w b nv 9 nm (textsV ns)) : Calls Tryz.prog 146 #[.pointer (some ⟨P, 0, none⟩), nm, .int .i64 (line : Int), .int .i64 L] w (Does T tv P base (bodyM T d ns line) s nv (Xv nm) w vInt 1) := by
 have HNM := qh hnm;have HP0 := qh h;have HT0 := qh (show Turn P nv (Xv nm) w w nv from Turn.of_below (Below.refl _ _));clear h hnm;go_enter Tryz.func146, Tryz.ntmps146;go_wp2_with fail;refine (params_do hE hlow hlen _ HP0.out hb HNM.out).mono ?_;intro e w1 hd1;rcases does_cases hd1 with ⟨a1, s1, v1, nv1, hx1, rfl, hv1, hP1, hT1, hl1⟩ | ⟨er, l1, nv1, hx1, rfl, hT1⟩;rotate_left
 ·have HX1 := qh hx1;have HT1 := qh (HT0.out.trans' hT1 (fun i hi => .inl hi));clear hd1 hx1 hT1;go_wp2_with fail;exact ⟨rfl, does_no (by simp only [bodyM, runs, HX1.out]) HT1.out⟩
 obtain ⟨q1, rfl, hv1, ho1, hn1⟩ := hv1;obtain ⟨ao1, co1, rfl⟩ := loc_is hv1 (texts_len _);have HV1 := qh hv1;have HO1 := qh ho1;have HN1 := qh hn1;have HX1 := qh hx1;have HP1 := qh hP1;have HT1 := qh (HT0.out.trans' hT1 (fun i hi => .inl hi));have HL1 := qh hl1;clear hd1 hx1 hP1 hT1 hl1 hv1 ho1 hn1;go_wp2_with fail;refine (hd.block _ _ _ HP1.out).mono ?_;intro e w2 hd2;rcases hidR HT1 hd2 with ⟨a2, s2, v2, nv2, HX2, rfl, hv2, HP2, HT2, hT2, HL2⟩ | ⟨er, l2, nv2, HX2, rfl, HT2⟩;rotate_left
 ·clear hd2;go_wp2_with fail;exact ⟨rfl, does_no (by simp only [bodyM, runs, HX1.out, HX2.out]) HT2.out⟩
 obtain ⟨rfl, hr2⟩ : v2 = .int .i64 a2 /\ Rng a2 nv2 := hv2;have HR2 := qh hr2;have HNM_2 := qh (HV1.out.turn HP1.out hT2 not_none (by decide) (by decide));clear hd2 hT2 hr2;go_wp2_with fail;refine (expect_do hE _ HP2.out (m := wEnd) (by decide)).mono ?_;intro e w3 hd3;rcases hidR HT2 hd3 with ⟨a3, s3, v3, nv3, HX3, rfl, hv3, HP3, HT3, hT3, HL3⟩ | ⟨er, l3, nv3, HX3, rfl, HT3⟩;rotate_left
 ·clear hd3;go_wp2_with fail;exact ⟨rfl, does_no (by simp only [bodyM, runs, HX1.out, HX2.out, HX3.out]) HT3.out⟩
 obtain rfl : v3 = .tuple #[] := hv3;have HNM_3 := qh (HNM_2.out.turn HP2.out hT3 not_none (by decide) (by decide));have HR2_3 := qh (hT3.rng HR2.out);clear hd3 hT3;go_wp2_with fail;refine (add_kids (n := 1) w3 HP3.out ⟨26, (a1.2 : Nat), ⟨#[]⟩, a1.1, [a2], (line : Nat)⟩ _ _ _ _ (Nat.le_trans hb HT3.out.size) HNM_3.out rfl rfl (by decide) rfl rfl rfl rfl).mono ?_;intro e w4 hd4;rcases does_cases hd4 with ⟨a4, s4, v4, nv4, hx4, rfl, hv4, hP4, hT4, hl4⟩ | ⟨er, l4, nv4, hx4, rfl, hT4⟩;rotate_left
 ·have HX4 := qh hx4;have HT4 := qh (HT3.out.trans' hT4 HO1.out);clear hd4 hx4 hT4;go_wp2_with fail;exact ⟨rfl, does_no (by simp only [bodyM, runs, HX1.out, HX2.out, HX3.out, HX4.out]) HT4.out⟩
 obtain ⟨rfl, hr4⟩ : v4 = .int .i64 a4 /\ Rng a4 nv4 := hv4;have HR4 := qh hr4;have HX4 := qh hx4;have HR2_4 := qh (hT4.rng HR2_3.out);have HP4 := qh hP4;have HT4 := qh (HT3.out.trans' hT4 HO1.out);have HL4 := qh hl4;clear hd4 hx4 hP4 hT4 hl4 hr4;go_wp2_with fail;go_ret;exact does_ok (a := a4) (s' := s4) (by simp only [bodyM, runs, HX1.out, HX2.out, HX3.out, HX4.out]) ⟨rfl, HR4.out⟩ HP4.out HT4.out (by have := HL1.out; have := HL2.out; have := HL3.out; have := HL4.out; omega)
theorem table_do (hE : EndT T) (hw : IntKind.i64.wrap (L + 1) = L + 1) (hd : DFn T tv P base d (L + 1)) (w : World) (h : PAt T tv P base s nv w) : Calls Tryz.prog 185 #[.pointer (some ⟨P, 0, none⟩), .int .i64 L] w (Does T tv P base (tableM T d) s nv Xn w vInt 1) := by
 have HLOW := qh h.lows;have HP0 := qh h;have HT0 := qh (show Turn P nv Xn w w nv from Turn.of_below (Below.refl _ _));clear h;go_enter Tryz.func185, Tryz.ntmps185;go_wp2_with fail;refine (line_fn _ HP0.out).mono ?_;rintro e w1 ⟨rfl, b⟩;have HP1 := qh (HP0.out.below b);have HT1 := qh (HT0.out.trans (Turn.of_below b));clear b;go_wp2_with fail;refine (expect_do hE _ HP1.out (m := wOpenC) (by decide)).mono ?_;intro e w2 hd2;rcases hidC HT1 hd2 with ⟨a2, s2, v2, nv2, HX2, rfl, hv2, HP2, HT2, HL2⟩ | ⟨er, l2, nv2, HX2, rfl, HT2⟩;rotate_left
 ·clear hd2;go_wp2_with fail;exact ⟨rfl, does_no (by simp only [tableM, runs, HX2.out]) HT2.out⟩
 obtain rfl : v2 = .tuple #[] := hv2;clear hd2;go_wp2_with fail;go_loopg [6, 7] (T.length + 1) (fun r kv more wr => ∃ (f : Nat) (s' : St) (nv' : NR) (ks : List Int) (b : Bool), r = f /\ T.length < f + s'.at' /\ PAt T tv P base s' nv' wr /\ Turn P nv Xn w wr nv' /\ more = .bool b /\ Loc wr w.heap.size nv' 3 kv (intsV ks) /\ ks.length <= s'.at' /\ s.at' + 1 <= s'.at' /\ tableM T d s = ((if b = true then tableGo T d f ks else pure ks) >>= fun ks => expect T wShutC >>= fun _ => add T ⟨35, 0, ⟨#[]⟩, [], ks, ((tk T s).line : Nat)⟩) s')
 case atStart =>
  exact ⟨T.length + 1, s2, nv2, [], true, rfl, by omega, HP2.out, HT2.out, rfl, Loc.nil _ _ _ _, (Nat.zero_le _), (by have := HL2.out; omega), (by simp only [tableM, runs, HX2.out])⟩
 case round =>
  obtain ⟨f3, s3, nv3, ks, b, hq3, hf3, hP3, hT3, hmore, hk, hlen, hl, hm3⟩ := hrel;obtain ⟨f4, rfl⟩ : ∃ k, f3 = k + 1 := ⟨f3 - 1, by have := hP3.here; omega⟩;subst hq3;have HP3 := qh hP3;have HT3 := qh hT3;have HM3 := qh hm3;have HF3 := qh hf3;have HMORE := qh hmore;have HK := qh hk;have HLEN := qh hlen;have HL := qh hl;clear hP3 hT3 hm3 hf3 hmore hk hlen hl;have hme := HMORE.out;subst hme;clear HMORE;obtain ⟨ao, co, hsh⟩ := loc_is HK.out (ints_len _);subst hsh;cases b with
  | true =>
   by_cases hc5 : markOf (tk T s3) = wShutC
   ·have bc5 := w_t [125] hc5;have nc5 := wn_t [125] hc5;have HC5 := qh hc5;clear hc5;go_wp2_with fail;refine (mark_fn _ HP3.out).mono ?_;rintro e w6 ⟨rfl, b⟩;have HP6 := qh (HP3.out.below b);have HT6 := qh (HT3.out.trans (Turn.of_below b));have hk_6 := qh (HK.out.below b);clear b;go_wp2_with fail;refine (expect_do hE _ HP6.out (m := wShutC) (by decide)).mono ?_;intro e w7 hd7;rcases hidR HT6 hd7 with ⟨a7, s7, v7, nv7, HX7, rfl, hv7, HP7, HT7, hT7, HL7⟩ | ⟨er, l7, nv7, HX7, rfl, HT7⟩;rotate_left
    ·clear hd7;go_wp2_with fail;exact ⟨rfl, does_no (HM3.out.trans (by simp only [tableGo, runs, if_pos HC5.out, HX7.out])) HT7.out⟩
    obtain rfl : v7 = .tuple #[] := hv7;have hk_7 := qh (hk_6.out.turn HP6.out hT7 not_none (by decide) (by decide));clear hd7 hT7;go_wp2_with fail;refine (add_do _ HP7.out ⟨35, 0, ⟨#[]⟩, [], ks, ((tk T s).line : Nat)⟩ _ _ _ _ (Loc.nil _ _ _ _) hk_7.out rfl rfl rfl rfl).mono ?_;intro e w8 hd8;rcases does_cases hd8 with ⟨a8, s8, v8, nv8, hx8, rfl, hv8, hP8, hT8, hl8⟩ | ⟨er, l8, nv8, hx8, rfl, hT8⟩;rotate_left
    ·have HX8 := qh hx8;have HT8 := qh (HT7.out.trans' hT8 (fun i hi => hi.elim (fun h => (nil_X h).elim) (own_above hk_7.out i)));clear hd8 hx8 hT8;go_wp2_with fail;exact ⟨rfl, does_no (HM3.out.trans (by simp only [tableGo, runs, if_pos HC5.out, HX7.out, HX8.out])) HT8.out⟩
    obtain ⟨rfl, hr8⟩ : v8 = .int .i64 a8 /\ Rng a8 nv8 := hv8;have HR8 := qh hr8;have HX8 := qh hx8;have HP8 := qh hP8;have HT8 := qh (HT7.out.trans' hT8 (fun i hi => hi.elim (fun h => (nil_X h).elim) (own_above hk_7.out i)));have HL8 := qh hl8;clear hd8 hx8 hP8 hT8 hl8 hr8;go_wp2_with fail;go_ret;exact does_ok (a := a8) (s' := s8) (HM3.out.trans (by simp only [tableGo, runs, if_pos HC5.out, HX7.out, HX8.out])) ⟨rfl, HR8.out⟩ HP8.out HT8.out (by have := HF3.out; have := HLEN.out; have := HL.out; have := HL7.out; have := HL8.out; omega)
   ·have bc5 := w_f [125] hc5;have nc5 := wn_f [125] hc5;have HC5 := qh hc5;clear hc5;go_wp2_with fail;refine (mark_fn _ HP3.out).mono ?_;rintro e w9 ⟨rfl, b⟩;have HP9 := qh (HP3.out.below b);have HT9 := qh (HT3.out.trans (Turn.of_below b));have hk_9 := qh (HK.out.below b);clear b;go_wp2_with fail;refine (item_do hE hd _ HP9.out).mono ?_;intro e w10 hd10;rcases hidR HT9 hd10 with ⟨a10, s10, v10, nv10, HX10, rfl, hv10, HP10, HT10, hT10, HL10⟩ | ⟨er, l10, nv10, HX10, rfl, HT10⟩;rotate_left
    ·clear hd10;go_wp2_with fail;exact ⟨rfl, does_no (HM3.out.trans (by simp only [tableGo, runs, if_neg HC5.out, HX10.out])) HT10.out⟩
    obtain ⟨rfl, hr10⟩ : v10 = .int .i64 a10 /\ Rng a10 nv10 := hv10;have HR10 := qh hr10;have hk_10 := qh (hk_9.out.turn HP9.out hT10 not_none (by decide) (by decide));clear hd10 hT10 hr10;have hlen2 : ks.length <= 100000 := by have := HLEN.out; have := HP10.out.here; have := HP10.out.few; have := HL10.out; omega
    go_wp2_with (at_builtin; go_loud (refine wpList_append_kid rfl (.tmp 24) (.tmp 29) rfl HP10.out HLOW.out HT10.out.size _ ks a10 rfl hk_10.out _ rfl rfl (by omega) ?_));intro v11 w11 hv11 hP11 hT11
    first | obtain ⟨ao11, co11, rfl⟩ := loc_is hv11 (ints_snoc _ _) | obtain ⟨ao11, co11, rfl⟩ := loc_is hv11 (ints_len _)
    have HV11 := qh hv11;have HP11 := qh hP11;have HT11 := qh (HT10.out.trans' hT11 (own_above hk_10.out));clear hv11 hP11 hT11;clear hlen2;by_cases hc12 : markOf (tk T s10) = wComma
    ·have HC12 := qh hc12;clear hc12;go_wp2_with fail;refine (accept_y hE _ HP11.out HC12.out (by decide)).mono ?_;intro e w13 hd13;rcases hidR HT11 hd13 with ⟨a13, s13, v13, nv13, HX13, rfl, hv13, HP13, HT13, hT13, HL13⟩ | ⟨er, l13, nv13, HX13, rfl, HT13⟩;rotate_left
     ·clear hd13;go_wp2_with fail;exact ⟨rfl, does_no (HM3.out.trans (by simp only [tableGo, runs, if_neg HC5.out, HX10.out, HX13.out])) HT13.out⟩
     obtain ⟨rfl, rfl⟩ := hv13;have hk_13 := qh (HV11.out.turn HP11.out hT13 not_none (by decide) (by decide));have HR10_13 := qh (hT13.rng HR10.out);clear hd13 hT13;go_wp2_with fail;go_roundg f4
     case measure => omega
     case rel => exact ⟨f4, s13, nv13, ks ++ [a10], true, rfl, (by have := HF3.out; have := HLEN.out; have := HL.out; have := HL10.out; have := HL13.out; omega), HP13.out, HT13.out, rfl, hk_13.out, (by rw [List.length_append, List.length_singleton]; have := HLEN.out; have := HF3.out; have := HLEN.out; have := HL.out; have := HL10.out; have := HL13.out;  omega), (by have := HF3.out; have := HLEN.out; have := HL.out; have := HL10.out; have := HL13.out; omega), (HM3.out.trans (by simp only [tableGo, runs, if_neg HC5.out, HX10.out, HX13.out]))⟩
    ·have HC12 := qh hc12;clear hc12;go_wp2_with fail;refine (accept_n _ HP11.out HC12.out).mono ?_;intro e w14 hd14;rcases hidR HT11 hd14 with ⟨a14, s14, v14, nv14, HX14, rfl, hv14, HP14, HT14, hT14, HL14⟩ | ⟨er, l14, nv14, HX14, rfl, HT14⟩;rotate_left
     ·clear hd14;go_wp2_with fail;exact ⟨rfl, does_no (HM3.out.trans (by simp only [tableGo, runs, if_neg HC5.out, HX10.out, HX14.out])) HT14.out⟩
     obtain ⟨rfl, rfl⟩ := hv14;have hk_14 := qh (HV11.out.turn HP11.out hT14 not_none (by decide) (by decide));have HR10_14 := qh (hT14.rng HR10.out);clear hd14 hT14;by_cases hc15 : markOf (tk T s14) = wSemi
     ·have HC15 := qh hc15;clear hc15;go_wp2_with fail;refine (accept_y hE _ HP14.out HC15.out (by decide)).mono ?_;intro e w16 hd16;rcases hidR HT14 hd16 with ⟨a16, s16, v16, nv16, HX16, rfl, hv16, HP16, HT16, hT16, HL16⟩ | ⟨er, l16, nv16, HX16, rfl, HT16⟩;rotate_left
      ·clear hd16;go_wp2_with fail;exact ⟨rfl, does_no (HM3.out.trans (by simp only [tableGo, runs, if_neg HC5.out, HX10.out, HX14.out, HX16.out])) HT16.out⟩
      obtain ⟨rfl, rfl⟩ := hv16;have hk_16 := qh (hk_14.out.turn HP14.out hT16 not_none (by decide) (by decide));have HR10_16 := qh (hT16.rng HR10_14.out);clear hd16 hT16;go_wp2_with fail;go_roundg f4
      case measure => omega
      case rel => exact ⟨f4, s16, nv16, ks ++ [a10], true, rfl, (by have := HF3.out; have := HLEN.out; have := HL.out; have := HL10.out; have := HL14.out; have := HL16.out; omega), HP16.out, HT16.out, rfl, hk_16.out, (by rw [List.length_append, List.length_singleton]; have := HLEN.out; have := HF3.out; have := HLEN.out; have := HL.out; have := HL10.out; have := HL14.out; have := HL16.out;  omega), (by have := HF3.out; have := HLEN.out; have := HL.out; have := HL10.out; have := HL14.out; have := HL16.out; omega), (HM3.out.trans (by simp only [tableGo, runs, if_neg HC5.out, HX10.out, HX14.out, HX16.out]))⟩
     ·have HC15 := qh hc15;clear hc15;go_wp2_with fail;refine (accept_n _ HP14.out HC15.out).mono ?_;intro e w17 hd17;rcases hidR HT14 hd17 with ⟨a17, s17, v17, nv17, HX17, rfl, hv17, HP17, HT17, hT17, HL17⟩ | ⟨er, l17, nv17, HX17, rfl, HT17⟩;rotate_left
      ·clear hd17;go_wp2_with fail;exact ⟨rfl, does_no (HM3.out.trans (by simp only [tableGo, runs, if_neg HC5.out, HX10.out, HX14.out, HX17.out])) HT17.out⟩
      obtain ⟨rfl, rfl⟩ := hv17;have hk_17 := qh (hk_14.out.turn HP14.out hT17 not_none (by decide) (by decide));have HR10_17 := qh (hT17.rng HR10_14.out);clear hd17 hT17;go_wp2_with fail;go_roundg f4
      case measure => omega
      case rel => exact ⟨f4, s17, nv17, ks ++ [a10], false, rfl, (by have := HF3.out; have := HLEN.out; have := HL.out; have := HL10.out; have := HL14.out; have := HL17.out; omega), HP17.out, HT17.out, rfl, hk_17.out, (by rw [List.length_append, List.length_singleton]; have := HLEN.out; have := HF3.out; have := HLEN.out; have := HL.out; have := HL10.out; have := HL14.out; have := HL17.out;  omega), (by have := HF3.out; have := HLEN.out; have := HL.out; have := HL10.out; have := HL14.out; have := HL17.out; omega), (HM3.out.trans (by simp only [tableGo, runs, if_neg HC5.out, HX10.out, HX14.out, HX17.out]))⟩
  | false =>
   go_wp2_with fail;refine (expect_do hE _ HP3.out (m := wShutC) (by decide)).mono ?_;intro e w18 hd18;rcases hidR HT3 hd18 with ⟨a18, s18, v18, nv18, HX18, rfl, hv18, HP18, HT18, hT18, HL18⟩ | ⟨er, l18, nv18, HX18, rfl, HT18⟩;rotate_left
   ·clear hd18;go_wp2_with fail;exact ⟨rfl, does_no (HM3.out.trans (by simp only [runs, HX18.out])) HT18.out⟩
   obtain rfl : v18 = .tuple #[] := hv18;have hk_18 := qh (HK.out.turn HP3.out hT18 not_none (by decide) (by decide));clear hd18 hT18;go_wp2_with fail;refine (add_do _ HP18.out ⟨35, 0, ⟨#[]⟩, [], ks, ((tk T s).line : Nat)⟩ _ _ _ _ (Loc.nil _ _ _ _) hk_18.out rfl rfl rfl rfl).mono ?_;intro e w19 hd19;rcases does_cases hd19 with ⟨a19, s19, v19, nv19, hx19, rfl, hv19, hP19, hT19, hl19⟩ | ⟨er, l19, nv19, hx19, rfl, hT19⟩;rotate_left
   ·have HX19 := qh hx19;have HT19 := qh (HT18.out.trans' hT19 (fun i hi => hi.elim (fun h => (nil_X h).elim) (own_above hk_18.out i)));clear hd19 hx19 hT19;go_wp2_with fail;exact ⟨rfl, does_no (HM3.out.trans (by simp only [runs, HX18.out, HX19.out])) HT19.out⟩
   obtain ⟨rfl, hr19⟩ : v19 = .int .i64 a19 /\ Rng a19 nv19 := hv19;have HR19 := qh hr19;have HX19 := qh hx19;have HP19 := qh hP19;have HT19 := qh (HT18.out.trans' hT19 (fun i hi => hi.elim (fun h => (nil_X h).elim) (own_above hk_18.out i)));have HL19 := qh hl19;clear hd19 hx19 hP19 hT19 hl19 hr19;go_wp2_with fail;go_ret;exact does_ok (a := a19) (s' := s19) (HM3.out.trans (by simp only [runs, HX18.out, HX19.out])) ⟨rfl, HR19.out⟩ HP19.out HT19.out (by have := HF3.out; have := HLEN.out; have := HL.out; have := HL18.out; have := HL19.out; omega)
end
end Go.Proofs.YtnkejjlidgnkkaaGreatDoor.Ps
namespace Go.Proofs.YtnkejjlidgnkkaaGreatDoor.Ps

open Go.Lib renaming hid → qh
open Go Go.RowKit Go.ChangeShapes Go.WideShapes Go.Shelf
open Go.Proofs.YtnkejjlidgnkkaaGreatDoor.Nd
open Go.Proofs.YtnkejjlidgnkkaaGreatDoor.Lex (Tok tokensL TokReads)
section
variable {T : List Tok} {tv : Value} {P base : Nat} {s : St} {nv : NR} {d : Fns}
theorem wpList_append_any {w : World} {ops : Array Go.Oper} {rest : List Go.Oper} {o : Go.Oper} {a : Act} {Q : Exit -> Act -> World -> Prop} (hgd : o.guard = none) (x y : Operand)
  (ho : o.op = .call { callee := .builtin .append, args := #[x, y], argTypes := #[33, 33] })
  (h : PAt T tv P base s nv w) {b b2 : Nat} (hlow : Low tv P b) (hb : b <= w.heap.size) (kv mv : Value) (ks ms : List Int) (hs : a.eval x = kv) (L : Loc w b nv 3 kv (intsV ks)) (hx : a.eval y = mv) (L2 : Loc w b2 nv 3 mv (intsV ms))
  (hl : ks.length + ms.length <= 1000000)
  (hq : ∀ v' w', Loc w' b nv 3 v' (intsV (ks ++ ms)) -> PAt T tv P base s nv w' -> Turn P nv (Xv kv) w w' nv -> wpList Tryz.prog ops Q rest (a.put o.dst v') w') :
  wpList Tryz.prog ops Q (o :: rest) a w := by
 by_cases hne : ms = []
 ·subst hne;obtain ⟨i, hi, hz, hsize, hby⟩ := info_parts infoI;obtain ⟨ak, ck, hk⟩ := loc_is L (ints_len ks);obtain ⟨am, cm, hm⟩ := loc_is L2 (ints_len []);have hsrc : Src Tryz.prog i.size 33 (.slice am 0 cm) 0 [] w := by
   cases am with
   | none => exact Src.ofNil w Tryz.underlying33 cm
   | some ad => exact Src.ofSlice w Tryz.underlying33 ad 0 cm [] (by simp) (fun j u hj => by simp at hj) (fun u hu => by cases hu)
  have hcap : ks.length <= ck := by
   rcases L.own.2 with ⟨e, en⟩ | ⟨g, cap, cur, e, _, _, hn, _⟩
   ·rw [ints_len] at en; omega
   ·rw [hk] at e
    injection e with e1 e2 e3
    omega
  have hrun := run_append_nothing (P := Tryz.prog) w 33 33 o.type 3 i Tryz.underlying33 hi ak ks.length ck hcap _ hsrc;refine wpList_plain hgd fun K hK' => ?_
  unfold Oper.wp;have hs' : a.eval x = .slice ak ks.length ck := hs.trans hk;have hx' : a.eval y = .slice am 0 cm := hx.trans hm;simp [execOp, ho, resolve, invoke, builtin, hs', hx', hrun, Result.andThen];refine hK' _ _ (hq _ _ ?_ h (Turn.of_below (Below.refl _ _)));rw [<- hk, List.append_nil];exact L
 ·exact wpList_append_kids hgd x y ho h hlow hb kv mv ks ms hs L hx L2 hne hl hq
theorem begin_b (lev : Nat) (w : World) (hl : lev <= 100) : Calls Tryz.prog 72 #[.pointer (some ⟨P, 0, none⟩), .int .i64 (lev : Int)] w fun e w' => e = .returned (.tuple #[]) /\ Below w.heap.size w w' := by
 refine (begin_yes lev w hl).mono ?_;rintro e w' ⟨rfl, rfl⟩;exact ⟨rfl, Below.refl _ _⟩
theorem unary_b (m : ByteArray) (w : World) : Calls Tryz.prog 169 #[.string m] w fun e w' => e = .returned (.int .u8 (unOf m : Int)) /\ Below w.heap.size w w' := by
 refine (unary_fn m w).mono ?_;rintro e w' ⟨rfl, rfl⟩;exact ⟨rfl, Below.refl _ _⟩
theorem ints_app (ks ms : List Int) : (intsV (ks ++ ms)).length = ks.length + ms.length := by rw [ints_len, List.length_append]
theorem pair_len {a : List Int} {s' : St} (h : pairM T d s = .ok a s') : a.length = 2 := by
 unfold pairM at h;simp only [run_bind, run_next] at h;cases h1 : d.expr 0 ⟨s.at' + 1, s.l⟩ with
 | no e l => rw [h1] at h; cases h
 | ok c s1 =>
  rw [h1] at h
  dsimp only at h
  cases h2 : expect T wThen s1 with
  | no e l => rw [h2] at h; cases h
  | ok u s2 =>
   rw [h2] at h
   dsimp only at h
   cases h3 : d.block s2 with
   | no e l => rw [h3] at h; cases h
   | ok b s3 => rw [h3] at h; cases h; rfl
theorem localStat_eq : localStat T d = (do
  let line <- lineM T
  nextM
  if (<- markM T) = wFunction then lfM T d line
  else
   let ns <- names T
   let ks <- (do if <- accept T wEq then d.exprs else pure [])
   add T ⟨2, 0, ⟨#[]⟩, ns, ks, line⟩) := rfl
theorem statM_eq : statM T d = (do
  let t <- tokM T
  if markOf t = wWhile then whileM T d else if markOf t = wDo then doM T d else if markOf t = wRepeat then repeatM T d
  else if markOf t = wIf then ifStat T d else if markOf t = wFor then forStat T d else if markOf t = wFunction then functionStat T d
  else if markOf t = wLocal then localStat T d else if markOf t = wColons \/ markOf t = wGoto \/ markOf t = wBreak then jumpStat T else prefixStat T d) := by
 funext s
 unfold statM whileM doM repeatM;simp only [run_bind, run_tok];by_cases h1 : markOf (tk T s) = wWhile
 ·simp only [if_pos h1, run_bind, run_line]
 ·by_cases h2 : markOf (tk T s) = wDo
  ·simp only [if_neg h1, if_pos h2, run_bind, run_line]
  ·by_cases h3 : markOf (tk T s) = wRepeat
   ·simp only [if_neg h1, if_neg h2, if_pos h3, run_bind, run_line]
   ·simp only [if_neg h1, if_neg h2, if_neg h3]
end
end Go.Proofs.YtnkejjlidgnkkaaGreatDoor.Ps
