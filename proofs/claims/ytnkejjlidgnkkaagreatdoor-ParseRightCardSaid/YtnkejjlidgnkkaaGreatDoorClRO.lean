/-
  A part of the proof.
-/
import Derived.Deep.RegionHeld
import Derived.Deep.RegionHeld3
import Derived.Lib.Hide
import Derived.Test.YtnkejjlidgnkkaaGreatDoorClRL
import Derived.Test.YtnkejjlidgnkkaaGreatDoorClRM
import Derived.Test.YtnkejjlidgnkkaaGreatDoorClRN
set_option maxRecDepth 100000
set_option maxHeartbeats 40000000
namespace Go.Proofs.YtnkejjlidgnkkaaGreatDoor.Ps

open Go.Lib renaming hid → qh
open Go Go.RowKit Go.ChangeShapes Go.WideShapes Go.Shelf
open Go.Proofs.YtnkejjlidgnkkaaGreatDoor.Nd
open Go.Proofs.YtnkejjlidgnkkaaGreatDoor.Lex (Tok tokensL TokReads)
section
variable {T : List Tok} {tv : Value} {P base : Nat} {s : St} {nv : NR} {d : Fns} {L : Int}
theorem stat_do (hE : EndT T) (hw : IntKind.i64.wrap (L + 1) = L + 1) (hd : DFn T tv P base d L) (hf : ∀ s nv w, PAt T tv P base s nv w -> (tk T s).k ≠ 6 -> Calls Tryz.prog 118 #[.pointer (some ⟨P, 0, none⟩), .int .i64 L] w (Does T tv P base (forStat T d) s nv Xn w vInt 1)) (w : World) (h : PAt T tv P base s nv w) : Calls Tryz.prog 78 #[.pointer (some ⟨P, 0, none⟩), .int .i64 L] w (Does T tv P base (statM T d) s nv Xn w vInt 1) := by
 have HP0 := qh h;have HT0 := qh (show Turn P nv Xn w w nv from Turn.of_below (Below.refl _ _));clear h;go_enter Tryz.func78, Tryz.ntmps78;by_cases hc1 : markOf (tk T s) = wWhile
 ·have bc1 := w_t [119, 104, 105, 108, 101] hc1;have nc1 := wn_t [119, 104, 105, 108, 101] hc1;have HC1 := qh hc1;clear hc1;go_wp2_with fail;refine (mark_fn _ HP0.out).mono ?_;rintro e w2 ⟨rfl, b⟩;have HP2 := qh (HP0.out.below b);have HT2 := qh (HT0.out.trans (Turn.of_below b));clear b;go_wp2_with fail;refine (while_fn hE hd (mark_no HC1.out (by decide)) _ HP2.out).mono ?_;intro e w3 hd3;rcases hidC HT2 hd3 with ⟨a3, s3, v3, nv3, HX3, rfl, hv3, HP3, HT3, HL3⟩ | ⟨er, l3, nv3, HX3, rfl, HT3⟩;rotate_left
  ·clear hd3;go_wp2_with fail;exact ⟨rfl, does_no (by simp only [statM_eq, runs, if_pos HC1.out, HX3.out]) HT3.out⟩
  obtain ⟨rfl, hr3⟩ : v3 = .int .i64 a3 /\ Rng a3 nv3 := hv3;have HR3 := qh hr3;clear hd3 hr3;go_wp2_with fail;go_ret;exact does_ok (a := a3) (s' := s3) (by simp only [statM_eq, runs, if_pos HC1.out, HX3.out]) ⟨rfl, HR3.out⟩ HP3.out HT3.out (by have := HL3.out; omega)
 ·have bc1 := w_f [119, 104, 105, 108, 101] hc1;have nc1 := wn_f [119, 104, 105, 108, 101] hc1;have HC1 := qh hc1;clear hc1;by_cases hc4 : markOf (tk T s) = wDo
  ·have bc4 := w_t [100, 111] hc4;have nc4 := wn_t [100, 111] hc4;have HC4 := qh hc4;clear hc4;go_wp2_with fail;refine (mark_fn _ HP0.out).mono ?_;rintro e w5 ⟨rfl, b⟩;have HP5 := qh (HP0.out.below b);have HT5 := qh (HT0.out.trans (Turn.of_below b));clear b;go_wp2_with fail;refine (do_fn hE hd _ HP5.out).mono ?_;intro e w6 hd6;rcases hidC HT5 hd6 with ⟨a6, s6, v6, nv6, HX6, rfl, hv6, HP6, HT6, HL6⟩ | ⟨er, l6, nv6, HX6, rfl, HT6⟩;rotate_left
   ·clear hd6;go_wp2_with fail;exact ⟨rfl, does_no (by simp only [statM_eq, runs, if_neg HC1.out, if_pos HC4.out, HX6.out]) HT6.out⟩
   obtain ⟨rfl, hr6⟩ : v6 = .int .i64 a6 /\ Rng a6 nv6 := hv6;have HR6 := qh hr6;clear hd6 hr6;go_wp2_with fail;go_ret;exact does_ok (a := a6) (s' := s6) (by simp only [statM_eq, runs, if_neg HC1.out, if_pos HC4.out, HX6.out]) ⟨rfl, HR6.out⟩ HP6.out HT6.out (by have := HL6.out; omega)
  ·have bc4 := w_f [100, 111] hc4;have nc4 := wn_f [100, 111] hc4;have HC4 := qh hc4;clear hc4;by_cases hc7 : markOf (tk T s) = wRepeat
   ·have bc7 := w_t [114, 101, 112, 101, 97, 116] hc7;have nc7 := wn_t [114, 101, 112, 101, 97, 116] hc7;have HC7 := qh hc7;clear hc7;go_wp2_with fail;refine (mark_fn _ HP0.out).mono ?_;rintro e w8 ⟨rfl, b⟩;have HP8 := qh (HP0.out.below b);have HT8 := qh (HT0.out.trans (Turn.of_below b));clear b;go_wp2_with fail;refine (repeat_fn hE hd (mark_no HC7.out (by decide)) _ HP8.out).mono ?_;intro e w9 hd9;rcases hidC HT8 hd9 with ⟨a9, s9, v9, nv9, HX9, rfl, hv9, HP9, HT9, HL9⟩ | ⟨er, l9, nv9, HX9, rfl, HT9⟩;rotate_left
    ·clear hd9;go_wp2_with fail;exact ⟨rfl, does_no (by simp only [statM_eq, runs, if_neg HC1.out, if_neg HC4.out, if_pos HC7.out, HX9.out]) HT9.out⟩
    obtain ⟨rfl, hr9⟩ : v9 = .int .i64 a9 /\ Rng a9 nv9 := hv9;have HR9 := qh hr9;clear hd9 hr9;go_wp2_with fail;go_ret;exact does_ok (a := a9) (s' := s9) (by simp only [statM_eq, runs, if_neg HC1.out, if_neg HC4.out, if_pos HC7.out, HX9.out]) ⟨rfl, HR9.out⟩ HP9.out HT9.out (by have := HL9.out; omega)
   ·have bc7 := w_f [114, 101, 112, 101, 97, 116] hc7;have nc7 := wn_f [114, 101, 112, 101, 97, 116] hc7;have HC7 := qh hc7;clear hc7;by_cases hc10 : markOf (tk T s) = wIf
    ·have bc10 := w_t [105, 102] hc10;have nc10 := wn_t [105, 102] hc10;have HC10 := qh hc10;clear hc10;go_wp2_with fail;refine (mark_fn _ HP0.out).mono ?_;rintro e w11 ⟨rfl, b⟩;have HP11 := qh (HP0.out.below b);have HT11 := qh (HT0.out.trans (Turn.of_below b));clear b;go_wp2_with fail;refine (if_do hE hd (mark_no HC10.out (by decide)) _ HP11.out).mono ?_;intro e w12 hd12;rcases hidC HT11 hd12 with ⟨a12, s12, v12, nv12, HX12, rfl, hv12, HP12, HT12, HL12⟩ | ⟨er, l12, nv12, HX12, rfl, HT12⟩;rotate_left
     ·clear hd12;go_wp2_with fail;exact ⟨rfl, does_no (by simp only [statM_eq, runs, if_neg HC1.out, if_neg HC4.out, if_neg HC7.out, if_pos HC10.out, HX12.out]) HT12.out⟩
     obtain ⟨rfl, hr12⟩ : v12 = .int .i64 a12 /\ Rng a12 nv12 := hv12;have HR12 := qh hr12;clear hd12 hr12;go_wp2_with fail;go_ret;exact does_ok (a := a12) (s' := s12) (by simp only [statM_eq, runs, if_neg HC1.out, if_neg HC4.out, if_neg HC7.out, if_pos HC10.out, HX12.out]) ⟨rfl, HR12.out⟩ HP12.out HT12.out (by have := HL12.out; omega)
    ·have bc10 := w_f [105, 102] hc10;have nc10 := wn_f [105, 102] hc10;have HC10 := qh hc10;clear hc10;by_cases hc13 : markOf (tk T s) = wFor
     ·have bc13 := w_t [102, 111, 114] hc13;have nc13 := wn_t [102, 111, 114] hc13;have HC13 := qh hc13;clear hc13;go_wp2_with fail;refine (mark_fn _ HP0.out).mono ?_;rintro e w14 ⟨rfl, b⟩;have HP14 := qh (HP0.out.below b);have HT14 := qh (HT0.out.trans (Turn.of_below b));clear b;go_wp2_with fail;refine (hf _ _ _ HP14.out (mark_no HC13.out (by decide))).mono ?_;intro e w15 hd15;rcases hidC HT14 hd15 with ⟨a15, s15, v15, nv15, HX15, rfl, hv15, HP15, HT15, HL15⟩ | ⟨er, l15, nv15, HX15, rfl, HT15⟩;rotate_left
      ·clear hd15;go_wp2_with fail;exact ⟨rfl, does_no (by simp only [statM_eq, runs, if_neg HC1.out, if_neg HC4.out, if_neg HC7.out, if_neg HC10.out, if_pos HC13.out, HX15.out]) HT15.out⟩
      obtain ⟨rfl, hr15⟩ : v15 = .int .i64 a15 /\ Rng a15 nv15 := hv15;have HR15 := qh hr15;clear hd15 hr15;go_wp2_with fail;go_ret;exact does_ok (a := a15) (s' := s15) (by simp only [statM_eq, runs, if_neg HC1.out, if_neg HC4.out, if_neg HC7.out, if_neg HC10.out, if_pos HC13.out, HX15.out]) ⟨rfl, HR15.out⟩ HP15.out HT15.out (by have := HL15.out; omega)
     ·have bc13 := w_f [102, 111, 114] hc13;have nc13 := wn_f [102, 111, 114] hc13;have HC13 := qh hc13;clear hc13;by_cases hc16 : markOf (tk T s) = wFunction
      ·have bc16 := w_t [102, 117, 110, 99, 116, 105, 111, 110] hc16;have nc16 := wn_t [102, 117, 110, 99, 116, 105, 111, 110] hc16;have HC16 := qh hc16;clear hc16;go_wp2_with fail;refine (mark_fn _ HP0.out).mono ?_;rintro e w17 ⟨rfl, b⟩;have HP17 := qh (HP0.out.below b);have HT17 := qh (HT0.out.trans (Turn.of_below b));clear b;go_wp2_with fail;refine (function_do hE hw hd (mark_no HC16.out (by decide)) _ HP17.out).mono ?_;intro e w18 hd18;rcases hidC HT17 hd18 with ⟨a18, s18, v18, nv18, HX18, rfl, hv18, HP18, HT18, HL18⟩ | ⟨er, l18, nv18, HX18, rfl, HT18⟩;rotate_left
       ·clear hd18;go_wp2_with fail;exact ⟨rfl, does_no (by simp only [statM_eq, runs, if_neg HC1.out, if_neg HC4.out, if_neg HC7.out, if_neg HC10.out, if_neg HC13.out, if_pos HC16.out, HX18.out]) HT18.out⟩
       obtain ⟨rfl, hr18⟩ : v18 = .int .i64 a18 /\ Rng a18 nv18 := hv18;have HR18 := qh hr18;clear hd18 hr18;go_wp2_with fail;go_ret;exact does_ok (a := a18) (s' := s18) (by simp only [statM_eq, runs, if_neg HC1.out, if_neg HC4.out, if_neg HC7.out, if_neg HC10.out, if_neg HC13.out, if_pos HC16.out, HX18.out]) ⟨rfl, HR18.out⟩ HP18.out HT18.out (by have := HL18.out; omega)
      ·have bc16 := w_f [102, 117, 110, 99, 116, 105, 111, 110] hc16;have nc16 := wn_f [102, 117, 110, 99, 116, 105, 111, 110] hc16;have HC16 := qh hc16;clear hc16;by_cases hc19 : markOf (tk T s) = wLocal
       ·have bc19 := w_t [108, 111, 99, 97, 108] hc19;have nc19 := wn_t [108, 111, 99, 97, 108] hc19;have HC19 := qh hc19;clear hc19;go_wp2_with fail;refine (mark_fn _ HP0.out).mono ?_;rintro e w20 ⟨rfl, b⟩;have HP20 := qh (HP0.out.below b);have HT20 := qh (HT0.out.trans (Turn.of_below b));clear b;go_wp2_with fail;refine (local_do hE hd (mark_no HC19.out (by decide)) _ HP20.out).mono ?_;intro e w21 hd21;rcases hidC HT20 hd21 with ⟨a21, s21, v21, nv21, HX21, rfl, hv21, HP21, HT21, HL21⟩ | ⟨er, l21, nv21, HX21, rfl, HT21⟩;rotate_left
        ·clear hd21;go_wp2_with fail;exact ⟨rfl, does_no (by simp only [statM_eq, runs, if_neg HC1.out, if_neg HC4.out, if_neg HC7.out, if_neg HC10.out, if_neg HC13.out, if_neg HC16.out, if_pos HC19.out, HX21.out]) HT21.out⟩
        obtain ⟨rfl, hr21⟩ : v21 = .int .i64 a21 /\ Rng a21 nv21 := hv21;have HR21 := qh hr21;clear hd21 hr21;go_wp2_with fail;go_ret;exact does_ok (a := a21) (s' := s21) (by simp only [statM_eq, runs, if_neg HC1.out, if_neg HC4.out, if_neg HC7.out, if_neg HC10.out, if_neg HC13.out, if_neg HC16.out, if_pos HC19.out, HX21.out]) ⟨rfl, HR21.out⟩ HP21.out HT21.out (by have := HL21.out; omega)
       ·have bc19 := w_f [108, 111, 99, 97, 108] hc19;have nc19 := wn_f [108, 111, 99, 97, 108] hc19;have HC19 := qh hc19;clear hc19;by_cases hc22 : markOf (tk T s) = wColons
        ·have bc22 := w_t [58, 58] hc22;have nc22 := wn_t [58, 58] hc22;have HC22 := qh hc22;clear hc22;go_wp2_with fail;refine (mark_fn _ HP0.out).mono ?_;rintro e w23 ⟨rfl, b⟩;have HP23 := qh (HP0.out.below b);have HT23 := qh (HT0.out.trans (Turn.of_below b));clear b;go_wp2_with fail;refine (jump_do hE (mark_no HC22.out (by decide)) _ HP23.out).mono ?_;intro e w24 hd24;rcases hidC HT23 hd24 with ⟨a24, s24, v24, nv24, HX24, rfl, hv24, HP24, HT24, HL24⟩ | ⟨er, l24, nv24, HX24, rfl, HT24⟩;rotate_left
         ·clear hd24;go_wp2_with fail;exact ⟨rfl, does_no (by simp only [statM_eq, runs, if_neg HC1.out, if_neg HC4.out, if_neg HC7.out, if_neg HC10.out, if_neg HC13.out, if_neg HC16.out, if_neg HC19.out, if_pos (Or.inl HC22.out), HX24.out]) HT24.out⟩
         obtain ⟨rfl, hr24⟩ : v24 = .int .i64 a24 /\ Rng a24 nv24 := hv24;have HR24 := qh hr24;clear hd24 hr24;go_wp2_with fail;go_ret;exact does_ok (a := a24) (s' := s24) (by simp only [statM_eq, runs, if_neg HC1.out, if_neg HC4.out, if_neg HC7.out, if_neg HC10.out, if_neg HC13.out, if_neg HC16.out, if_neg HC19.out, if_pos (Or.inl HC22.out), HX24.out]) ⟨rfl, HR24.out⟩ HP24.out HT24.out (by have := HL24.out; omega)
        ·have bc22 := w_f [58, 58] hc22;have nc22 := wn_f [58, 58] hc22;have HC22 := qh hc22;clear hc22;by_cases hc25 : markOf (tk T s) = wGoto
         ·have bc25 := w_t [103, 111, 116, 111] hc25;have nc25 := wn_t [103, 111, 116, 111] hc25;have HC25 := qh hc25;clear hc25;go_wp2_with fail;refine (mark_fn _ HP0.out).mono ?_;rintro e w26 ⟨rfl, b⟩;have HP26 := qh (HP0.out.below b);have HT26 := qh (HT0.out.trans (Turn.of_below b));clear b;go_wp2_with fail;refine (jump_do hE (mark_no HC25.out (by decide)) _ HP26.out).mono ?_;intro e w27 hd27;rcases hidC HT26 hd27 with ⟨a27, s27, v27, nv27, HX27, rfl, hv27, HP27, HT27, HL27⟩ | ⟨er, l27, nv27, HX27, rfl, HT27⟩;rotate_left
          ·clear hd27;go_wp2_with fail;exact ⟨rfl, does_no (by simp only [statM_eq, runs, if_neg HC1.out, if_neg HC4.out, if_neg HC7.out, if_neg HC10.out, if_neg HC13.out, if_neg HC16.out, if_neg HC19.out, if_pos (Or.inr (Or.inl HC25.out)), HX27.out]) HT27.out⟩
          obtain ⟨rfl, hr27⟩ : v27 = .int .i64 a27 /\ Rng a27 nv27 := hv27;have HR27 := qh hr27;clear hd27 hr27;go_wp2_with fail;go_ret;exact does_ok (a := a27) (s' := s27) (by simp only [statM_eq, runs, if_neg HC1.out, if_neg HC4.out, if_neg HC7.out, if_neg HC10.out, if_neg HC13.out, if_neg HC16.out, if_neg HC19.out, if_pos (Or.inr (Or.inl HC25.out)), HX27.out]) ⟨rfl, HR27.out⟩ HP27.out HT27.out (by have := HL27.out; omega)
         ·have bc25 := w_f [103, 111, 116, 111] hc25;have nc25 := wn_f [103, 111, 116, 111] hc25;have HC25 := qh hc25;clear hc25;by_cases hc28 : markOf (tk T s) = wBreak
          ·have bc28 := w_t [98, 114, 101, 97, 107] hc28;have nc28 := wn_t [98, 114, 101, 97, 107] hc28;have HC28 := qh hc28;clear hc28;go_wp2_with fail;refine (mark_fn _ HP0.out).mono ?_;rintro e w29 ⟨rfl, b⟩;have HP29 := qh (HP0.out.below b);have HT29 := qh (HT0.out.trans (Turn.of_below b));clear b;go_wp2_with fail;refine (jump_do hE (mark_no HC28.out (by decide)) _ HP29.out).mono ?_;intro e w30 hd30;rcases hidC HT29 hd30 with ⟨a30, s30, v30, nv30, HX30, rfl, hv30, HP30, HT30, HL30⟩ | ⟨er, l30, nv30, HX30, rfl, HT30⟩;rotate_left
           ·clear hd30;go_wp2_with fail;exact ⟨rfl, does_no (by simp only [statM_eq, runs, if_neg HC1.out, if_neg HC4.out, if_neg HC7.out, if_neg HC10.out, if_neg HC13.out, if_neg HC16.out, if_neg HC19.out, if_pos (Or.inr (Or.inr HC28.out)), HX30.out]) HT30.out⟩
           obtain ⟨rfl, hr30⟩ : v30 = .int .i64 a30 /\ Rng a30 nv30 := hv30;have HR30 := qh hr30;clear hd30 hr30;go_wp2_with fail;go_ret;exact does_ok (a := a30) (s' := s30) (by simp only [statM_eq, runs, if_neg HC1.out, if_neg HC4.out, if_neg HC7.out, if_neg HC10.out, if_neg HC13.out, if_neg HC16.out, if_neg HC19.out, if_pos (Or.inr (Or.inr HC28.out)), HX30.out]) ⟨rfl, HR30.out⟩ HP30.out HT30.out (by have := HL30.out; omega)
          ·have bc28 := w_f [98, 114, 101, 97, 107] hc28;have nc28 := wn_f [98, 114, 101, 97, 107] hc28;have HC28 := qh hc28;clear hc28;go_wp2_with fail;refine (mark_fn _ HP0.out).mono ?_;rintro e w31 ⟨rfl, b⟩;have HP31 := qh (HP0.out.below b);have HT31 := qh (HT0.out.trans (Turn.of_below b));clear b;go_wp2_with fail;refine (prefix_do hE hd _ HP31.out).mono ?_;intro e w32 hd32;rcases hidC HT31 hd32 with ⟨a32, s32, v32, nv32, HX32, rfl, hv32, HP32, HT32, HL32⟩ | ⟨er, l32, nv32, HX32, rfl, HT32⟩;rotate_left
           ·clear hd32;go_wp2_with fail;exact ⟨rfl, does_no (by simp only [statM_eq, runs, if_neg HC1.out, if_neg HC4.out, if_neg HC7.out, if_neg HC10.out, if_neg HC13.out, if_neg HC16.out, if_neg HC19.out, if_neg (not_or.mpr ⟨HC22.out, not_or.mpr ⟨HC25.out, HC28.out⟩⟩), HX32.out]) HT32.out⟩
           obtain ⟨rfl, hr32⟩ : v32 = .int .i64 a32 /\ Rng a32 nv32 := hv32;have HR32 := qh hr32;clear hd32 hr32;go_wp2_with fail;go_ret;exact does_ok (a := a32) (s' := s32) (by simp only [statM_eq, runs, if_neg HC1.out, if_neg HC4.out, if_neg HC7.out, if_neg HC10.out, if_neg HC13.out, if_neg HC16.out, if_neg HC19.out, if_neg (not_or.mpr ⟨HC22.out, not_or.mpr ⟨HC25.out, HC28.out⟩⟩), HX32.out]) ⟨rfl, HR32.out⟩ HP32.out HT32.out (by have := HL32.out; omega)
end
end Go.Proofs.YtnkejjlidgnkkaaGreatDoor.Ps
namespace Go.Proofs.YtnkejjlidgnkkaaGreatDoor.Ps

open Go.Lib renaming hid → qh
open Go Go.RowKit Go.ChangeShapes Go.WideShapes Go.Shelf
open Go.Proofs.YtnkejjlidgnkkaaGreatDoor.Nd
open Go.Proofs.YtnkejjlidgnkkaaGreatDoor.Lex (Tok tokensL TokReads)
section
variable {T : List Tok} {tv : Value} {P base : Nat} {s : St} {nv : NR}
theorem startExpr_far (w : World) (h : PAt T tv P base s nv w) : Calls Tryz.prog 136 #[.pointer (some ⟨P, 0, none⟩), .int .i64 101] w fun e w' => e = .panicked (faultV 3 (tk T s).line) /\ Below w.heap.size w w' := by
 have HC := qh (begin_no 101 w h (by decide));clear h;go_enter Tryz.func136, Tryz.ntmps136;go_wp2_with fail;refine HC.out.mono ?_;rintro e w1 ⟨rfl, b⟩;have HB := qh b;clear b;go_wp2_with fail;exact ⟨rfl, rfl, HB.out⟩
theorem expr_far (binds : Nat) (w : World) (h : PAt T tv P base s nv w) : Calls Tryz.prog 138 #[.pointer (some ⟨P, 0, none⟩), .int .i64 101, .int .i64 (binds : Int)] w fun e w' => e = .panicked (faultV 3 (tk T s).line) /\ Below w.heap.size w w' := by
 have HC := qh (startExpr_far w h);clear h;go_enter Tryz.func138, Tryz.ntmps138;go_wp2_with fail;refine HC.out.mono ?_;rintro e w1 ⟨rfl, b⟩;have HB := qh b;clear b;go_wp2_with fail;exact ⟨rfl, rfl, HB.out⟩
theorem block_far (w : World) (h : PAt T tv P base s nv w) : Calls Tryz.prog 30 #[.pointer (some ⟨P, 0, none⟩), .int .i64 101] w fun e w' => e = .panicked (faultV 3 (tk T s).line) /\ Below w.heap.size w w' := by
 have HC := qh (begin_no 101 w h (by decide));clear h;go_enter Tryz.func30, Tryz.ntmps30;go_wp2_with fail;refine HC.out.mono ?_;rintro e w1 ⟨rfl, b⟩;have HB := qh b;clear b;go_wp2_with fail;exact ⟨rfl, rfl, HB.out⟩
theorem exprs_far (w : World) (h : PAt T tv P base s nv w) : Calls Tryz.prog 112 #[.pointer (some ⟨P, 0, none⟩), .int .i64 101] w fun e w' => e = .panicked (faultV 3 (tk T s).line) /\ Below w.heap.size w w' := by
 have HC := qh (startExpr_far w h);clear h;go_enter Tryz.func112, Tryz.ntmps112;go_wp2_with fail;go_loopg [6] 1 (fun r more wr => more = .bool true /\ wr = w)
 case atStart => exact ⟨rfl, rfl⟩
 case round =>
  obtain ⟨rfl, rfl⟩ := hrel;go_wp2_with fail;refine HC.out.mono ?_;rintro e w1 ⟨rfl, b⟩;have HB := qh b;clear b;go_wp2_with fail;exact ⟨rfl, rfl, HB.out⟩
theorem exprsGo_ne {d : Fns} : ∀ (f : Nat) (ks : List Int) (s : St) (a : List Int) (s' : St), ks.length <= 200 -> exprsGo T d f ks s = .ok a s' -> a ≠ [] /\ a.length <= 200
 | 0, ks, s, a, s', _, h => by cases h
 | f + 1, ks, s, a, s', hk, h => by
  unfold exprsGo at h;simp only [run_bind] at h;cases h1 : startExpr T s with
  | no e l => rw [h1] at h; cases h
  | ok u1 s1 =>
   rw [h1] at h
   dsimp only at h
   cases h2 : room T ks.length s1 with
   | no e l => rw [h2] at h; cases h
   | ok u2 s2 =>
    rw [h2] at h
    dsimp only at h
    have hne := room_ne h2;cases h3 : exprM T d 0 s2 with
    | no e l => rw [h3] at h; cases h
    | ok k s3 =>
     rw [h3] at h
     dsimp only at h
     have hl : (ks ++ [k]).length <= 200 := by rw [List.length_append, List.length_singleton]; omega
     by_cases hm : markOf (tk T s3) = wComma
     ·rw [accept_t hm] at h
      dsimp only at h
      rw [if_pos rfl] at h;exact exprsGo_ne f _ _ a s' hl h
     ·rw [accept_f hm] at h
      dsimp only at h
      rw [if_neg (fun e => Bool.noConfusion e)] at h;cases h;exact ⟨by simp, hl⟩
def ExprFn (T : List Tok) (tv : Value) (P base : Nat) : Prop := ∀ (d : Fns) (L : Int) (binds : Nat), IntKind.i64.wrap (L + 1) = L + 1 -> DFn T tv P base d (L + 1) ->
 (∀ s nv w, PAt T tv P base s nv w -> Calls Tryz.prog 136 #[.pointer (some ⟨P, 0, none⟩), .int .i64 L] w (Does T tv P base (startExpr T) s nv Xn w vUnit 0)) ->
 (∀ s nv w, PAt T tv P base s nv w -> startsE (tk T s) = true -> Calls Tryz.prog 170 #[.pointer (some ⟨P, 0, none⟩), .int .i64 L] w (Does T tv P base (operandM T d) s nv Xn w vInt 1)) ->
 ∀ s nv w, PAt T tv P base s nv w -> Calls Tryz.prog 138 #[.pointer (some ⟨P, 0, none⟩), .int .i64 L, .int .i64 (binds : Int)] w (Does T tv P base (exprM T d binds) s nv Xn w vInt 1)
def ForFn (T : List Tok) (tv : Value) (P base : Nat) : Prop := ∀ (d : Fns) (L : Int), DFn T tv P base d L ->
 ∀ s nv w, PAt T tv P base s nv w -> (tk T s).k ≠ 6 -> Calls Tryz.prog 118 #[.pointer (some ⟨P, 0, none⟩), .int .i64 L] w (Does T tv P base (forStat T d) s nv Xn w vInt 1)
theorem far_int {α : Type} {val : α -> Value -> NR -> World -> Prop} {δ : Nat} {f : FuncId} {args : Array Value} {w : World} (h : Calls Tryz.prog f args w fun e w' => e = .panicked (faultV 3 (tk T s).line) /\ Below w.heap.size w w') : Calls Tryz.prog f args w (Does T tv P base (fail T 3 : M α) s nv Xn w val δ) := by
 refine h.mono ?_;rintro e w' ⟨rfl, b⟩;exact does_no (run_fail T 3 s) (Turn.of_below b)
theorem low_min {b : Nat} {w : World} (h : Low tv P b) (h2 : PAt T tv P base s nv w) : Low tv P (min b w.heap.size) := by
 have k := h2.lows;exact ⟨Nat.lt_min.2 ⟨h.p, k.p⟩, fun g hg => Nat.lt_min.2 ⟨h.t g hg, k.t g hg⟩, Nat.lt_min.2 ⟨h.o, k.o⟩⟩
theorem fns_fn (hE : EndT T) (hX : ExprFn T tv P base) (hF : ForFn T tv P base) : ∀ k, k <= 100 -> DFn T tv P base (fns T k) ((101 - k : Nat) : Int)
 | 0, _ => by
  refine ⟨⟨by decide, by decide⟩, fun s nv w h => ?_, fun s nv w h => ?_, fun s a s' h => (by cases h), fun b s nv w h => far_int (expr_far b w h), fun s nv w h => far_int (exprs_far w h), fun s a s' h => (by cases h), fun s nv w h => far_int (block_far w h), fun h => absurd h (by decide), fun h => absurd h (by decide), fun h => absurd h (by decide)⟩
  ·have := begin_do 101 w h;rw [if_pos (by decide)] at this;exact this
  ·have := begin_do 102 w h;rw [if_pos (by decide)] at this;exact this
 | k + 1, hk => by
  have hd := fns_fn hE hX hF k (by omega);obtain ⟨l, hl⟩ : ∃ l, l = 101 - (k + 1) := ⟨_, rfl⟩;have hl2 : 101 - k = l + 1 := by omega
  have hl100 : l <= 100 := by omega
  rw [<- hl];rw [hl2] at hd;have hd : DFn T tv P base (fns T k) ((l : Int) + 1) := by simpa using hd
  have hw : IntKind.i64.wrap ((l : Int) + 1) = (l : Int) + 1 := IntWalk.i64_in _ (by omega);have hw2 : IntKind.i64.wrap ((l : Int) + 1 + 1) = (l : Int) + 1 + 1 := IntWalk.i64_in _ (by omega);have hS : ∀ s nv w, PAt T tv P base s nv w -> Calls Tryz.prog 136 #[.pointer (some ⟨P, 0, none⟩), .int .i64 (l : Int)] w (Does T tv P base (startExpr T) s nv Xn w vUnit 0) := fun s nv w h => startExpr_yes w h (begin_b l w hl100)
  have hop : ∀ s nv w, PAt T tv P base s nv w -> startsE (tk T s) = true -> Calls Tryz.prog 170 #[.pointer (some ⟨P, 0, none⟩), .int .i64 (l : Int)] w (Does T tv P base (operandM T (fns T k)) s nv Xn w vInt 1) := fun s nv w h hs => operand_fn hE hw hd hs w h
  have hx : ∀ binds : Nat, ∀ s nv w, PAt T tv P base s nv w -> Calls Tryz.prog 138 #[.pointer (some ⟨P, 0, none⟩), .int .i64 (l : Int), .int .i64 (binds : Int)] w (Does T tv P base (exprM T (fns T k) binds) s nv Xn w vInt 1) := fun b => hX (fns T k) l b hw hd hS hop
  refine ⟨⟨by omega, by omega⟩, fun s nv w h => ?_, fun s nv w h => ?_, fun s a s' h => ?_, hx, fun s nv w h => exprs_fn hE hS hx w h, fun s a s' h => exprsGo_ne _ _ _ _ _ (by decide) h, fun s nv w h => block_fn hE hl100 hw hd (fun s nv w h => stat_do hE hw2 hd (hF _ _ hd) w h) w h, fun _ s nv w h hs => hop s nv w h hs, fun _ s nv w h => pre_fn hE hw hd w h, fun _ ns line nm b s nv w h hlow hnm hlen => ?_⟩
  ·have := begin_do l w h;rw [if_neg (by omega)] at this;exact this
  ·exact hd.beg s nv w h
  ·cases h;exact ⟨by omega, rfl⟩
  ·exact body_do hE hw hd (low_min hlow h) (by omega) w h (Nat.min_le_right _ _) (hnm.base (Nat.min_le_left _ _))
theorem text_fn (hE : EndT T) (hX : ExprFn T tv P base) (hF : ForFn T tv P base) (w : World) (h : PAt T tv P base s nv w) : Calls Tryz.prog 15 #[.pointer (some ⟨P, 0, none⟩)] w (Does T tv P base (textM T) s nv Xn w vInt 0) :=
 text_do (fns_fn hE hX hF 100 (Nat.le_refl _)) w h
end
end Go.Proofs.YtnkejjlidgnkkaaGreatDoor.Ps
namespace Go.Proofs.YtnkejjlidgnkkaaGreatDoor.Ps

open Go.Lib renaming hid → qh
open List renaming getElem_toArray → ja, getElem_cons_succ → jb, getElem_cons_zero → jc, setIfInBounds_toArray → jd, set_cons_zero → je, set_cons_succ → jf
open Go Go.RowKit Go.ChangeShapes Go.WideShapes Go.Shelf
open Go.Proofs.YtnkejjlidgnkkaaGreatDoor.Nd
open Go.Proofs.YtnkejjlidgnkkaaGreatDoor.Lex (Tok tokensL TokReads)
def findReg (n : Nat) : Code -> Option Code
 | .region k ops b => if k = n then some (.region k ops b) else none
 | .seq a b => match findReg n a with
  | some r => some r
  | none => findReg n b
 | .block _ c => findReg n c
 | .loop c => findReg n c
 | .scope c => findReg n c
 | .cond _ a b => match findReg n a with
  | some r => some r
  | none => findReg n b
 | _ => none
noncomputable def exprReg : Code := ((Tryz.f138.body).bind (findReg 11)).getD .skip
def QP (QN : Exit -> Act -> World -> Prop) (RP : List PanicEntry -> World -> Prop) : Exit -> Act -> World -> Prop
 | .panic ch, a, w => a.defers = [] /\ RP ch w
 | e, a, w => QN e a w
theorem region_mono {c : Code} {Q : Exit -> Act -> World -> Prop} {RP : List PanicEntry -> World -> Prop} {a : Act} {w : World} (hp : ∀ ch (a : Act) w, a.defers = [] -> RP ch w -> Q (.panic ch) a w) (h : c.wp Tryz.prog (QP Q RP) a w) : c.wp Tryz.prog Q a w :=
 Code.wp_mono (fun e a w h => by
  cases e
  case panic ch => exact hp _ _ _ h.1 h.2
  all_goals exact h) h
theorem region_e {Q : Exit -> Act -> World -> Prop} {RP : List PanicEntry -> World -> Prop} {G : Ending -> World -> Prop} {p1 p2 p3 p4 p5 p6 p9 p11 p12 p13 p14 p15 p16 p17 p18 p19 p20 p21 p22 p23 p24 p25 p26 p27 p28 p29 p30 p31 p32 p33 p34 p35 p36 p37 p38 p39 p40 p41 p42 p43 p44 p45 p46 p47 p48 p49 p50 p51 p52 p53 p54 p55 p56 p57 p58 p59 p60 p61 : Value} {w : World} {P B g i n c kd op : Nat} {ln b : Int}
  (hwu : IntKind.i64.wrap ((op : Nat) : Int) = ((op : Nat) : Int)) (hlt : (i : Int) < (n : Int)) (y2 : w.cell? ⟨P, 2, none⟩ = some (.slice (some ⟨g, 0, none⟩) n c)) (c5 : w.cell? ⟨g, i * 6 + 5, none⟩ = some (.int .i64 ln))
  (o1 : w.cell? ⟨B, 1, none⟩ = some (.int .u8 (kd : Int))) (o2 : w.cell? ⟨B, 2, none⟩ = some (.int .u8 (op : Int)))
  (hadd : Calls Tryz.prog 33 #[.pointer (some ⟨P, 0, none⟩), .agg #[.int .u8 (kd : Int), .int .i64 (op : Int), .string ⟨#[]⟩, .slice none 0 0, .slice (some ⟨w.heap.size, 0, none⟩) 2 2, .int .i64 ln]] (w.alloc (.cells #[.int .i64 (i : Int), .int .i64 b] 3)).drew G)
  (hGS : ∀ v w', G (.returned v) w' -> w'.cell? ⟨B, 1, none⟩ = some (.int .u8 (kd : Int)) /\ w'.cell? ⟨B, 2, none⟩ = some (.int .u8 (op : Int)))
  (hout : ∀ e w', G e w' -> (∃ v, e = .returned v) \/ ∃ ch, e = .panicked ch)
  (hQ : ∀ (v y41 y42 y43 y44 y45 y46 y47 y48 y49 y50 y51 y52 y53 y54 y55 y56 y57 y58 y59 : Value) (w' : World), G (.returned v) w' -> Q .normal ⟨#[.pointer (some ⟨P, 0, none⟩), p1, p2, p3, p4, p5, p6, v, .pointer (some ⟨B, 0, none⟩), p9, .int .i64 b, p11, p12, p13, p14, p15, p16, p17, p18, p19, p20, p21, p22, p23, p24, p25, p26, p27, p28, p29, p30, p31, p32, p33, p34, p35, p36, p37, p38, p39, p40, y41, y42, y43, y44, y45, y46, y47, y48, y49, y50, y51, y52, y53, y54, y55, y56, y57, y58, y59, p60, p61], []⟩ w')
  (hP : ∀ (ch : List PanicEntry) (w' : World), G (.panicked ch) w' -> RP ch w') :
  Code.wp Tryz.prog exprReg (QP Q RP) ⟨#[.pointer (some ⟨P, 0, none⟩), p1, p2, p3, p4, p5, p6, .int .i64 (i : Int), .pointer (some ⟨B, 0, none⟩), p9, .int .i64 b, p11, p12, p13, p14, p15, p16, p17, p18, p19, p20, p21, p22, p23, p24, p25, p26, p27, p28, p29, p30, p31, p32, p33, p34, p35, p36, p37, p38, p39, p40, p41, p42, p43, p44, p45, p46, p47, p48, p49, p50, p51, p52, p53, p54, p55, p56, p57, p58, p59, p60, p61], []⟩ w := by
 have y2' := fun o => cell_up (al w o) y2
 have c5' := fun o => cell_up (al w o) c5
 have o1' := fun o => cell_up (al w o) o1
 have o2' := fun o => cell_up (al w o) o2
 conv => arg 2; whnf
 have hmx : Tryz.prog.follows .mixedOrders = true := by kernel_rfl
 refine wp_region_held_drew (S := fun W' => W'.cell? ⟨B, 1, none⟩ = some (.int .u8 (kd : Int)) /\ W'.cell? ⟨B, 2, none⟩ = some (.int .u8 (op : Int))) hmx ⟨o1, o2⟩ (fun hS => ?_);refine wpAnyH_take (i := 0) (v := .pointer (some ⟨P, 0, none⟩)) rfl (by kernel_rfl) (by kernel_rfl) (by kernel_rfl) (fun _ _ _ h => h) (.inl ⟨by rfl, fun w' hs => ?_⟩) hS ?_
 ·clear hs;go_simp
 simp only [ja, jc, Act.put, jd, je, jf];refine wpAnyH_take (i := 1) (v := .pointer (some ⟨B, 1, none⟩)) rfl (by kernel_rfl) (by kernel_rfl) (by kernel_rfl) (fun _ _ _ h => h) (.inl ⟨by rfl, fun w' hs => ?_⟩) hS ?_
 ·clear hs;go_simp
 simp only [ja, jb, jc, Act.put, jd, je, jf];refine wpAnyH_take (i := 2) (v := .int .u8 (kd : Int)) rfl (by kernel_rfl) (by kernel_rfl) (by kernel_rfl) (fun _ _ _ h => h) (.inl ⟨by rfl, fun w' hs => ?_⟩) hS ?_
 ·obtain ⟨s1, s2⟩ := hs;go_simp
 simp only [ja, jb, jc, Act.put, jd, je, jf];refine wpAnyH_take (i := 3) (v := .pointer (some ⟨B, 2, none⟩)) rfl (by kernel_rfl) (by kernel_rfl) (by kernel_rfl) (fun _ _ _ h => h) (.inl ⟨by rfl, fun w' hs => ?_⟩) hS ?_
 ·clear hs;go_simp
 simp only [ja, jb, jc, Act.put, jd, je, jf];refine wpAnyH_take (i := 4) (v := .int .u8 (op : Int)) rfl (by kernel_rfl) (by kernel_rfl) (by kernel_rfl) (fun _ _ _ h => h) (.inl ⟨by rfl, fun w' hs => ?_⟩) hS ?_
 ·obtain ⟨s1, s2⟩ := hs;go_simp
 simp only [ja, jb, jc, Act.put, jd, je, jf];refine wpAnyH_take (i := 5) (v := .int .i64 (op : Int)) rfl (by kernel_rfl) (by kernel_rfl) (by kernel_rfl) (fun _ _ _ h => h) (.inl ⟨by rfl, fun w' hs => ?_⟩) hS ?_
 ·clear hs;go_simp
 simp only [ja, jb, jc, Act.put, jd, je, jf];refine wpAnyH_take (i := 6) (v := .int .i64 (i : Int)) rfl (by kernel_rfl) (by kernel_rfl) (by kernel_rfl) (fun _ _ _ h => h) (.inl ⟨by rfl, fun w' hs => ?_⟩) hS ?_
 ·clear hs;go_simp
 simp only [ja, jb, jc, Act.put, jd, je, jf];refine wpAnyH_take (i := 7) (v := .int .i64 b) rfl (by kernel_rfl) (by kernel_rfl) (by kernel_rfl) (fun _ _ _ h => h) (.inl ⟨by rfl, fun w' hs => ?_⟩) hS ?_
 ·clear hs;go_simp
 simp only [ja, jb, jc, Act.put, jd, je, jf];refine wpAnyH_take (i := 9) (v := .pointer (some ⟨P, 0, none⟩)) rfl (by kernel_rfl) (by kernel_rfl) (by kernel_rfl) (fun _ _ _ h => h) (.inl ⟨by rfl, fun w' hs => ?_⟩) hS ?_
 ·clear hs;go_simp
 simp only [ja, jb, jc, Act.put, jd, je, jf];refine wpAnyH_take (i := 10) (v := .pointer (some ⟨P, 0, none⟩)) rfl (by kernel_rfl) (by kernel_rfl) (by kernel_rfl) (fun _ _ _ h => h) (.inl ⟨by rfl, fun w' hs => ?_⟩) hS ?_
 ·clear hs;go_simp
 simp only [ja, jb, jc, Act.put, jd, je, jf];refine wpAnyH_take (i := 11) (v := .pointer (some ⟨P, 2, none⟩)) rfl (by kernel_rfl) (by kernel_rfl) (by kernel_rfl) (fun _ _ _ h => h) (.inl ⟨by rfl, fun w' hs => ?_⟩) hS ?_
 ·clear hs;go_simp
 simp only [ja, jb, jc, Act.put, jd, je, jf];refine wpAnyH_take (i := 13) (v := .int .i64 (i : Int)) rfl (by kernel_rfl) (by kernel_rfl) (by kernel_rfl) (fun _ _ _ h => h) (.inl ⟨by rfl, fun w' hs => ?_⟩) hS ?_
 ·clear hs;go_simp
 simp only [ja, jb, jc, Act.put, jd, je, jf];refine wpAnyH_ready (rs := [8, 12]) (by kernel_rfl) (by simp) (AllReadyH.cons rfl (fun K hK => ?_) (AllReadyH.cons rfl (fun K hK => ?_) (AllReadyH.nil)))
 ·skip
  go_simp;refine hK.out _ _ ⟨o1' _, o2' _⟩ (fun hS => ?_);clear hK;refine wpAnyH_ready (rs := [12]) (by kernel_rfl) (by simp) (AllReadyH.cons rfl (fun K hK => ?_) (AllReadyH.nil));go_simp;refine hK.out _ _ hS (fun hS => ?_);clear hK;refine wpAnyH_take (i := 14) (v := .pointer (some ⟨g, i * 6, none⟩)) rfl (by kernel_rfl) (by kernel_rfl) (by kernel_rfl) (fun _ _ _ h => h) (.inl ⟨by rfl, fun w' hs => ?_⟩) hS ?_
  ·clear hs;go_simp
  simp only [ja, jb, jc, Act.put, jd, je, jf];refine wpAnyH_take (i := 15) (v := .pointer (some ⟨g, i * 6 + 5, none⟩)) rfl (by kernel_rfl) (by kernel_rfl) (by kernel_rfl) (fun _ _ _ h => h) (.inl ⟨by rfl, fun w' hs => ?_⟩) hS ?_
  ·clear hs;go_simp
  simp only [ja, jb, jc, Act.put, jd, je, jf];refine wpAnyH_ready (rs := [16]) (by kernel_rfl) (by simp) (AllReadyH.cons rfl (fun K hK => ?_) (AllReadyH.nil));go_simp;refine hK.out _ _ hS (fun hS => ?_);clear hK;refine wpAnyH_take (i := 17) (v := .agg #[.int .u8 (kd : Int), .int .i64 (op : Int), .string ⟨#[]⟩, .slice none 0 0, .slice (some ⟨w.heap.size, 0, none⟩) 2 2, .int .i64 ln]) rfl (by kernel_rfl) (by kernel_rfl) (by kernel_rfl) (fun _ _ _ h => h) (.inl ⟨by rfl, fun w' hs => ?_⟩) hS ?_
  ·clear hs;go_simp
  simp only [ja, jb, jc, Act.put, jd, je, jf];refine wpAnyH_ready (rs := [18]) (by kernel_rfl) (by simp) (AllReadyH.cons rfl (fun K hK => ?_) (AllReadyH.nil));go_simp;refine hadd.mono ?_;intro e w' hG;rcases hout e w' hG with ⟨v, rfl⟩ | ⟨ch, rfl⟩;rotate_left
  ·exact And.intro rfl (hP ch w' hG)
  refine hK.out _ _ (hGS v w' hG) (fun hS => ?_);clear hK;refine wpAnyH_take (i := 19) (v := v) rfl (by kernel_rfl) (by kernel_rfl) (by kernel_rfl) (fun _ _ _ h => h) (.inl ⟨by rfl, fun w' hs => ?_⟩) hS ?_
  ·clear hs;go_simp
  simp only [ja, jb, jc, Act.put, jd, je, jf];refine wpAnyH_done (by kernel_rfl) ?_ _
  show Q _ _ _;exact hQ _ _ _ _ _ _ _ _ _ _ _ _ _ _ _ _ _ _ _ _ _ hG
 ·skip
  go_simp;refine hK.out _ _ hS (fun hS => ?_);clear hK;refine wpAnyH_take (i := 14) (v := .pointer (some ⟨g, i * 6, none⟩)) rfl (by kernel_rfl) (by kernel_rfl) (by kernel_rfl) (fun _ _ _ h => h) (.inl ⟨by rfl, fun w' hs => ?_⟩) hS ?_
  ·clear hs;go_simp
  simp only [ja, jb, jc, Act.put, jd, je, jf];refine wpAnyH_take (i := 15) (v := .pointer (some ⟨g, i * 6 + 5, none⟩)) rfl (by kernel_rfl) (by kernel_rfl) (by kernel_rfl) (fun _ _ _ h => h) (.inl ⟨by rfl, fun w' hs => ?_⟩) hS ?_
  ·clear hs;go_simp
  simp only [ja, jb, jc, Act.put, jd, je, jf];refine wpAnyH_ready (rs := [8, 16]) (by kernel_rfl) (by simp) (AllReadyH.cons rfl (fun K hK => ?_) (AllReadyH.cons rfl (fun K hK => ?_) (AllReadyH.nil)))
  ·skip
   go_simp;refine hK.out _ _ ⟨o1' _, o2' _⟩ (fun hS => ?_);clear hK;refine wpAnyH_ready (rs := [16]) (by kernel_rfl) (by simp) (AllReadyH.cons rfl (fun K hK => ?_) (AllReadyH.nil));go_simp;refine hK.out _ _ hS (fun hS => ?_);clear hK;refine wpAnyH_take (i := 17) (v := .agg #[.int .u8 (kd : Int), .int .i64 (op : Int), .string ⟨#[]⟩, .slice none 0 0, .slice (some ⟨w.heap.size, 0, none⟩) 2 2, .int .i64 ln]) rfl (by kernel_rfl) (by kernel_rfl) (by kernel_rfl) (fun _ _ _ h => h) (.inl ⟨by rfl, fun w' hs => ?_⟩) hS ?_
   ·clear hs;go_simp
   simp only [ja, jb, jc, Act.put, jd, je, jf];refine wpAnyH_ready (rs := [18]) (by kernel_rfl) (by simp) (AllReadyH.cons rfl (fun K hK => ?_) (AllReadyH.nil));go_simp;refine hadd.mono ?_;intro e w' hG;rcases hout e w' hG with ⟨v, rfl⟩ | ⟨ch, rfl⟩;rotate_left
   ·exact And.intro rfl (hP ch w' hG)
   refine hK.out _ _ (hGS v w' hG) (fun hS => ?_);clear hK;refine wpAnyH_take (i := 19) (v := v) rfl (by kernel_rfl) (by kernel_rfl) (by kernel_rfl) (fun _ _ _ h => h) (.inl ⟨by rfl, fun w' hs => ?_⟩) hS ?_
   ·clear hs;go_simp
   simp only [ja, jb, jc, Act.put, jd, je, jf];refine wpAnyH_done (by kernel_rfl) ?_ _
   show Q _ _ _;exact hQ _ _ _ _ _ _ _ _ _ _ _ _ _ _ _ _ _ _ _ _ _ hG
  ·skip
   go_simp;refine hK.out _ _ hS (fun hS => ?_);clear hK;refine wpAnyH_ready (rs := [8]) (by kernel_rfl) (by simp) (AllReadyH.cons rfl (fun K hK => ?_) (AllReadyH.nil));go_simp;refine hK.out _ _ ⟨o1' _, o2' _⟩ (fun hS => ?_);clear hK;refine wpAnyH_take (i := 17) (v := .agg #[.int .u8 (kd : Int), .int .i64 (op : Int), .string ⟨#[]⟩, .slice none 0 0, .slice (some ⟨w.heap.size, 0, none⟩) 2 2, .int .i64 ln]) rfl (by kernel_rfl) (by kernel_rfl) (by kernel_rfl) (fun _ _ _ h => h) (.inl ⟨by rfl, fun w' hs => ?_⟩) hS ?_
   ·clear hs;go_simp
   simp only [ja, jb, jc, Act.put, jd, je, jf];refine wpAnyH_ready (rs := [18]) (by kernel_rfl) (by simp) (AllReadyH.cons rfl (fun K hK => ?_) (AllReadyH.nil));go_simp;refine hadd.mono ?_;intro e w' hG;rcases hout e w' hG with ⟨v, rfl⟩ | ⟨ch, rfl⟩;rotate_left
   ·exact And.intro rfl (hP ch w' hG)
   refine hK.out _ _ (hGS v w' hG) (fun hS => ?_);clear hK;refine wpAnyH_take (i := 19) (v := v) rfl (by kernel_rfl) (by kernel_rfl) (by kernel_rfl) (fun _ _ _ h => h) (.inl ⟨by rfl, fun w' hs => ?_⟩) hS ?_
   ·clear hs;go_simp
   simp only [ja, jb, jc, Act.put, jd, je, jf];refine wpAnyH_done (by kernel_rfl) ?_ _
   show Q _ _ _;exact hQ _ _ _ _ _ _ _ _ _ _ _ _ _ _ _ _ _ _ _ _ _ hG
end Go.Proofs.YtnkejjlidgnkkaaGreatDoor.Ps
