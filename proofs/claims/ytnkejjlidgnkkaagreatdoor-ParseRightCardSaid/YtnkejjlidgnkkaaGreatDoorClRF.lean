/-
  A part of the proof.
-/
import Derived.Lib.Hide
import Derived.Test.YtnkejjlidgnkkaaGreatDoorClRE
set_option maxRecDepth 100000
set_option maxHeartbeats 40000000
namespace Go.Proofs.YtnkejjlidgnkkaaGreatDoor.Ps

open Go.Lib renaming hid → qh
open Go Go.RowKit Go.ChangeShapes Go.WideShapes Go.Shelf
open Go.Proofs.YtnkejjlidgnkkaaGreatDoor.Nd
open Go.Proofs.YtnkejjlidgnkkaaGreatDoor.Lex (Tok tokensL TokReads)
theorem w_t {m : ByteArray} (l : List UInt8) (h : m = ⟨l.toArray⟩) : (m.toList == l) = true := by
 rw [h, ByteArray.toList_eq]; simp
theorem w_f {m : ByteArray} (l : List UInt8) (h : m ≠ ⟨l.toArray⟩) : (m.toList == l) = false := by
 cases hx : (m.toList == l) with
 | false => rfl
 | true =>
  refine absurd ?_ h;have e : m.toList = l := by simpa using hx
  rw [ByteArray.toList_eq] at e;exact ByteArray.ext (Array.ext' (by rw [e]))
theorem unary_fn (m : ByteArray) (w : World) : Calls Tryz.prog 169 #[.string m] w fun e w' => e = .returned (.int .u8 (unOf m : Int)) /\ w' = w := by
 have HM := qh (show unOf m = if m = wMinus then 18 else if m = wNot then 19 else if m = wLen then 20 else if m = wTilde then 21 else 0 from rfl);generalize unOf m = u at *;by_cases h0 : m = wMinus
 ·have b0 := w_t [45] h0;obtain rfl : u = 18 := by rw [HM.out, if_pos h0]
  clear HM h0;go_enter Tryz.func169, Tryz.ntmps169;go_wp2_with fail;go_ret;exact ⟨rfl, rfl⟩
 ·have b0 := w_f [45] h0;by_cases h1 : m = wNot
  ·have b1 := w_t [110, 111, 116] h1;obtain rfl : u = 19 := by rw [HM.out, if_neg h0, if_pos h1]
   clear HM h0 h1;go_enter Tryz.func169, Tryz.ntmps169;go_wp2_with fail;go_ret;exact ⟨rfl, rfl⟩
  ·have b1 := w_f [110, 111, 116] h1;by_cases h2 : m = wLen
   ·have b2 := w_t [35] h2;obtain rfl : u = 20 := by rw [HM.out, if_neg h0, if_neg h1, if_pos h2]
    clear HM h0 h1 h2;go_enter Tryz.func169, Tryz.ntmps169;go_wp2_with fail;go_ret;exact ⟨rfl, rfl⟩
   ·have b2 := w_f [35] h2;by_cases h3 : m = wTilde
    ·have b3 := w_t [126] h3;obtain rfl : u = 21 := by rw [HM.out, if_neg h0, if_neg h1, if_neg h2, if_pos h3]
     clear HM h0 h1 h2 h3;go_enter Tryz.func169, Tryz.ntmps169;go_wp2_with fail;go_ret;exact ⟨rfl, rfl⟩
    ·have b3 := w_f [126] h3;obtain rfl : u = 0 := by rw [HM.out, if_neg h0, if_neg h1, if_neg h2, if_neg h3]
     clear HM h0 h1 h2 h3;go_enter Tryz.func169, Tryz.ntmps169;go_wp2_with fail;go_ret;exact ⟨rfl, rfl⟩
theorem ends_fn {T : List Tok} {tv : Value} {P base : Nat} {s : St} {nv : NR} (w : World) (h : PAt T tv P base s nv w) : Calls Tryz.prog 74 #[.pointer (some ⟨P, 0, none⟩)] w fun e w' => e = .returned (.bool (endsB (tk T s))) /\ Below w.heap.size w w' := by
 have HC := qh (mark_fn w h);have HK := qh (fun w' (hb : Below w.heap.size w w') => token_fn w' (h.below hb));unfold tokV at HK;have HM := qh (show endsB (tk T s) = (markOf (tk T s) = wEnd || markOf (tk T s) = wElse || markOf (tk T s) = wElseif || markOf (tk T s) = wUntil || (tk T s).k == 6) from rfl);clear h;generalize endsB (tk T s) = u at *;generalize markOf (tk T s) = m at *;generalize tk T s = t at *;obtain ⟨k, ts, n, line⟩ := t
 dsimp only at HK HM
 by_cases h0 : m = wEnd
 ·have b0 := w_t [101, 110, 100] h0;obtain rfl : u = true := by rw [HM.out]; simp [h0]
  clear HM h0;go_enter Tryz.func74, Tryz.ntmps74;go_wp2_with fail;refine HC.out.mono ?_;rintro e w1 ⟨rfl, b⟩;have HB := qh b;clear b;go_wp2_with fail;go_ret;exact ⟨rfl, HB.out⟩
 ·have b0 := w_f [101, 110, 100] h0;by_cases h1 : m = wElse
  ·have b1 := w_t [101, 108, 115, 101] h1;obtain rfl : u = true := by rw [HM.out]; simp [h1]
   clear HM h0 h1;go_enter Tryz.func74, Tryz.ntmps74;go_wp2_with fail;refine HC.out.mono ?_;rintro e w1 ⟨rfl, b⟩;have HB := qh b;clear b;go_wp2_with fail;go_ret;exact ⟨rfl, HB.out⟩
  ·have b1 := w_f [101, 108, 115, 101] h1;by_cases h2 : m = wElseif
   ·have b2 := w_t [101, 108, 115, 101, 105, 102] h2;obtain rfl : u = true := by rw [HM.out]; simp [h2]
    clear HM h0 h1 h2;go_enter Tryz.func74, Tryz.ntmps74;go_wp2_with fail;refine HC.out.mono ?_;rintro e w1 ⟨rfl, b⟩;have HB := qh b;clear b;go_wp2_with fail;go_ret;exact ⟨rfl, HB.out⟩
   ·have b2 := w_f [101, 108, 115, 101, 105, 102] h2;by_cases h3 : m = wUntil
    ·have b3 := w_t [117, 110, 116, 105, 108] h3;obtain rfl : u = true := by rw [HM.out]; simp [h3]
     clear HM h0 h1 h2 h3;go_enter Tryz.func74, Tryz.ntmps74;go_wp2_with fail;refine HC.out.mono ?_;rintro e w1 ⟨rfl, b⟩;have HB := qh b;clear b;go_wp2_with fail;go_ret;exact ⟨rfl, HB.out⟩
    ·have b3 := w_f [117, 110, 116, 105, 108] h3;have hf : ∀ w : World, (Instr.field 55 (.agg #[.int .u8 (k : Int), .string ts, .int .i64 n, .int .i64 (line : Int)]) 0).run Tryz.prog w = .ok (.int .u8 (k : Int)) w := fun _ => by kernel_rfl
     by_cases hk : k = 6
     ·obtain rfl : u = true := by rw [HM.out]; simp [h0, h1, h2, h3, hk]
      have hk2 : ((k : Int) == 6) = true := by simp; omega
      clear HM hk h0 h1 h2 h3;go_enter Tryz.func74, Tryz.ntmps74;go_wp2_with fail;refine HC.out.mono ?_;rintro e w1 ⟨rfl, b⟩;have HB := qh b;clear b;go_wp2_with fail;refine (HK.out w1 HB.out).mono ?_;rintro e w2 ⟨rfl, b⟩;have HB2 := qh (HB.out.trans (b.mono HB.out.size));clear b;go_wp2_with fail;go_ret;exact ⟨rfl, HB2.out⟩
     ·obtain rfl : u = false := by rw [HM.out]; simp [h0, h1, h2, h3, hk]
      have hk2 : ((k : Int) == 6) = false := by simp; omega
      clear HM hk h0 h1 h2 h3;go_enter Tryz.func74, Tryz.ntmps74;go_wp2_with fail;refine HC.out.mono ?_;rintro e w1 ⟨rfl, b⟩;have HB := qh b;clear b;go_wp2_with fail;refine (HK.out w1 HB.out).mono ?_;rintro e w2 ⟨rfl, b⟩;have HB2 := qh (HB.out.trans (b.mono HB.out.size));clear b;go_wp2_with fail;go_ret;exact ⟨rfl, HB2.out⟩
theorem startsArgs_fn {T : List Tok} {tv : Value} {P base : Nat} {s : St} {nv : NR} (w : World) (h : PAt T tv P base s nv w) : Calls Tryz.prog 179 #[.pointer (some ⟨P, 0, none⟩)] w fun e w' => e = .returned (.bool (startsArgs (tk T s))) /\ Below w.heap.size w w' := by
 have HC := qh (fun w' (hb : Below w.heap.size w w') => mark_fn w' (h.below hb));have HK := qh (fun w' (hb : Below w.heap.size w w') => token_fn w' (h.below hb));unfold tokV at HK;have HM := qh (show startsArgs (tk T s) = (markOf (tk T s) = wOpen || markOf (tk T s) = wOpenC || (tk T s).k == 5) from rfl);clear h;generalize startsArgs (tk T s) = u at *;generalize markOf (tk T s) = m at *;generalize tk T s = t at *;obtain ⟨k, ts, n, line⟩ := t
 dsimp only at HK HM
 by_cases h0 : m = wOpen
 ·have b0 := w_t [40] h0;obtain rfl : u = true := by rw [HM.out]; simp [h0]
  clear HM h0;have HB0 := qh (Below.refl w.heap.size w);go_enter Tryz.func179, Tryz.ntmps179;go_wp2_with fail;refine (HC.out w HB0.out).mono ?_;rintro e w1 ⟨rfl, b⟩;have HB1 := qh (HB0.out.trans (b.mono HB0.out.size));clear b;go_wp2_with fail;go_ret;exact ⟨rfl, HB1.out⟩
 ·have b0 := w_f [40] h0;by_cases h1 : m = wOpenC
  ·have b1 := w_t [123] h1;obtain rfl : u = true := by rw [HM.out]; simp [h1]
   clear HM h0 h1;have HB0 := qh (Below.refl w.heap.size w);go_enter Tryz.func179, Tryz.ntmps179;go_wp2_with fail;refine (HC.out w HB0.out).mono ?_;rintro e w1 ⟨rfl, b⟩;have HB1 := qh (HB0.out.trans (b.mono HB0.out.size));clear b;go_wp2_with fail;refine (HC.out w1 HB1.out).mono ?_;rintro e w2 ⟨rfl, b⟩;have HB2 := qh (HB1.out.trans (b.mono HB1.out.size));clear b;go_wp2_with fail;go_ret;exact ⟨rfl, HB2.out⟩
  ·have b1 := w_f [123] h1;have hf : ∀ w : World, (Instr.field 55 (.agg #[.int .u8 (k : Int), .string ts, .int .i64 n, .int .i64 (line : Int)]) 0).run Tryz.prog w = .ok (.int .u8 (k : Int)) w := fun _ => by kernel_rfl
   by_cases hk : k = 5
   ·obtain rfl : u = true := by rw [HM.out]; simp [h0, h1, hk]
    have hk2 : ((k : Int) == 5) = true := by simp; omega
    clear HM hk h0 h1;have HB0 := qh (Below.refl w.heap.size w);go_enter Tryz.func179, Tryz.ntmps179;go_wp2_with fail;refine (HC.out w HB0.out).mono ?_;rintro e w1 ⟨rfl, b⟩;have HB1 := qh (HB0.out.trans (b.mono HB0.out.size));clear b;go_wp2_with fail;refine (HC.out w1 HB1.out).mono ?_;rintro e w2 ⟨rfl, b⟩;have HB2 := qh (HB1.out.trans (b.mono HB1.out.size));clear b;go_wp2_with fail;refine (HK.out w2 HB2.out).mono ?_;rintro e w3 ⟨rfl, b⟩;have HB3 := qh (HB2.out.trans (b.mono HB2.out.size));clear b;go_wp2_with fail;go_ret;exact ⟨rfl, HB3.out⟩
   ·obtain rfl : u = false := by rw [HM.out]; simp [h0, h1, hk]
    have hk2 : ((k : Int) == 5) = false := by simp; omega
    clear HM hk h0 h1;have HB0 := qh (Below.refl w.heap.size w);go_enter Tryz.func179, Tryz.ntmps179;go_wp2_with fail;refine (HC.out w HB0.out).mono ?_;rintro e w1 ⟨rfl, b⟩;have HB1 := qh (HB0.out.trans (b.mono HB0.out.size));clear b;go_wp2_with fail;refine (HC.out w1 HB1.out).mono ?_;rintro e w2 ⟨rfl, b⟩;have HB2 := qh (HB1.out.trans (b.mono HB1.out.size));clear b;go_wp2_with fail;refine (HK.out w2 HB2.out).mono ?_;rintro e w3 ⟨rfl, b⟩;have HB3 := qh (HB2.out.trans (b.mono HB2.out.size));clear b;go_wp2_with fail;go_ret;exact ⟨rfl, HB3.out⟩
theorem startPre_do {T : List Tok} {tv : Value} {P base : Nat} {s : St} {nv : NR} (w : World) (h : PAt T tv P base s nv w) : Calls Tryz.prog 149 #[.pointer (some ⟨P, 0, none⟩)] w (Does T tv P base (startPre T) s nv Xn w vUnit 0) := by
 have HH := qh h;have HC := qh (fun w' (hb : Below w.heap.size w w') => mark_fn w' (h.below hb));have HK := qh (fun w' (hb : Below w.heap.size w w') => token_fn w' (h.below hb));have HF := qh (fun w' (hb : Below w.heap.size w w') => fail_fn 40 w' (h.below hb));unfold tokV at HK;have HM := qh (show startPre T s = if (tk T s).k = 1 \/ markOf (tk T s) = wOpen then .ok () s else .no 40 (tk T s).line from rfl);clear h;generalize startPre T = x at *;generalize markOf (tk T s) = m at *;generalize tk T s = t at *;obtain ⟨k, ts, n, line⟩ := t
 dsimp only at HK HM HF
 have hf : ∀ w : World, (Instr.field 55 (.agg #[.int .u8 (k : Int), .string ts, .int .i64 n, .int .i64 (line : Int)]) 0).run Tryz.prog w = .ok (.int .u8 (k : Int)) w := fun _ => by kernel_rfl
 have HB0 := qh (Below.refl w.heap.size w);by_cases hk : k = 1
 ·have hk2 : ((k : Int) == 1) = true := by simp; omega
  have hk3 : ((k : Int) != 1) = false := by simp; omega
  have HX := qh (show x s = .ok () s from by rw [HM.out, if_pos (.inl hk)]);clear hk HM;go_enter Tryz.func149, Tryz.ntmps149;go_wp2_with fail;refine (HK.out w HB0.out).mono ?_;rintro e w1 ⟨rfl, b⟩;have HB1 := qh (HB0.out.trans (b.mono HB0.out.size));clear b;go_wp2_with fail;exact bodyPost_end (v := .tuple #[]) (by simp [results, Tryz.results149, go_sem]) rfl (does_ok (a := ()) (s' := s) HX.out rfl (HH.out.below HB1.out) (Turn.of_below HB1.out) (Nat.le_refl _))
 ·have hk2 : ((k : Int) == 1) = false := by simp; omega
  have hk3 : ((k : Int) != 1) = true := by simp; omega
  by_cases hm : m = wOpen
  ·have b1 := w_t [40] hm;have b2 : (m.toList != [40]) = false := by simp [bne, b1]
   have HX := qh (show x s = .ok () s from by rw [HM.out, if_pos (.inr hm)]);clear hk HM hm;go_enter Tryz.func149, Tryz.ntmps149;go_wp2_with fail;refine (HK.out w HB0.out).mono ?_;rintro e w1 ⟨rfl, b⟩;have HB1 := qh (HB0.out.trans (b.mono HB0.out.size));clear b;go_wp2_with fail;refine (HC.out w1 HB1.out).mono ?_;rintro e w2 ⟨rfl, b⟩;have HB2 := qh (HB1.out.trans (b.mono HB1.out.size));clear b;go_wp2_with fail;exact bodyPost_end (v := .tuple #[]) (by simp [results, Tryz.results149, go_sem]) rfl (does_ok (a := ()) (s' := s) HX.out rfl (HH.out.below HB2.out) (Turn.of_below HB2.out) (Nat.le_refl _))
  ·have b1 := w_f [40] hm;have b2 : (m.toList != [40]) = true := by simp [bne, b1]
   have HX := qh (show x s = .no 40 line from by rw [HM.out, if_neg (fun e => e.elim hk hm)]);clear hk HM hm;go_enter Tryz.func149, Tryz.ntmps149;go_wp2_with fail;refine (HK.out w HB0.out).mono ?_;rintro e w1 ⟨rfl, b⟩;have HB1 := qh (HB0.out.trans (b.mono HB0.out.size));clear b;go_wp2_with fail;refine (HC.out w1 HB1.out).mono ?_;rintro e w2 ⟨rfl, b⟩;have HB2 := qh (HB1.out.trans (b.mono HB1.out.size));clear b;go_wp2_with fail;refine (HF.out w2 HB2.out).mono ?_;rintro e w3 ⟨rfl, b⟩;have HB3 := qh (HB2.out.trans (b.mono HB2.out.size));clear b;go_wp2_with fail;exact ⟨rfl, does_no HX.out (Turn.of_below HB3.out)⟩
theorem startExpr_yes {T : List Tok} {tv : Value} {P base : Nat} {s : St} {nv : NR} {L : Int} (w : World) (h : PAt T tv P base s nv w) (HG : Calls Tryz.prog 72 #[.pointer (some ⟨P, 0, none⟩), .int .i64 L] w fun e w' => e = .returned (.tuple #[]) /\ Below w.heap.size w w') : Calls Tryz.prog 136 #[.pointer (some ⟨P, 0, none⟩), .int .i64 L] w (Does T tv P base (startExpr T) s nv Xn w vUnit 0) := by
 have HH := qh h
 replace HG := qh HG
 have HC := qh (fun w' (hb : Below w.heap.size w w') => mark_fn w' (h.below hb));have HK := qh (fun w' (hb : Below w.heap.size w w') => token_fn w' (h.below hb));have HF := qh (fun w' (hb : Below w.heap.size w w') => fail_fn 40 w' (h.below hb));unfold tokV at HK;have HM := qh (show startExpr T s = if startsE (tk T s) = true then .ok () s else .no 40 (tk T s).line from rfl);have HS := qh (show startsE (tk T s) = ((tk T s).k == 1 || (tk T s).k == 4 || (tk T s).k == 5 || markOf (tk T s) = wNil || markOf (tk T s) = wTrue || markOf (tk T s) = wFalse || markOf (tk T s) = wDots || markOf (tk T s) = wOpenC || markOf (tk T s) = wFunction || markOf (tk T s) = wOpen || unOf (markOf (tk T s)) != 0) from rfl);have HU := qh (fun w' => unary_fn (markOf (tk T s)) w');clear h;generalize startExpr T = x at *;generalize startsE (tk T s) = y at *;generalize unOf (markOf (tk T s)) = u at *;generalize markOf (tk T s) = m at *;generalize tk T s = t at *;obtain ⟨k, ts, n, line⟩ := t
 dsimp only at HK HM HF HS
 have hf : ∀ w : World, (Instr.field 55 (.agg #[.int .u8 (k : Int), .string ts, .int .i64 n, .int .i64 (line : Int)]) 0).run Tryz.prog w = .ok (.int .u8 (k : Int)) w := fun _ => by kernel_rfl
 by_cases hk1 : k = 1
 ·have hi1 : ((k : Int) == 1) = true := by simp; omega
  have HX := qh (show x s = .ok () s from by rw [HM.out, if_pos]; rw [HS.out]; simp [hk1]);clear HM HS hk1;go_enter Tryz.func136, Tryz.ntmps136;go_wp2_with fail;refine HG.out.mono ?_;rintro e w1 ⟨rfl, b⟩;have HB1 := qh b;clear b;go_wp2_with fail;refine (HK.out w1 HB1.out).mono ?_;rintro e w2 ⟨rfl, b⟩;have HB2 := qh (HB1.out.trans (b.mono HB1.out.size));clear b;go_wp2_with fail
  first | exact bodyPost_end (v := .tuple #[]) (by simp [results, Tryz.results136, go_sem]) rfl (does_ok (a := ()) (s' := s) HX.out rfl (HH.out.below HB2.out) (Turn.of_below HB2.out) (Nat.le_refl _)) | exact bodyPost_ret (v := .tuple #[]) (by simp [results, Tryz.results136, go_sem]) rfl (does_ok (a := ()) (s' := s) HX.out rfl (HH.out.below HB2.out) (Turn.of_below HB2.out) (Nat.le_refl _))
 ·have hi1 : ((k : Int) == 1) = false := by simp; omega
  by_cases hk4 : k = 4
  ·have hi4 : ((k : Int) == 4) = true := by simp; omega
   have HX := qh (show x s = .ok () s from by rw [HM.out, if_pos]; rw [HS.out]; simp [hk4]);clear HM HS hk1 hk4;go_enter Tryz.func136, Tryz.ntmps136;go_wp2_with fail;refine HG.out.mono ?_;rintro e w1 ⟨rfl, b⟩;have HB1 := qh b;clear b;go_wp2_with fail;refine (HK.out w1 HB1.out).mono ?_;rintro e w2 ⟨rfl, b⟩;have HB2 := qh (HB1.out.trans (b.mono HB1.out.size));clear b;go_wp2_with fail
   first | exact bodyPost_end (v := .tuple #[]) (by simp [results, Tryz.results136, go_sem]) rfl (does_ok (a := ()) (s' := s) HX.out rfl (HH.out.below HB2.out) (Turn.of_below HB2.out) (Nat.le_refl _)) | exact bodyPost_ret (v := .tuple #[]) (by simp [results, Tryz.results136, go_sem]) rfl (does_ok (a := ()) (s' := s) HX.out rfl (HH.out.below HB2.out) (Turn.of_below HB2.out) (Nat.le_refl _))
  ·have hi4 : ((k : Int) == 4) = false := by simp; omega
   by_cases hk5 : k = 5
   ·have hi5 : ((k : Int) == 5) = true := by simp; omega
    have HX := qh (show x s = .ok () s from by rw [HM.out, if_pos]; rw [HS.out]; simp [hk5]);clear HM HS hk1 hk4 hk5;go_enter Tryz.func136, Tryz.ntmps136;go_wp2_with fail;refine HG.out.mono ?_;rintro e w1 ⟨rfl, b⟩;have HB1 := qh b;clear b;go_wp2_with fail;refine (HK.out w1 HB1.out).mono ?_;rintro e w2 ⟨rfl, b⟩;have HB2 := qh (HB1.out.trans (b.mono HB1.out.size));clear b;go_wp2_with fail
    first | exact bodyPost_end (v := .tuple #[]) (by simp [results, Tryz.results136, go_sem]) rfl (does_ok (a := ()) (s' := s) HX.out rfl (HH.out.below HB2.out) (Turn.of_below HB2.out) (Nat.le_refl _)) | exact bodyPost_ret (v := .tuple #[]) (by simp [results, Tryz.results136, go_sem]) rfl (does_ok (a := ()) (s' := s) HX.out rfl (HH.out.below HB2.out) (Turn.of_below HB2.out) (Nat.le_refl _))
   ·have hi5 : ((k : Int) == 5) = false := by simp; omega
    by_cases h0 : m = wNil
    ·have b0 := w_t [110, 105, 108] h0;have HX := qh (show x s = .ok () s from by rw [HM.out, if_pos]; rw [HS.out]; simp [h0]);clear HM HS HU h0 hk1 hk4 hk5;go_enter Tryz.func136, Tryz.ntmps136;go_wp2_with fail;refine HG.out.mono ?_;rintro e w1 ⟨rfl, b⟩;have HB1 := qh b;clear b;go_wp2_with fail;refine (HK.out w1 HB1.out).mono ?_;rintro e w2 ⟨rfl, b⟩;have HB2 := qh (HB1.out.trans (b.mono HB1.out.size));clear b;go_wp2_with fail;refine (HC.out w2 HB2.out).mono ?_;rintro e w3 ⟨rfl, b⟩;have HB3 := qh (HB2.out.trans (b.mono HB2.out.size));clear b;go_wp2_with fail;exact bodyPost_end (v := .tuple #[]) (by simp [results, Tryz.results136, go_sem]) rfl (does_ok (a := ()) (s' := s) HX.out rfl (HH.out.below HB3.out) (Turn.of_below HB3.out) (Nat.le_refl _))
    ·have b0 := w_f [110, 105, 108] h0;by_cases h1 : m = wTrue
     ·have b1 := w_t [116, 114, 117, 101] h1;have HX := qh (show x s = .ok () s from by rw [HM.out, if_pos]; rw [HS.out]; simp [h1]);clear HM HS HU h0 h1 hk1 hk4 hk5;go_enter Tryz.func136, Tryz.ntmps136;go_wp2_with fail;refine HG.out.mono ?_;rintro e w1 ⟨rfl, b⟩;have HB1 := qh b;clear b;go_wp2_with fail;refine (HK.out w1 HB1.out).mono ?_;rintro e w2 ⟨rfl, b⟩;have HB2 := qh (HB1.out.trans (b.mono HB1.out.size));clear b;go_wp2_with fail;refine (HC.out w2 HB2.out).mono ?_;rintro e w3 ⟨rfl, b⟩;have HB3 := qh (HB2.out.trans (b.mono HB2.out.size));clear b;go_wp2_with fail;exact bodyPost_end (v := .tuple #[]) (by simp [results, Tryz.results136, go_sem]) rfl (does_ok (a := ()) (s' := s) HX.out rfl (HH.out.below HB3.out) (Turn.of_below HB3.out) (Nat.le_refl _))
     ·have b1 := w_f [116, 114, 117, 101] h1;by_cases h2 : m = wFalse
      ·have b2 := w_t [102, 97, 108, 115, 101] h2;have HX := qh (show x s = .ok () s from by rw [HM.out, if_pos]; rw [HS.out]; simp [h2]);clear HM HS HU h0 h1 h2 hk1 hk4 hk5;go_enter Tryz.func136, Tryz.ntmps136;go_wp2_with fail;refine HG.out.mono ?_;rintro e w1 ⟨rfl, b⟩;have HB1 := qh b;clear b;go_wp2_with fail;refine (HK.out w1 HB1.out).mono ?_;rintro e w2 ⟨rfl, b⟩;have HB2 := qh (HB1.out.trans (b.mono HB1.out.size));clear b;go_wp2_with fail;refine (HC.out w2 HB2.out).mono ?_;rintro e w3 ⟨rfl, b⟩;have HB3 := qh (HB2.out.trans (b.mono HB2.out.size));clear b;go_wp2_with fail;exact bodyPost_end (v := .tuple #[]) (by simp [results, Tryz.results136, go_sem]) rfl (does_ok (a := ()) (s' := s) HX.out rfl (HH.out.below HB3.out) (Turn.of_below HB3.out) (Nat.le_refl _))
      ·have b2 := w_f [102, 97, 108, 115, 101] h2;by_cases h3 : m = wDots
       ·have b3 := w_t [46, 46, 46] h3;have HX := qh (show x s = .ok () s from by rw [HM.out, if_pos]; rw [HS.out]; simp [h3]);clear HM HS HU h0 h1 h2 h3 hk1 hk4 hk5;go_enter Tryz.func136, Tryz.ntmps136;go_wp2_with fail;refine HG.out.mono ?_;rintro e w1 ⟨rfl, b⟩;have HB1 := qh b;clear b;go_wp2_with fail;refine (HK.out w1 HB1.out).mono ?_;rintro e w2 ⟨rfl, b⟩;have HB2 := qh (HB1.out.trans (b.mono HB1.out.size));clear b;go_wp2_with fail;refine (HC.out w2 HB2.out).mono ?_;rintro e w3 ⟨rfl, b⟩;have HB3 := qh (HB2.out.trans (b.mono HB2.out.size));clear b;go_wp2_with fail;exact bodyPost_end (v := .tuple #[]) (by simp [results, Tryz.results136, go_sem]) rfl (does_ok (a := ()) (s' := s) HX.out rfl (HH.out.below HB3.out) (Turn.of_below HB3.out) (Nat.le_refl _))
       ·have b3 := w_f [46, 46, 46] h3;by_cases h4 : m = wOpenC
        ·have b4 := w_t [123] h4;have HX := qh (show x s = .ok () s from by rw [HM.out, if_pos]; rw [HS.out]; simp [h4]);clear HM HS HU h0 h1 h2 h3 h4 hk1 hk4 hk5;go_enter Tryz.func136, Tryz.ntmps136;go_wp2_with fail;refine HG.out.mono ?_;rintro e w1 ⟨rfl, b⟩;have HB1 := qh b;clear b;go_wp2_with fail;refine (HK.out w1 HB1.out).mono ?_;rintro e w2 ⟨rfl, b⟩;have HB2 := qh (HB1.out.trans (b.mono HB1.out.size));clear b;go_wp2_with fail;refine (HC.out w2 HB2.out).mono ?_;rintro e w3 ⟨rfl, b⟩;have HB3 := qh (HB2.out.trans (b.mono HB2.out.size));clear b;go_wp2_with fail;exact bodyPost_end (v := .tuple #[]) (by simp [results, Tryz.results136, go_sem]) rfl (does_ok (a := ()) (s' := s) HX.out rfl (HH.out.below HB3.out) (Turn.of_below HB3.out) (Nat.le_refl _))
        ·have b4 := w_f [123] h4;by_cases h5 : m = wFunction
         ·have b5 := w_t [102, 117, 110, 99, 116, 105, 111, 110] h5;have HX := qh (show x s = .ok () s from by rw [HM.out, if_pos]; rw [HS.out]; simp [h5]);clear HM HS HU h0 h1 h2 h3 h4 h5 hk1 hk4 hk5;go_enter Tryz.func136, Tryz.ntmps136;go_wp2_with fail;refine HG.out.mono ?_;rintro e w1 ⟨rfl, b⟩;have HB1 := qh b;clear b;go_wp2_with fail;refine (HK.out w1 HB1.out).mono ?_;rintro e w2 ⟨rfl, b⟩;have HB2 := qh (HB1.out.trans (b.mono HB1.out.size));clear b;go_wp2_with fail;refine (HC.out w2 HB2.out).mono ?_;rintro e w3 ⟨rfl, b⟩;have HB3 := qh (HB2.out.trans (b.mono HB2.out.size));clear b;go_wp2_with fail;exact bodyPost_end (v := .tuple #[]) (by simp [results, Tryz.results136, go_sem]) rfl (does_ok (a := ()) (s' := s) HX.out rfl (HH.out.below HB3.out) (Turn.of_below HB3.out) (Nat.le_refl _))
         ·have b5 := w_f [102, 117, 110, 99, 116, 105, 111, 110] h5;by_cases h6 : m = wOpen
          ·have b6 := w_t [40] h6;have HX := qh (show x s = .ok () s from by rw [HM.out, if_pos]; rw [HS.out]; simp [h6]);clear HM HS HU h0 h1 h2 h3 h4 h5 h6 hk1 hk4 hk5;go_enter Tryz.func136, Tryz.ntmps136;go_wp2_with fail;refine HG.out.mono ?_;rintro e w1 ⟨rfl, b⟩;have HB1 := qh b;clear b;go_wp2_with fail;refine (HK.out w1 HB1.out).mono ?_;rintro e w2 ⟨rfl, b⟩;have HB2 := qh (HB1.out.trans (b.mono HB1.out.size));clear b;go_wp2_with fail;refine (HC.out w2 HB2.out).mono ?_;rintro e w3 ⟨rfl, b⟩;have HB3 := qh (HB2.out.trans (b.mono HB2.out.size));clear b;go_wp2_with fail;exact bodyPost_end (v := .tuple #[]) (by simp [results, Tryz.results136, go_sem]) rfl (does_ok (a := ()) (s' := s) HX.out rfl (HH.out.below HB3.out) (Turn.of_below HB3.out) (Nat.le_refl _))
          ·have b6 := w_f [40] h6;by_cases hu : u = 0
           ·have hu2 : ((u : Int) == 0) = true := by simp; omega
            have HX := qh (show x s = .no 40 line from by rw [HM.out, if_neg]; rw [HS.out]; simp [h0, h1, h2, h3, h4, h5, h6, hk1, hk4, hk5, hu]);clear HM HS hu h0 h1 h2 h3 h4 h5 h6 hk1 hk4 hk5;go_enter Tryz.func136, Tryz.ntmps136;go_wp2_with fail;refine HG.out.mono ?_;rintro e w1 ⟨rfl, b⟩;have HB1 := qh b;clear b;go_wp2_with fail;refine (HK.out w1 HB1.out).mono ?_;rintro e w2 ⟨rfl, b⟩;have HB2 := qh (HB1.out.trans (b.mono HB1.out.size));clear b;go_wp2_with fail;refine (HC.out w2 HB2.out).mono ?_;rintro e w3 ⟨rfl, b⟩;have HB3 := qh (HB2.out.trans (b.mono HB2.out.size));clear b;go_wp2_with fail;refine (HU.out _).mono ?_;rintro e w4 ⟨rfl, rfl⟩;go_wp2_with fail;refine (HF.out _ HB3.out).mono ?_;rintro e w5 ⟨rfl, b⟩;have HB5 := qh (HB3.out.trans (b.mono HB3.out.size));clear b;go_wp2_with fail;exact ⟨rfl, does_no HX.out (Turn.of_below HB5.out)⟩
           ·have hu2 : ((u : Int) == 0) = false := by simp; omega
            have HX := qh (show x s = .ok () s from by rw [HM.out, if_pos]; rw [HS.out]; simp [hu]);clear HM HS hu h0 h1 h2 h3 h4 h5 h6 hk1 hk4 hk5;go_enter Tryz.func136, Tryz.ntmps136;go_wp2_with fail;refine HG.out.mono ?_;rintro e w1 ⟨rfl, b⟩;have HB1 := qh b;clear b;go_wp2_with fail;refine (HK.out w1 HB1.out).mono ?_;rintro e w2 ⟨rfl, b⟩;have HB2 := qh (HB1.out.trans (b.mono HB1.out.size));clear b;go_wp2_with fail;refine (HC.out w2 HB2.out).mono ?_;rintro e w3 ⟨rfl, b⟩;have HB3 := qh (HB2.out.trans (b.mono HB2.out.size));clear b;go_wp2_with fail;refine (HU.out _).mono ?_;rintro e w4 ⟨rfl, rfl⟩;go_wp2_with fail;exact bodyPost_end (v := .tuple #[]) (by simp [results, Tryz.results136, go_sem]) rfl (does_ok (a := ()) (s' := s) HX.out rfl (HH.out.below HB3.out) (Turn.of_below HB3.out) (Nat.le_refl _))

open Go.Lib renaming hid → qh
open Go Go.RowKit Go.ChangeShapes Go.WideShapes Go.Shelf
open Go.Proofs.YtnkejjlidgnkkaaGreatDoor.Nd
open Go.Proofs.YtnkejjlidgnkkaaGreatDoor.Lex (Tok tokensL TokReads)
theorem row_cell : ∀ (rs : List R3) (j i : Nat) (r : R3), rs[j]? = some r -> i < 6 -> (rowCells rs)[j * 6 + i]? = (cells6 r)[i]?
 | [], j, i, r, h, _ => by simp at h
 | q :: rs, 0, i, r, h, hi => by
  have : q = r := by simpa using h
  subst this
  show (cells6 q ++ rowCells rs)[0 * 6 + i]? = _;rw [List.getElem?_append_left (by rw [show (cells6 q).length = 6 from rfl]; omega), show 0 * 6 + i = i by omega]
 | q :: rs, j + 1, i, r, h, hi => by
  have h2 : rs[j]? = some r := by simpa using h
  show (cells6 q ++ rowCells rs)[(j + 1) * 6 + i]? = _;rw [List.getElem?_append_right (by rw [show (cells6 q).length = 6 from rfl]; omega), show (cells6 q).length = 6 from rfl, show (j + 1) * 6 + i - 6 = j * 6 + i by omega];exact row_cell rs j i r h2 hi
section
variable {T : List Tok} {tv : Value} {P base : Nat} {s : St} {nv : NR}
theorem node_cells {w : World} (h : PAt T tv P base s nv w) {a : Int} (ha : Rng a nv) : ∃ (i n g c : Nat), a = (i : Int) /\ i < n /\ nv.v = .slice (some ⟨g, 0, none⟩) n c /\ w.cell? ⟨g, i * 6, none⟩ = some (.int .u8 ((Nd.at' s.l a).k : Int)) /\ w.cell? ⟨g, i * 6 + 5, none⟩ = some (.int .i64 (Nd.at' s.l a).line) := by
 obtain ⟨h0, h1⟩ := ha;obtain ⟨i, rfl⟩ : ∃ i : Nat, a = (i : Int) := ⟨a.toNat, by omega⟩;have hi : i < nv.rs.length := by omega
 have hr : nv.rs[i]? = some (nv.rs[i]'hi) := List.getElem?_eq_getElem hi;have hat : Nd.at' s.l (i : Int) = (nv.rs[i]'hi).1 := by
  unfold Nd.at';rw [<- h.list, List.getD_eq_getElem?_getD, Int.toNat_natCast, List.getElem?_map, hr]
  rfl
 rw [hat];rcases h.nodes.1.2 with ⟨e, en⟩ | ⟨g, cap, cur, e, _, hh, _, _, hs, ht⟩
 ·omega
 ·have hc : ∀ j u, (rowCells nv.rs)[j]? = some u -> w.cell? ⟨g, j, none⟩ = some u := fun j u hu => by
   have := h.nodes.1.cells (g := g) (by rw [e]; rfl) j u hu
   rwa [show ((⟨g, 0, none⟩ : Addr).add j) = ⟨g, j, none⟩ from by unfold Addr.add; split <;> simp_all] at this
  refine ⟨i, _, g, cap, rfl, hi, e, ?_, ?_⟩
  ·exact hc _ _ (by rw [show i * 6 = i * 6 + 0 by omega, row_cell nv.rs i 0 _ hr (by omega)]; rfl)
  ·exact hc _ _ (by rw [row_cell nv.rs i 5 _ hr (by omega)]; rfl)
theorem isCall_fn (w : World) (h : PAt T tv P base s nv w) {a : Int} (ha : Rng a nv) : Calls Tryz.prog 151 #[.pointer (some ⟨P, 0, none⟩), .int .i64 a] w fun e w' => e = .returned (.bool (isCall (Nd.at' s.l a).k)) /\ w' = w := by
 obtain ⟨i, n, g, c, hi, hlt, hv, c0, c5⟩ := node_cells h ha;generalize Nd.at' s.l a = nd at *;subst hi;have y2 := cell_of h.cells 2 nv.v rfl;rw [hv] at y2;have hlt' : (i : Int) < (n : Int) := by omega
 have HM := qh (show isCall nd.k = (nd.k == 29 || nd.k == 30) from rfl);generalize isCall nd.k = u at *;generalize nd.k = k at *;clear h ha hv c5;by_cases h29 : k = 29
 ·obtain rfl : u = true := by rw [HM.out]; simp [h29]
  have b1 : ((k : Int) == 29) = true := by simp; omega
  clear h29 HM;go_enter Tryz.func151, Tryz.ntmps151;go_wp2_with fail;go_ret;exact ⟨rfl, rfl⟩
 ·have b1 : ((k : Int) == 29) = false := by simp; omega
  by_cases h30 : k = 30
  ·obtain rfl : u = true := by rw [HM.out]; simp [h30]
   have b2 : ((k : Int) == 30) = true := by simp; omega
   clear h29 h30 HM;go_enter Tryz.func151, Tryz.ntmps151;go_wp2_with fail;go_ret;exact ⟨rfl, rfl⟩
  ·obtain rfl : u = false := by rw [HM.out]; simp [h29, h30]
   have b2 : ((k : Int) == 30) = false := by simp; omega
   clear h29 h30 HM;go_enter Tryz.func151, Tryz.ntmps151;go_wp2_with fail;go_ret;exact ⟨rfl, rfl⟩
theorem target_do (w : World) (h : PAt T tv P base s nv w) {a : Int} (ha : Rng a nv) : Calls Tryz.prog 152 #[.pointer (some ⟨P, 0, none⟩), .int .i64 a] w (Does T tv P base (targetM T a) s nv Xn w vInt 0) := by
 have HC := qh (isCall_fn w h ha);have HF := qh (fun w' (hb : Below w.heap.size w w') => fail_fn 40 w' (h.below hb));have HH := qh h;have HA := qh ha;have HM := qh (show targetM T a s = if isCall (Nd.at' s.l a).k = true \/ (Nd.at' s.l a).k = 38 then .no 40 (tk T s).line else .ok a s from by
  show (if isCall (Nd.at' s.l a).k = true \/ (Nd.at' s.l a).k = 38 then (fail T 40 : M Int) else pure a) s = _
  split <;> rfl)
 obtain ⟨i, n, g, c, hi, hlt, hv, c0, c5⟩ := node_cells h ha;generalize Nd.at' s.l a = nd at *;have y2 := cell_of h.cells 2 nv.v rfl;rw [hv] at y2;subst hi;have hlt' : (i : Int) < (n : Int) := by omega
 generalize isCall nd.k = u at *;generalize nd.k = k at *;clear h ha hv c5;cases hu : u with
 | true =>
  subst hu;have HX := qh (show targetM T (i : Int) s = .no 40 (tk T s).line from by rw [HM.out, if_pos (.inl rfl)]);clear HM;go_enter Tryz.func152, Tryz.ntmps152;go_wp2_with fail;refine HC.out.mono ?_;rintro e w1 ⟨rfl, rfl⟩;go_wp2_with fail;refine (HF.out _ (Below.refl _ _)).mono ?_;rintro e w2 ⟨rfl, b⟩;have HB := qh b;clear b;go_wp2_with fail;exact ⟨rfl, does_no HX.out (Turn.of_below HB.out)⟩
 | false =>
  subst hu;by_cases h38 : k = 38
  ·have b1 : ((k : Int) == 38) = true := by simp; omega
   have HX := qh (show targetM T (i : Int) s = .no 40 (tk T s).line from by rw [HM.out, if_pos (.inr h38)]);clear HM h38;go_enter Tryz.func152, Tryz.ntmps152;go_wp2_with fail;refine HC.out.mono ?_;rintro e w1 ⟨rfl, rfl⟩;go_wp2_with fail;refine (HF.out _ (Below.refl _ _)).mono ?_;rintro e w2 ⟨rfl, b⟩;have HB := qh b;clear b;go_wp2_with fail;exact ⟨rfl, does_no HX.out (Turn.of_below HB.out)⟩
  ·have b1 : ((k : Int) == 38) = false := by simp; omega
   have HX := qh (show targetM T (i : Int) s = .ok (i : Int) s from by rw [HM.out, if_neg (fun e => e.elim (fun e => by cases e) h38)]);clear HM h38;go_enter Tryz.func152, Tryz.ntmps152;go_wp2_with fail;refine HC.out.mono ?_;rintro e w1 ⟨rfl, rfl⟩;go_wp2_with fail;go_ret;exact does_ok HX.out ⟨rfl, HA.out⟩ HH.out (Turn.of_below (Below.refl _ _)) (Nat.le_refl _)
theorem index_do (w : World) (h : PAt T tv P base s nv w) {a b : Int} (ha : Rng a nv) : Calls Tryz.prog 173 #[.pointer (some ⟨P, 0, none⟩), .int .i64 a, .int .i64 b] w (Does T tv P base (indexM T a b) s nv Xn w vInt 0) := by
 have HD := qh (calls_nilX (add_kids (b := 0) (n := 2) w h ⟨28, 0, ⟨#[]⟩, [], [a, b], (Nd.at' s.l a).line⟩ _ _ _ _ (Nat.zero_le _) (Loc.nil _ _ _ _) rfl rfl (by decide) rfl rfl rfl rfl));have HM := qh (show ∀ r, add T ⟨28, 0, ⟨#[]⟩, [], [a, b], (Nd.at' s.l a).line⟩ s = r -> indexM T a b s = r from fun r e => e);obtain ⟨i, n, g, c, hi, hlt, hv, c0, c5⟩ := node_cells h ha;generalize Nd.at' s.l a = nd at *;have y2 := cell_of h.cells 2 nv.v rfl;rw [hv] at y2;subst hi;have hlt' : (i : Int) < (n : Int) := by omega
 have hal : ∀ o, Below w.heap.size w (w.alloc o) := fun o => (Below.refl _ _).alloc (Nat.le_refl _) _
 have y2 := fun o => cell_up (hal o) y2
 have c5 := fun o => cell_up (hal o) c5
 clear h ha hv c0 hal;go_enter Tryz.func173, Tryz.ntmps173;go_wp2_with fail;refine HD.out.mono ?_;intro e w1 hd1;rcases does_cases hd1 with ⟨a1, s1, v1, nv1, hx1, rfl, hv1, hP1, hT1, hl1⟩ | ⟨er, l1, nv1, hx1, rfl, hT1⟩;rotate_left
 ·have HX1 := qh (HM.out _ hx1);have HT1 := qh hT1;clear hd1 hx1 hT1;go_wp2_with fail;exact ⟨rfl, does_no HX1.out HT1.out⟩
 obtain ⟨rfl, hr1⟩ := hv1;have HX1 := qh (HM.out _ hx1);have HR1 := qh hr1;have HP1 := qh hP1;have HT1 := qh hT1;have HL1 := qh hl1;clear hd1 hx1 hr1 hP1 hT1 hl1;go_wp2_with fail;go_ret;exact does_ok HX1.out ⟨rfl, HR1.out⟩ HP1.out HT1.out HL1.out
theorem peek_k {a : ByteArray} {s' : St} (h : peekName T s = .ok a s') : (tk T s').k ≠ 6 := by
 unfold peekName at h;by_cases hk : (tk T s).k = 1
 ·rw [if_pos hk] at h; cases h; omega
 ·rw [if_neg hk] at h; cases h
theorem variable_do (hE : EndT T) (w : World) (h : PAt T tv P base s nv w) : Calls Tryz.prog 144 #[.pointer (some ⟨P, 0, none⟩)] w (Does T tv P base (variableM T) s nv Xn w vInt 1) := by
 have HP0 := qh h;have HT0 := qh (show Turn P nv Xn w w nv from Turn.of_below (Below.refl _ _));clear h;go_enter Tryz.func144, Tryz.ntmps144;go_wp2_with fail;refine (line_fn _ HP0.out).mono ?_;rintro e w1 ⟨rfl, b⟩;have HP1 := qh (HP0.out.below b);have HT1 := qh (HT0.out.trans (Turn.of_below b));clear b;go_wp2_with fail;refine (name_do hE _ HP1.out).mono ?_;intro e w2 hd2;rcases hidC HT1 hd2 with ⟨a2, s2, v2, nv2, HX2, rfl, hv2, HP2, HT2, HL2⟩ | ⟨er, l2, nv2, HX2, rfl, HT2⟩;rotate_left
 ·clear hd2;go_wp2_with fail;exact ⟨rfl, does_no (by simp only [variableM, runs, HX2.out]) HT2.out⟩
 obtain rfl : v2 = .string a2 := hv2;clear hd2;go_wp2_with fail;refine (add_leaf w2 HP2.out ⟨27, 0, a2, [], [], ((tk T s).line : Nat)⟩ _ _ _ _ rfl rfl rfl rfl rfl rfl).mono ?_;intro e w3 hd3;rcases hidC HT2 hd3 with ⟨a3, s3, v3, nv3, HX3, rfl, hv3, HP3, HT3, HL3⟩ | ⟨er, l3, nv3, HX3, rfl, HT3⟩;rotate_left
 ·clear hd3;go_wp2_with fail;exact ⟨rfl, does_no (by simp only [variableM, runs, HX2.out, HX3.out]) HT3.out⟩
 obtain ⟨rfl, hr3⟩ : v3 = .int .i64 a3 /\ Rng a3 nv3 := hv3;have HR3 := qh hr3;clear hd3 hr3;go_wp2_with fail;go_ret;exact does_ok (a := a3) (s' := s3) (by simp only [variableM, runs, HX2.out, HX3.out]) ⟨rfl, HR3.out⟩ HP3.out HT3.out (by have := HL2.out; have := HL3.out; omega)
theorem key_do {beg : M Unit} {L : Int} (hE : EndT T) (hB : ∀ s nv w, PAt T tv P base s nv w -> Calls Tryz.prog 72 #[.pointer (some ⟨P, 0, none⟩), .int .i64 L] w (Does T tv P base beg s nv Xn w vUnit 0)) (w : World) (h : PAt T tv P base s nv w) : Calls Tryz.prog 174 #[.pointer (some ⟨P, 0, none⟩), .int .i64 L] w (Does T tv P base (keyM T beg) s nv Xn w vInt 1) := by
 have HP0 := qh h;have HT0 := qh (show Turn P nv Xn w w nv from Turn.of_below (Below.refl _ _));clear h;go_enter Tryz.func174, Tryz.ntmps174;go_wp2_with fail;refine (hB _ _ _ HP0.out).mono ?_;intro e w1 hd1;rcases hidC HT0 hd1 with ⟨a1, s1, v1, nv1, HX1, rfl, hv1, HP1, HT1, HL1⟩ | ⟨er, l1, nv1, HX1, rfl, HT1⟩;rotate_left
 ·clear hd1;go_wp2_with fail;exact ⟨rfl, does_no (by simp only [keyM, runs, HX1.out]) HT1.out⟩
 obtain rfl : v1 = .tuple #[] := hv1;clear hd1;go_wp2_with fail;refine (line_fn _ HP1.out).mono ?_;rintro e w2 ⟨rfl, b⟩;have HP2 := qh (HP1.out.below b);have HT2 := qh (HT1.out.trans (Turn.of_below b));clear b;go_wp2_with fail;refine (peek_do _ HP2.out).mono ?_;intro e w3 hd3;rcases hidC HT2 hd3 with ⟨a3, s3, v3, nv3, HX3, rfl, hv3, HP3, HT3, HL3⟩ | ⟨er, l3, nv3, HX3, rfl, HT3⟩;rotate_left
 ·clear hd3;go_wp2_with fail;exact ⟨rfl, does_no (by simp only [keyM, runs, HX1.out, HX3.out]) HT3.out⟩
 obtain rfl : v3 = .string a3 := hv3;clear hd3;go_wp2_with fail;refine (next_do hE _ HP3.out (peek_k HX3.out)).mono ?_;intro e w4 hd4;rcases hidC HT3 hd4 with ⟨a4, s4, v4, nv4, HX4, rfl, hv4, HP4, HT4, HL4⟩ | ⟨er, l4, nv4, HX4, rfl, HT4⟩;rotate_left
 ·clear hd4;go_wp2_with fail;exact ⟨rfl, does_no (by simp only [keyM, runs, HX1.out, HX3.out, HX4.out]) HT4.out⟩
 obtain rfl : v4 = .tuple #[] := hv4;clear hd4;go_wp2_with fail;refine (add_leaf w4 HP4.out ⟨24, 0, a3, [], [], ((tk T s1).line : Nat)⟩ _ _ _ _ rfl rfl rfl rfl rfl rfl).mono ?_;intro e w5 hd5;rcases hidC HT4 hd5 with ⟨a5, s5, v5, nv5, HX5, rfl, hv5, HP5, HT5, HL5⟩ | ⟨er, l5, nv5, HX5, rfl, HT5⟩;rotate_left
 ·clear hd5;go_wp2_with fail;exact ⟨rfl, does_no (by simp only [keyM, runs, HX1.out, HX3.out, HX4.out, HX5.out]) HT5.out⟩
 obtain ⟨rfl, hr5⟩ : v5 = .int .i64 a5 /\ Rng a5 nv5 := hv5;have HR5 := qh hr5;clear hd5 hr5;go_wp2_with fail;go_ret;exact does_ok (a := a5) (s' := s5) (by simp only [keyM, runs, HX1.out, HX3.out, HX4.out, HX5.out]) ⟨rfl, HR5.out⟩ HP5.out HT5.out (by have := HL1.out; have := HL3.out; have := HL4.out; have := HL5.out; omega)
theorem field_do {beg : M Unit} {L a : Int} (hE : EndT T) (hw : IntKind.i64.wrap (L + 1) = L + 1) (hB : ∀ s nv w, PAt T tv P base s nv w -> Calls Tryz.prog 72 #[.pointer (some ⟨P, 0, none⟩), .int .i64 (L + 1)] w (Does T tv P base beg s nv Xn w vUnit 0)) (ha : Rng a nv) (w : World) (h : PAt T tv P base s nv w) : Calls Tryz.prog 145 #[.pointer (some ⟨P, 0, none⟩), .int .i64 a, .int .i64 L] w (Does T tv P base (fieldM T beg a) s nv Xn w vInt 1) := by
 have HA := qh ha;have HP0 := qh h;have HT0 := qh (show Turn P nv Xn w w nv from Turn.of_below (Below.refl _ _));clear h ha;go_enter Tryz.func145, Tryz.ntmps145;go_wp2_with fail;refine (key_do hE hB _ HP0.out).mono ?_;intro e w1 hd1;rcases hidR HT0 hd1 with ⟨a1, s1, v1, nv1, HX1, rfl, hv1, HP1, HT1, hT1, HL1⟩ | ⟨er, l1, nv1, HX1, rfl, HT1⟩;rotate_left
 ·clear hd1;go_wp2_with fail;exact ⟨rfl, does_no (by simp only [fieldM, runs, HX1.out]) HT1.out⟩
 obtain ⟨rfl, hr1⟩ : v1 = .int .i64 a1 /\ Rng a1 nv1 := hv1;have HR1 := qh hr1;have HA_1 := qh (hT1.rng HA.out);clear hd1 hT1 hr1;go_wp2_with fail;refine (index_do _ HP1.out HA_1.out).mono ?_;intro e w2 hd2;rcases hidR HT1 hd2 with ⟨a2, s2, v2, nv2, HX2, rfl, hv2, HP2, HT2, hT2, HL2⟩ | ⟨er, l2, nv2, HX2, rfl, HT2⟩;rotate_left
 ·clear hd2;go_wp2_with fail;exact ⟨rfl, does_no (by simp only [fieldM, runs, HX1.out, HX2.out]) HT2.out⟩
 obtain ⟨rfl, hr2⟩ : v2 = .int .i64 a2 /\ Rng a2 nv2 := hv2;have HR2 := qh hr2;have HA_2 := qh (hT2.rng HA_1.out);have HR1_2 := qh (hT2.rng HR1.out);clear hd2 hT2 hr2;go_wp2_with fail;go_ret;exact does_ok (a := a2) (s' := s2) (by simp only [fieldM, runs, HX1.out, HX2.out]) ⟨rfl, HR2.out⟩ HP2.out HT2.out (by have := HL1.out; have := HL2.out; omega)
end
end Go.Proofs.YtnkejjlidgnkkaaGreatDoor.Ps
