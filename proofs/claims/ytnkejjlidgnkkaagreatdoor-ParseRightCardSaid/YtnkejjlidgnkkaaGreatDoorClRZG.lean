/-
  A part of the proof.
-/
import Derived.Lib.Hide
import Derived.Test.YtnkejjlidgnkkaaGreatDoorClRA
import Derived.Test.YtnkejjlidgnkkaaGreatDoorClRR
import Derived.Test.YtnkejjlidgnkkaaGreatDoorClRZF
set_option maxRecDepth 100000
set_option maxHeartbeats 40000000
namespace Go.Proofs.YtnkejjlidgnkkaaGreatDoor.Nd

open Go.Lib renaming hid → qh
open Go Go.RowKit Go.ChangeShapes Go.WideShapes Go.Shelf
theorem ret_two {a b : Int} {c d : Int} (h : a = b) (h' : c = d) : Ending.returned (.tuple #[.int .i64 a, .int .i64 c]) = .returned (.tuple #[.int .i64 b, .int .i64 d]) := by rw [h, h']
theorem cnt2 (w : World) : Calls Tryz.prog 55 #[.int .u8 2] w fun e w' => e = .returned (.tuple #[.int .i64 1, .int .i64 200]) /\ w = w' := by
 go_enter Tryz.func55, Tryz.ntmps55;go_wp2_with fail;go_ret2;exact ⟨ret_two rfl rfl, rfl⟩
theorem cnt10 (w : World) : Calls Tryz.prog 55 #[.int .u8 10] w fun e w' => e = .returned (.tuple #[.int .i64 1, .int .i64 200]) /\ w = w' := by
 go_enter Tryz.func55, Tryz.ntmps55;go_wp2_with fail;go_ret2;exact ⟨ret_two rfl rfl, rfl⟩
theorem cnt9 (w : World) : Calls Tryz.prog 55 #[.int .u8 9] w fun e w' => e = .returned (.tuple #[.int .i64 1, .int .i64 1]) /\ w = w' := by
 go_enter Tryz.func55, Tryz.ntmps55;go_wp2_with fail;go_ret2;exact ⟨ret_two rfl rfl, rfl⟩
theorem cnt11 (w : World) : Calls Tryz.prog 55 #[.int .u8 11] w fun e w' => e = .returned (.tuple #[.int .i64 1, .int .i64 1]) /\ w = w' := by
 go_enter Tryz.func55, Tryz.ntmps55;go_wp2_with fail;go_ret2;exact ⟨ret_two rfl rfl, rfl⟩
theorem cnt26 (w : World) : Calls Tryz.prog 55 #[.int .u8 26] w fun e w' => e = .returned (.tuple #[.int .i64 0, .int .i64 200]) /\ w = w' := by
 go_enter Tryz.func55, Tryz.ntmps55;go_wp2_with fail;go_ret2;exact ⟨ret_two rfl rfl, rfl⟩
theorem cnt0 (k : Nat) (w : World) (h2 : ¬ (k : Int) = 2) (h10 : ¬ (k : Int) = 10) (h9 : ¬ (k : Int) = 9) (h11 : ¬ (k : Int) = 11) (h26 : ¬ (k : Int) = 26) : Calls Tryz.prog 55 #[.int .u8 (k : Int)] w fun e w' => e = .returned (.tuple #[.int .i64 0, .int .i64 0]) /\ w = w' := by
 go_enter Tryz.func55, Tryz.ntmps55;go_wp2_with fail;go_ret2;exact ⟨ret_two rfl rfl, rfl⟩
theorem own_counts (k : Nat) (w : World) : Calls Tryz.prog 55 #[.int .u8 (k : Int)] w fun e w' => e = .returned (.tuple #[.int .i64 ((cntB k).1 : Int), .int .i64 ((cntB k).2 : Int)]) /\ w = w' := by
 by_cases h2 : k = 2
 ·subst h2; exact cnt2 w
 by_cases h10 : k = 10
 ·subst h10; exact cnt10 w
 by_cases h9 : k = 9
 ·subst h9; exact cnt9 w
 by_cases h11 : k = 11
 ·subst h11; exact cnt11 w
 by_cases h26 : k = 26
 ·subst h26; exact cnt26 w
 have e : cntB k = (0, 0) := by
  unfold cntB
  split <;> first | rfl | contradiction
 rw [e];exact cnt0 k w (by omega) (by omega) (by omega) (by omega) (by omega)
theorem name14 (x li : Int) (s : ByteArray) (an ak : Option Addr) (ln cn lk ck : Nat) (w : World) :
  Calls Tryz.prog 57 #[.agg #[.int .u8 14, .int .i64 x, .string s, .slice an ln cn, .slice ak lk ck, .int .i64 li]] w fun e w' => e = .returned (.bool (nmD s)) /\ Below w.heap.size w w' := by
 go_enter Tryz.func57, Tryz.ntmps57;go_wp2_with fail;refine (own_name s _).mono ?_;rintro e w2 ⟨rfl, b2⟩;have HB := qh (below_lit (Below.refl w.heap.size w) b2);clear b2;go_wp2_with fail;go_ret;exact ⟨rfl, HB.out⟩
theorem name15 (x li : Int) (s : ByteArray) (an ak : Option Addr) (ln cn lk ck : Nat) (w : World) :
  Calls Tryz.prog 57 #[.agg #[.int .u8 15, .int .i64 x, .string s, .slice an ln cn, .slice ak lk ck, .int .i64 li]] w fun e w' => e = .returned (.bool (nmD s)) /\ Below w.heap.size w w' := by
 go_enter Tryz.func57, Tryz.ntmps57;go_wp2_with fail;refine (own_name s _).mono ?_;rintro e w2 ⟨rfl, b2⟩;have HB := qh (below_lit (Below.refl w.heap.size w) b2);clear b2;go_wp2_with fail;go_ret;exact ⟨rfl, HB.out⟩
theorem name27 (x li : Int) (s : ByteArray) (an ak : Option Addr) (ln cn lk ck : Nat) (w : World) :
  Calls Tryz.prog 57 #[.agg #[.int .u8 27, .int .i64 x, .string s, .slice an ln cn, .slice ak lk ck, .int .i64 li]] w fun e w' => e = .returned (.bool (nmD s)) /\ Below w.heap.size w w' := by
 go_enter Tryz.func57, Tryz.ntmps57;go_wp2_with fail;refine (own_name s _).mono ?_;rintro e w2 ⟨rfl, b2⟩;have HB := qh (below_lit (Below.refl w.heap.size w) b2);clear b2;go_wp2_with fail;go_ret;exact ⟨rfl, HB.out⟩
theorem name30 (x li : Int) (s : ByteArray) (an ak : Option Addr) (ln cn lk ck : Nat) (w : World) :
  Calls Tryz.prog 57 #[.agg #[.int .u8 30, .int .i64 x, .string s, .slice an ln cn, .slice ak lk ck, .int .i64 li]] w fun e w' => e = .returned (.bool (nmD s)) /\ Below w.heap.size w w' := by
 go_enter Tryz.func57, Tryz.ntmps57;go_wp2_with fail;refine (own_name s _).mono ?_;rintro e w2 ⟨rfl, b2⟩;have HB := qh (below_lit (Below.refl w.heap.size w) b2);clear b2;go_wp2_with fail;go_ret;exact ⟨rfl, HB.out⟩
theorem name24 (x li : Int) (s : ByteArray) (an ak : Option Addr) (ln cn lk ck : Nat) (w : World) :
  Calls Tryz.prog 57 #[.agg #[.int .u8 24, .int .i64 x, .string s, .slice an ln cn, .slice ak lk ck, .int .i64 li]] w fun e w' => e = .returned (.bool (decide (s.size <= 65535))) /\ Below w.heap.size w w' := by
 have hal : Below w.heap.size w (w.alloc (.cells #[.int .u8 24, .int .i64 x, .string s, .slice an ln cn, .slice ak lk ck, .int .i64 li] 35)) := (Below.refl _ _).alloc (Nat.le_refl _) _;have HAL := qh hal;clear hal;have e : decide (s.size <= 65535) = decide ((s.size : Int) <= 65535) := by rw [Bool.eq_iff_iff]; simp; omega
 rw [e];go_enter Tryz.func57, Tryz.ntmps57;go_wp2_with fail;go_ret;exact ⟨rfl, HAL.out⟩
theorem name0 (k : Nat) (x li : Int) (s : ByteArray) (an ak : Option Addr) (ln cn lk ck : Nat) (w : World) (h14 : ¬ (k : Int) = 14) (h15 : ¬ (k : Int) = 15) (h27 : ¬ (k : Int) = 27) (h30 : ¬ (k : Int) = 30) (h24 : ¬ (k : Int) = 24) :
  Calls Tryz.prog 57 #[.agg #[.int .u8 (k : Int), .int .i64 x, .string s, .slice an ln cn, .slice ak lk ck, .int .i64 li]] w fun e w' => e = .returned (.bool (decide (s.toList = []))) /\ Below w.heap.size w w' := by
 have hal : Below w.heap.size w (w.alloc (.cells #[.int .u8 (k : Int), .int .i64 x, .string s, .slice an ln cn, .slice ak lk ck, .int .i64 li] 35)) := (Below.refl _ _).alloc (Nat.le_refl _) _;have HAL := qh hal;clear hal;go_enter Tryz.func57, Tryz.ntmps57;go_wp2_with fail;go_ret;refine ⟨ret_bool ?_, HAL.out⟩;cases h : s.toList with
 | nil => simp
 | cons a l => simp
theorem own_nameFits (k : Nat) (x li : Int) (s : ByteArray) (an ak : Option Addr) (ln cn lk ck : Nat) (w : World) : Calls Tryz.prog 57 #[.agg #[.int .u8 (k : Int), .int .i64 x, .string s, .slice an ln cn, .slice ak lk ck, .int .i64 li]] w fun e w' => e = .returned (.bool (nameB nmD k s)) /\ Below w.heap.size w w' := by
 by_cases h14 : k = 14
 ·subst h14; exact name14 x li s an ak ln cn lk ck w
 by_cases h15 : k = 15
 ·subst h15; exact name15 x li s an ak ln cn lk ck w
 by_cases h27 : k = 27
 ·subst h27; exact name27 x li s an ak ln cn lk ck w
 by_cases h30 : k = 30
 ·subst h30; exact name30 x li s an ak ln cn lk ck w
 by_cases h24 : k = 24
 ·subst h24; exact name24 x li s an ak ln cn lk ck w
 have e : nameB nmD k s = decide (s.toList = []) := by
  unfold nameB
  split <;> first | rfl | contradiction
 rw [e];exact name0 k x li s an ak ln cn lk ck w (by omega) (by omega) (by omega) (by omega) (by omega)
theorem own_within (a b : Int) (q : Nat) (x : Int) (w : World) (hc : w.cell? ⟨q, 1, none⟩ = some (.int .i64 x)) : Calls Tryz.prog 103 #[.int .i64 a, .int .i64 b, .pointer (some ⟨q, 0, none⟩)] w fun e w' => e = .returned (.bool (decide (a <= x /\ x <= b))) /\ w = w' := by
 by_cases h1 : a <= x
 ·by_cases h2 : x <= b
  ·rw [decide_eq_true ⟨h1, h2⟩];go_enter Tryz.func103, Tryz.ntmps103;go_wp2_with fail;go_ret;exact ⟨ret_bool (by simp), rfl⟩
  ·rw [decide_eq_false (fun h => h2 h.2)];go_enter Tryz.func103, Tryz.ntmps103;go_wp2_with fail;go_ret;exact ⟨ret_bool (by simp), rfl⟩
 ·rw [decide_eq_false (fun h => h1 h.1)];go_enter Tryz.func103, Tryz.ntmps103;go_wp2_with fail;go_ret;exact ⟨rfl, rfl⟩
theorem num3 (x li : Int) (s : ByteArray) (an ak : Option Addr) (ln cn lk ck : Nat) (w : World) :
  Calls Tryz.prog 58 #[.agg #[.int .u8 3, .int .i64 x, .string s, .slice an ln cn, .slice ak lk ck, .int .i64 li]] w fun e w' => e = .returned (.bool (decide (1 <= x /\ x <= 200))) /\ Below w.heap.size w w' := by
 have hal : Below w.heap.size w (w.alloc (.cells #[.int .u8 3, .int .i64 x, .string s, .slice an ln cn, .slice ak lk ck, .int .i64 li] 35)) := (Below.refl _ _).alloc (Nat.le_refl _) _;have HAL := qh hal;have hc := cell_of (new_block w (.cells #[.int .u8 3, .int .i64 x, .string s, .slice an ln cn, .slice ak lk ck, .int .i64 li] 35)) 1 _ rfl;have c := own_within 1 200 w.heap.size x _ hc;clear hal hc;go_enter Tryz.func58, Tryz.ntmps58;go_wp2_with fail;refine c.mono ?_;rintro e w2 ⟨rfl, rfl⟩;go_wp2_with fail;go_ret;exact ⟨ret_bool (by rw [Bool.eq_iff_iff]; simp), HAL.out⟩
theorem num26 (x li : Int) (s : ByteArray) (an ak : Option Addr) (ln cn lk ck : Nat) (w : World) :
  Calls Tryz.prog 58 #[.agg #[.int .u8 26, .int .i64 x, .string s, .slice an ln cn, .slice ak lk ck, .int .i64 li]] w fun e w' => e = .returned (.bool (decide (0 <= x /\ x <= 1))) /\ Below w.heap.size w w' := by
 have hal : Below w.heap.size w (w.alloc (.cells #[.int .u8 26, .int .i64 x, .string s, .slice an ln cn, .slice ak lk ck, .int .i64 li] 35)) := (Below.refl _ _).alloc (Nat.le_refl _) _;have HAL := qh hal;have hc := cell_of (new_block w (.cells #[.int .u8 26, .int .i64 x, .string s, .slice an ln cn, .slice ak lk ck, .int .i64 li] 35)) 1 _ rfl;have c := own_within 0 1 w.heap.size x _ hc;clear hal hc;go_enter Tryz.func58, Tryz.ntmps58;go_wp2_with fail;refine c.mono ?_;rintro e w2 ⟨rfl, rfl⟩;go_wp2_with fail;go_ret;exact ⟨ret_bool (by rw [Bool.eq_iff_iff]; simp), HAL.out⟩
theorem num31 (x li : Int) (s : ByteArray) (an ak : Option Addr) (ln cn lk ck : Nat) (w : World) :
  Calls Tryz.prog 58 #[.agg #[.int .u8 31, .int .i64 x, .string s, .slice an ln cn, .slice ak lk ck, .int .i64 li]] w fun e w' => e = .returned (.bool (decide (1 <= x /\ x <= 17))) /\ Below w.heap.size w w' := by
 have hal : Below w.heap.size w (w.alloc (.cells #[.int .u8 31, .int .i64 x, .string s, .slice an ln cn, .slice ak lk ck, .int .i64 li] 35)) := (Below.refl _ _).alloc (Nat.le_refl _) _;have HAL := qh hal;have hc := cell_of (new_block w (.cells #[.int .u8 31, .int .i64 x, .string s, .slice an ln cn, .slice ak lk ck, .int .i64 li] 35)) 1 _ rfl;have c := own_within 1 17 w.heap.size x _ hc;clear hal hc;go_enter Tryz.func58, Tryz.ntmps58;go_wp2_with fail;refine c.mono ?_;rintro e w2 ⟨rfl, rfl⟩;go_wp2_with fail;go_ret;exact ⟨ret_bool (by rw [Bool.eq_iff_iff]; simp), HAL.out⟩
theorem num34 (x li : Int) (s : ByteArray) (an ak : Option Addr) (ln cn lk ck : Nat) (w : World) :
  Calls Tryz.prog 58 #[.agg #[.int .u8 34, .int .i64 x, .string s, .slice an ln cn, .slice ak lk ck, .int .i64 li]] w fun e w' => e = .returned (.bool (decide (18 <= x /\ x <= 21))) /\ Below w.heap.size w w' := by
 have hal : Below w.heap.size w (w.alloc (.cells #[.int .u8 34, .int .i64 x, .string s, .slice an ln cn, .slice ak lk ck, .int .i64 li] 35)) := (Below.refl _ _).alloc (Nat.le_refl _) _;have HAL := qh hal;have hc := cell_of (new_block w (.cells #[.int .u8 34, .int .i64 x, .string s, .slice an ln cn, .slice ak lk ck, .int .i64 li] 35)) 1 _ rfl;have c := own_within 18 21 w.heap.size x _ hc;clear hal hc;go_enter Tryz.func58, Tryz.ntmps58;go_wp2_with fail;refine c.mono ?_;rintro e w2 ⟨rfl, rfl⟩;go_wp2_with fail;go_ret;exact ⟨ret_bool (by rw [Bool.eq_iff_iff]; simp), HAL.out⟩
theorem num23 (x li : Int) (s : ByteArray) (an ak : Option Addr) (ln cn lk ck : Nat) (w : World) :
  Calls Tryz.prog 58 #[.agg #[.int .u8 23, .int .i64 x, .string s, .slice an ln cn, .slice ak lk ck, .int .i64 li]] w fun e w' => e = .returned (.bool true) /\ Below w.heap.size w w' := by
 have hal : Below w.heap.size w (w.alloc (.cells #[.int .u8 23, .int .i64 x, .string s, .slice an ln cn, .slice ak lk ck, .int .i64 li] 35)) := (Below.refl _ _).alloc (Nat.le_refl _) _;have HAL := qh hal;clear hal;go_enter Tryz.func58, Tryz.ntmps58;go_wp2_with fail;go_ret;exact ⟨rfl, HAL.out⟩
theorem num0 (k : Nat) (x li : Int) (s : ByteArray) (an ak : Option Addr) (ln cn lk ck : Nat) (w : World) (h23 : ¬ (k : Int) = 23) (h3 : ¬ (k : Int) = 3) (h26 : ¬ (k : Int) = 26) (h31 : ¬ (k : Int) = 31) (h34 : ¬ (k : Int) = 34) :
  Calls Tryz.prog 58 #[.agg #[.int .u8 (k : Int), .int .i64 x, .string s, .slice an ln cn, .slice ak lk ck, .int .i64 li]] w fun e w' => e = .returned (.bool (decide (x = 0))) /\ Below w.heap.size w w' := by
 have hal : Below w.heap.size w (w.alloc (.cells #[.int .u8 (k : Int), .int .i64 x, .string s, .slice an ln cn, .slice ak lk ck, .int .i64 li] 35)) := (Below.refl _ _).alloc (Nat.le_refl _) _;have HAL := qh hal;clear hal;go_enter Tryz.func58, Tryz.ntmps58;go_wp2_with fail;go_ret;exact ⟨ret_bool (by rw [Bool.eq_iff_iff]; simp), HAL.out⟩
theorem own_numFits (k : Nat) (x li : Int) (s : ByteArray) (an ak : Option Addr) (ln cn lk ck : Nat) (w : World) : Calls Tryz.prog 58 #[.agg #[.int .u8 (k : Int), .int .i64 x, .string s, .slice an ln cn, .slice ak lk ck, .int .i64 li]] w fun e w' => e = .returned (.bool (numB k x)) /\ Below w.heap.size w w' := by
 by_cases h23 : k = 23
 ·subst h23; exact num23 x li s an ak ln cn lk ck w
 by_cases h3 : k = 3
 ·subst h3; exact num3 x li s an ak ln cn lk ck w
 by_cases h26 : k = 26
 ·subst h26; exact num26 x li s an ak ln cn lk ck w
 by_cases h31 : k = 31
 ·subst h31; exact num31 x li s an ak ln cn lk ck w
 by_cases h34 : k = 34
 ·subst h34; exact num34 x li s an ak ln cn lk ck w
 have e : numB k x = decide (x = 0) := by
  unfold numB
  split <;> first | rfl | contradiction
 rw [e];exact num0 k x li s an ak ln cn lk ck w (by omega) (by omega) (by omega) (by omega) (by omega)
theorem opb7 (w : World) : Calls Tryz.prog 110 #[.int .u8 7] w fun e w' => e = .returned (.int .i64 4) /\ w = w' := by
 go_enter Tryz.func110, Tryz.ntmps110;go_wp2_with fail;go_ret;exact ⟨rfl, rfl⟩
theorem opb8 (w : World) : Calls Tryz.prog 110 #[.int .u8 8] w fun e w' => e = .returned (.int .i64 5) /\ w = w' := by
 go_enter Tryz.func110, Tryz.ntmps110;go_wp2_with fail;go_ret;exact ⟨rfl, rfl⟩
theorem opb6 (w : World) : Calls Tryz.prog 110 #[.int .u8 6] w fun e w' => e = .returned (.int .i64 6) /\ w = w' := by
 go_enter Tryz.func110, Tryz.ntmps110;go_wp2_with fail;go_ret;exact ⟨rfl, rfl⟩
theorem opb9 (w : World) : Calls Tryz.prog 110 #[.int .u8 9] w fun e w' => e = .returned (.int .i64 7) /\ w = w' := by
 go_enter Tryz.func110, Tryz.ntmps110;go_wp2_with fail;go_ret;exact ⟨rfl, rfl⟩
theorem opb10 (w : World) : Calls Tryz.prog 110 #[.int .u8 10] w fun e w' => e = .returned (.int .i64 7) /\ w = w' := by
 go_enter Tryz.func110, Tryz.ntmps110;go_wp2_with fail;go_ret;exact ⟨rfl, rfl⟩
theorem opb11 (w : World) : Calls Tryz.prog 110 #[.int .u8 11] w fun e w' => e = .returned (.int .i64 8) /\ w = w' := by
 go_enter Tryz.func110, Tryz.ntmps110;go_wp2_with fail;go_ret;exact ⟨rfl, rfl⟩
theorem opb1 (w : World) : Calls Tryz.prog 110 #[.int .u8 1] w fun e w' => e = .returned (.int .i64 9) /\ w = w' := by
 go_enter Tryz.func110, Tryz.ntmps110;go_wp2_with fail;go_ret;exact ⟨rfl, rfl⟩
theorem opb2 (w : World) : Calls Tryz.prog 110 #[.int .u8 2] w fun e w' => e = .returned (.int .i64 9) /\ w = w' := by
 go_enter Tryz.func110, Tryz.ntmps110;go_wp2_with fail;go_ret;exact ⟨rfl, rfl⟩
theorem opb3 (w : World) : Calls Tryz.prog 110 #[.int .u8 3] w fun e w' => e = .returned (.int .i64 10) /\ w = w' := by
 go_enter Tryz.func110, Tryz.ntmps110;go_wp2_with fail;go_ret;exact ⟨rfl, rfl⟩
theorem opb4 (w : World) : Calls Tryz.prog 110 #[.int .u8 4] w fun e w' => e = .returned (.int .i64 10) /\ w = w' := by
 go_enter Tryz.func110, Tryz.ntmps110;go_wp2_with fail;go_ret;exact ⟨rfl, rfl⟩
theorem opb5 (w : World) : Calls Tryz.prog 110 #[.int .u8 5] w fun e w' => e = .returned (.int .i64 10) /\ w = w' := by
 go_enter Tryz.func110, Tryz.ntmps110;go_wp2_with fail;go_ret;exact ⟨rfl, rfl⟩
theorem opb0 (n : Int) (w : World) (h7 : ¬ n = 7) (h8 : ¬ n = 8) (h6 : ¬ n = 6) (h9 : ¬ n = 9) (h10 : ¬ n = 10) (h11 : ¬ n = 11) (h1 : ¬ n = 1) (h2 : ¬ n = 2) (h3 : ¬ n = 3) (h4 : ¬ n = 4) (h5 : ¬ n = 5) : Calls Tryz.prog 110 #[.int .u8 n] w fun e w' => e = .returned (.int .i64 3) /\ w = w' := by
 go_enter Tryz.func110, Tryz.ntmps110;go_wp2_with fail;go_ret;exact ⟨rfl, rfl⟩
theorem own_op (n : Int) (w : World) : Calls Tryz.prog 110 #[.int .u8 n] w fun e w' => e = .returned (.int .i64 (opD n : Int)) /\ w = w' := by
 by_cases h7 : n = 7
 ·subst h7; exact opb7 w
 by_cases h8 : n = 8
 ·subst h8; exact opb8 w
 by_cases h6 : n = 6
 ·subst h6; exact opb6 w
 by_cases h9 : n = 9
 ·subst h9; exact opb9 w
 by_cases h10 : n = 10
 ·subst h10; exact opb10 w
 by_cases h11 : n = 11
 ·subst h11; exact opb11 w
 by_cases h1 : n = 1
 ·subst h1; exact opb1 w
 by_cases h2 : n = 2
 ·subst h2; exact opb2 w
 by_cases h3 : n = 3
 ·subst h3; exact opb3 w
 by_cases h4 : n = 4
 ·subst h4; exact opb4 w
 by_cases h5 : n = 5
 ·subst h5; exact opb5 w
 have e : opD n = 3 := by unfold opD; simp [*]
 rw [e];exact opb0 n w h7 h8 h6 h9 h10 h11 h1 h2 h3 h4 h5
theorem bind33 (x li : Int) (s : ByteArray) (an ak : Option Addr) (ln cn lk ck : Nat) (w : World) :
  Calls Tryz.prog 67 #[.agg #[.int .u8 33, .int .i64 x, .string s, .slice an ln cn, .slice ak lk ck, .int .i64 li]] w fun e w' => e = .returned (.int .i64 1) /\ Below w.heap.size w w' := by
 have hal : Below w.heap.size w (w.alloc (.cells #[.int .u8 33, .int .i64 x, .string s, .slice an ln cn, .slice ak lk ck, .int .i64 li] 35)) := (Below.refl _ _).alloc (Nat.le_refl _) _;have HAL := qh hal;clear hal;go_enter Tryz.func67, Tryz.ntmps67;go_wp2_with fail;go_ret;exact ⟨rfl, HAL.out⟩
theorem bind32 (x li : Int) (s : ByteArray) (an ak : Option Addr) (ln cn lk ck : Nat) (w : World) :
  Calls Tryz.prog 67 #[.agg #[.int .u8 32, .int .i64 x, .string s, .slice an ln cn, .slice ak lk ck, .int .i64 li]] w fun e w' => e = .returned (.int .i64 2) /\ Below w.heap.size w w' := by
 have hal : Below w.heap.size w (w.alloc (.cells #[.int .u8 32, .int .i64 x, .string s, .slice an ln cn, .slice ak lk ck, .int .i64 li] 35)) := (Below.refl _ _).alloc (Nat.le_refl _) _;have HAL := qh hal;clear hal;go_enter Tryz.func67, Tryz.ntmps67;go_wp2_with fail;go_ret;exact ⟨rfl, HAL.out⟩
theorem bind34 (x li : Int) (s : ByteArray) (an ak : Option Addr) (ln cn lk ck : Nat) (w : World) :
  Calls Tryz.prog 67 #[.agg #[.int .u8 34, .int .i64 x, .string s, .slice an ln cn, .slice ak lk ck, .int .i64 li]] w fun e w' => e = .returned (.int .i64 11) /\ Below w.heap.size w w' := by
 have hal : Below w.heap.size w (w.alloc (.cells #[.int .u8 34, .int .i64 x, .string s, .slice an ln cn, .slice ak lk ck, .int .i64 li] 35)) := (Below.refl _ _).alloc (Nat.le_refl _) _;have HAL := qh hal;clear hal;go_enter Tryz.func67, Tryz.ntmps67;go_wp2_with fail;go_ret;exact ⟨rfl, HAL.out⟩
theorem bind31 (x li : Int) (s : ByteArray) (an ak : Option Addr) (ln cn lk ck : Nat) (w : World) :
  Calls Tryz.prog 67 #[.agg #[.int .u8 31, .int .i64 x, .string s, .slice an ln cn, .slice ak lk ck, .int .i64 li]] w fun e w' => e = .returned (.int .i64 (opD (x % 256) : Int)) /\ Below w.heap.size w w' := by
 have hal : Below w.heap.size w (w.alloc (.cells #[.int .u8 31, .int .i64 x, .string s, .slice an ln cn, .slice ak lk ck, .int .i64 li] 35)) := (Below.refl _ _).alloc (Nat.le_refl _) _;have HAL := qh hal;clear hal;have hw : IntKind.u8.wrap x = x % 256 := rfl;go_enter Tryz.func67, Tryz.ntmps67;go_wp2_with fail;refine (own_op (x % 256) _).mono ?_;rintro e w2 ⟨rfl, rfl⟩;go_wp2_with fail;go_ret;exact ⟨rfl, HAL.out⟩
theorem bind0 (k : Nat) (x li : Int) (s : ByteArray) (an ak : Option Addr) (ln cn lk ck : Nat) (w : World) (h33 : ¬ (k : Int) = 33) (h32 : ¬ (k : Int) = 32) (h31 : ¬ (k : Int) = 31) (h34 : ¬ (k : Int) = 34) :
  Calls Tryz.prog 67 #[.agg #[.int .u8 (k : Int), .int .i64 x, .string s, .slice an ln cn, .slice ak lk ck, .int .i64 li]] w fun e w' => e = .returned (.int .i64 12) /\ Below w.heap.size w w' := by
 have hal : Below w.heap.size w (w.alloc (.cells #[.int .u8 (k : Int), .int .i64 x, .string s, .slice an ln cn, .slice ak lk ck, .int .i64 li] 35)) := (Below.refl _ _).alloc (Nat.le_refl _) _;have HAL := qh hal;clear hal;go_enter Tryz.func67, Tryz.ntmps67;go_wp2_with fail;go_ret;exact ⟨rfl, HAL.out⟩
theorem own_binds (k : Nat) (x li : Int) (s : ByteArray) (an ak : Option Addr) (ln cn lk ck : Nat) (w : World) : Calls Tryz.prog 67 #[.agg #[.int .u8 (k : Int), .int .i64 x, .string s, .slice an ln cn, .slice ak lk ck, .int .i64 li]] w fun e w' => e = .returned (.int .i64 (bindD k x : Int)) /\ Below w.heap.size w w' := by
 by_cases h33 : k = 33
 ·subst h33; exact bind33 x li s an ak ln cn lk ck w
 by_cases h32 : k = 32
 ·subst h32; exact bind32 x li s an ak ln cn lk ck w
 by_cases h31 : k = 31
 ·subst h31; exact bind31 x li s an ak ln cn lk ck w
 by_cases h34 : k = 34
 ·subst h34; exact bind34 x li s an ak ln cn lk ck w
 have e : bindD k x = 12 := by unfold bindD; rw [if_neg h33, if_neg h32, if_neg h31, if_neg h34]
 rw [e];exact bind0 k x li s an ak ln cn lk ck w (by omega) (by omega) (by omega) (by omega)
end Go.Proofs.YtnkejjlidgnkkaaGreatDoor.Nd
namespace Go.Proofs.YtnkejjlidgnkkaaGreatDoor.Nd

open Go.Lib renaming hid → qh
abbrev PV := Int × Nat
def kidsLev (l : List Nd) (x : PV) : List PV := (at' l x.1).kids.mapIdx fun i c => (c, x.2 + up (at' l x.1).k i)
def vis (l : List Nd) : Nat -> List PV -> List PV
 | 0, _ => []
 | _ + 1, [] => []
 | f + 1, x :: t => x :: vis l f (kidsLev l x ++ t)
def todo (l : List Nd) : Nat -> List PV -> List PV
 | 0, t => t
 | _ + 1, [] => []
 | f + 1, x :: t => todo l f (kidsLev l x ++ t)
theorem todo_nil (l : List Nd) : ∀ k, todo l k [] = []
 | 0 => rfl
 | _ + 1 => rfl
theorem walk_none (l : List Nd) : ∀ (k : Nat) (t : List PV), todo l k t = [] -> vis l (k + 1) t = vis l k t /\ todo l (k + 1) t = []
 | 0, t, h => by
  have : t = [] := h;subst this; exact ⟨rfl, rfl⟩
 | k + 1, [], _ => ⟨rfl, rfl⟩
 | k + 1, x :: t, h => by
  have := walk_none l k (kidsLev l x ++ t) h;exact ⟨by show x :: vis l (k + 1) _ = x :: vis l k _; rw [this.1], this.2⟩
theorem walk_some (l : List Nd) : ∀ (k : Nat) (t : List PV) (x : PV) (r : List PV), todo l k t = x :: r -> vis l (k + 1) t = vis l k t ++ [x] /\ todo l (k + 1) t = kidsLev l x ++ r
 | 0, t, x, r, h => by
  have : t = x :: r := h;subst this; exact ⟨rfl, rfl⟩
 | k + 1, [], x, r, h => by cases h
 | k + 1, y :: t, x, r, h => by
  have := walk_some l k (kidsLev l y ++ t) x r h;exact ⟨by show y :: vis l (k + 1) _ = y :: vis l k _ ++ [x]; rw [this.1]; rfl, this.2⟩
theorem vis_length (l : List Nd) : ∀ (k : Nat) (t : List PV), todo l k t ≠ [] -> (vis l k t).length = k
 | 0, _, _ => rfl
 | k + 1, [], h => absurd rfl h
 | k + 1, x :: t, h => by
  show (vis l k _).length + 1 = k + 1;rw [vis_length l k _ h]
theorem vis_le (l : List Nd) : ∀ (k : Nat) (t : List PV), (vis l k t).length <= k
 | 0, _ => Nat.le_refl _
 | _ + 1, [] => Nat.zero_le _
 | k + 1, _ :: _ => Nat.succ_le_succ (vis_le l k _)
structure Tied (l : List Nd) (root : Int) : Prop where
 top : inR l root
 kids : ∀ i, inR l i -> ∀ c ∈ (at' l i).kids, inR l c
 once : ∀ (i j : Int) (p q : Nat) (c : Int), inR l i -> inR l j -> (at' l i).kids[p]? = some c -> (at' l j).kids[q]? = some c -> i = j /\ p = q
 free : ∀ i, inR l i -> root ∉ (at' l i).kids
theorem mem_kidsLev {l : List Nd} {x y : PV} (h : y ∈ kidsLev l x) : ∃ p, (at' l x.1).kids[p]? = some y.1 /\ y.2 = x.2 + up (at' l x.1).k p := by
 unfold kidsLev at h;obtain ⟨i, hi, he⟩ := List.mem_mapIdx.1 h;subst he;exact ⟨i, List.getElem?_eq_getElem hi, rfl⟩
theorem kidsLev_mem {l : List Nd} {x : PV} {p : Nat} {c : Int} (h : (at' l x.1).kids[p]? = some c) : (c, x.2 + up (at' l x.1).k p) ∈ kidsLev l x := by
 obtain ⟨hp, rfl⟩ := List.getElem?_eq_some_iff.1 h;exact List.mem_mapIdx.2 ⟨p, hp, rfl⟩
theorem kidsLev_fst (l : List Nd) (x : PV) : (kidsLev l x).map (·.1) = (at' l x.1).kids := by
 unfold kidsLev;refine List.ext_getElem? fun i => ?_
 rw [List.getElem?_map, List.getElem?_mapIdx];cases (at' l x.1).kids[i]? <;> rfl
theorem up_le (k p : Nat) : up k p <= 1 := by unfold up; split <;> omega
structure Inv (l : List Nd) (root : Int) (V T : List PV) : Prop where
 lev : ∀ x ∈ V ++ T, Lev l root x.1 x.2 /\ x.2 <= V.length
 nodup : ((V ++ T).map (·.1)).Nodup
 kid : ∀ x ∈ V, ∀ p c, (at' l x.1).kids[p]? = some c -> (c, x.2 + up (at' l x.1).k p) ∈ V ++ T
 orig : ∀ x ∈ V ++ T, x = (root, 0) \/ ∃ q ∈ V, ∃ p : Nat, (at' l q.1).kids[p]? = some x.1
 top : (root, 0) ∈ V ++ T
theorem Inv.start (l : List Nd) (root : Int) : Inv l root [] [(root, 0)] := by
 refine ⟨?_, ?_, ?_, ?_, ?_⟩
 ·intro x hx;simp at hx;subst hx;exact ⟨.top, Nat.le_refl _⟩
 ·simp
 ·intro x hx; cases hx
 ·intro x hx;simp at hx;exact .inl hx
 ·simp
theorem Inv.inR {l : List Nd} {root : Int} {V T : List PV} (ht : Tied l root) (h : Inv l root V T) {x : PV} (hx : x ∈ V ++ T) : inR l x.1 := lev_in ht.kids ht.top (h.lev x hx).1
theorem perm_step (V r K : List PV) (x : PV) : (V ++ [x] ++ (K ++ r)).Perm ((V ++ x :: r) ++ K) := by
 have e : V ++ x :: r = V ++ [x] ++ r := by simp
 rw [e, List.append_assoc (V ++ [x]) r K];exact (List.perm_append_comm).append_left _
theorem Inv.step {l : List Nd} {root : Int} {V r : List PV} {x : PV} (ht : Tied l root) (h : Inv l root V (x :: r)) : Inv l root (V ++ [x]) (kidsLev l x ++ r) := by
 have hp := perm_step V r (kidsLev l x) x;have hm : ∀ y, y ∈ V ++ [x] ++ (kidsLev l x ++ r) ↔ y ∈ V ++ x :: r \/ y ∈ kidsLev l x := fun y => by rw [hp.mem_iff, List.mem_append]
 have hxin : x ∈ V ++ x :: r := by simp
 have hxR := h.inR ht hxin;have hxV : ∀ q ∈ V, q.1 ≠ x.1 := by
  intro q hq e;have hn := h.nodup;rw [List.map_append, List.map_cons, List.nodup_append] at hn;exact hn.2.2 _ (List.mem_map_of_mem hq) _ (List.mem_cons_self ..) e
 refine ⟨?_, ?_, ?_, ?_, ?_⟩
 ·intro y hy;rcases (hm y).1 hy with h1 | h1
  ·obtain ⟨a, b⟩ := h.lev y h1;exact ⟨a, by rw [List.length_append, List.length_singleton]; omega⟩
  ·obtain ⟨p, hk, hv⟩ := mem_kidsLev h1;obtain ⟨a, b⟩ := h.lev x hxin;have hu := up_le (at' l x.1).k p;refine ⟨?_, by rw [List.length_append, List.length_singleton]; omega⟩;rw [hv];exact .kid a hk
 ·refine (hp.map (·.1)).nodup_iff.2 ?_;rw [List.map_append, List.nodup_append];refine ⟨h.nodup, ?_, ?_⟩
  ·rw [kidsLev_fst]
   show List.Pairwise _ _;rw [List.pairwise_iff_getElem];intro i j hi hj hij e;have := ht.once x.1 x.1 i j _ hxR hxR (List.getElem?_eq_getElem hi) (by rw [e]; exact List.getElem?_eq_getElem hj);omega
  ·intro a ha b hb e;subst e;rw [kidsLev_fst] at hb;obtain ⟨y, hy, rfl⟩ := List.mem_map.1 ha;obtain ⟨q', hq'⟩ := List.getElem?_of_mem hb;rcases h.orig y hy with rfl | ⟨q, hq, p, hk⟩
   ·exact ht.free x.1 hxR hb
   ·have hqR := h.inR ht (List.mem_append_left _ hq);exact hxV q hq (ht.once q.1 x.1 p q' _ hqR hxR hk hq').1
 ·intro y hy p c hc;rw [hm];rcases List.mem_append.1 hy with h1 | h1
  ·exact .inl (h.kid y h1 p c hc)
  ·rw [List.mem_singleton] at h1;subst h1;exact .inr (kidsLev_mem hc)
 ·intro y hy;rcases (hm y).1 hy with h1 | h1
  ·rcases h.orig y h1 with h2 | ⟨q, hq, p, hk⟩
   ·exact .inl h2
   ·exact .inr ⟨q, List.mem_append_left _ hq, p, hk⟩
  ·obtain ⟨p, hk, _⟩ := mem_kidsLev h1;exact .inr ⟨x, by simp, p, hk⟩
 ·rw [hm];exact .inl h.top
theorem Inv.upto {l : List Nd} {root : Int} (ht : Tied l root) : ∀ k, Inv l root (vis l k [(root, 0)]) (todo l k [(root, 0)])
 | 0 => Inv.start l root
 | k + 1 => by
  have ih := Inv.upto ht k;cases hT : todo l k [(root, 0)] with
  | nil =>
   obtain ⟨a, b⟩ := walk_none l k _ hT;rw [a, b];rw [hT] at ih;exact ih
  | cons x r =>
   obtain ⟨a, b⟩ := walk_some l k _ x r hT;rw [a, b];rw [hT] at ih;exact ih.step ht
theorem few_places {l : List Nd} {L : List Int} (hn : L.Nodup) (h : ∀ i ∈ L, inR l i) : L.length <= l.length := by
 have := hn.length_le_of_subset (l₂ := (List.range l.length).map Int.ofNat) (fun i hi => by
  obtain ⟨h0, h1⟩ := h i hi;exact List.mem_map.2 ⟨i.toNat, List.mem_range.2 (by omega), by show ((i.toNat : Nat) : Int) = i; omega⟩)
 rwa [List.length_map, List.length_range] at this
theorem Inv.few {l : List Nd} {root : Int} {V T : List PV} (ht : Tied l root) (h : Inv l root V T) : V.length + T.length <= l.length := by
 have := few_places h.nodup (fun i hi => by obtain ⟨x, hx, rfl⟩ := List.mem_map.1 hi; exact h.inR ht hx)
 rwa [List.length_map, List.length_append] at this
theorem walk_ends {l : List Nd} {root : Int} (ht : Tied l root) : todo l l.length [(root, 0)] = [] := by
 cases hT : todo l l.length [(root, 0)] with
 | nil => rfl
 | cons x r =>
  have h1 := vis_length l l.length [(root, 0)] (by rw [hT]; exact List.cons_ne_nil _ _);have h2 := (Inv.upto ht l.length).few ht;rw [h1, hT, List.length_cons] at h2;omega
theorem walk_done {l : List Nd} {root : Int} : ∀ (m k : Nat), k ≤ m → todo l k [(root, 0)] = [] → vis l m [(root, 0)] = vis l k [(root, 0)] ∧ todo l m [(root, 0)] = [] := by
  intro m
  induction m with
  | zero => intro k hk h; obtain rfl : k = 0 := by omega
            exact ⟨rfl, h⟩
  | succ m ih =>
    intro k hk h
    rcases Nat.lt_or_ge k (m + 1) with h1 | h1
    · obtain ⟨a, b⟩ := ih k (by omega) h
      obtain ⟨c, d⟩ := walk_none l m _ b
      exact ⟨c.trans a, d⟩
    · obtain rfl : k = m + 1 := by omega
      exact ⟨rfl, h⟩
def allV (l : List Nd) (root : Int) : List PV := vis l l.length [(root, 0)]
theorem allV_of {l : List Nd} {root : Int} (ht : Tied l root) {k : Nat} (h : todo l k [(root, 0)] = []) : vis l k [(root, 0)] = allV l root := by
 rcases Nat.le_total k l.length with h1 | h1
 ·exact (walk_done _ _ h1 h).1.symm
 ·exact (walk_done _ _ h1 (walk_ends ht)).1
theorem allV_inv {l : List Nd} {root : Int} (ht : Tied l root) : Inv l root (allV l root) [] := by
 have := Inv.upto ht l.length
 rwa [walk_ends ht] at this
theorem lev_allV {l : List Nd} {root : Int} (ht : Tied l root) {i : Int} {v : Nat} (h : Lev l root i v) : (i, v) ∈ allV l root := by
 have H := allV_inv ht
 induction h with
 | top => have := H.top; rwa [List.append_nil] at this
 | kid _ hc ih => have := H.kid _ ih _ _ hc; rwa [List.append_nil] at this
theorem allV_lev {l : List Nd} {root : Int} (ht : Tied l root) {x : PV} (h : x ∈ allV l root) : Lev l root x.1 x.2 := ((allV_inv ht).lev x (by rwa [List.append_nil])).1
structure RightC (row : Row) (l : List Nd) (root : Int) : Prop where
 few : l.length <= 4096
 head : (at' l root).k = 26 /\ (at' l root).n = 1 /\ (at' l root).names = []
 tied : Tied l root
 found : ∀ i, inR l i -> i = root \/ ∃ j, inR l j /\ i ∈ (at' l j).kids
 rows : ∀ i, inR l i -> row (bare (at' l i)) (kinds l (at' l i)) = true
 deep : ∀ x ∈ allV l root, x.2 <= 100
 all : (allV l root).length = l.length
theorem right_iff (row : Row) (l : List Nd) (root : Int) : RightC row l root ↔ RightP row l root := by
 constructor
 ·intro H;have ht := H.tied;refine ⟨H.few, ht.top, ht.kids, ht.once, ht.free, ?_, H.rows, fun i v h => H.deep _ (lev_allV ht h), H.head⟩;intro i hi;by_cases hm : i ∈ (allV l root).map (·.1)
  ·obtain ⟨x, hx, rfl⟩ := List.mem_map.1 hm;exact ⟨x.2, allV_lev ht hx⟩
  ·exfalso
   have hn := (allV_inv ht).nodup;rw [List.append_nil] at hn;have := few_places (l := l) (L := i :: (allV l root).map (·.1)) (List.nodup_cons.2 ⟨hm, hn⟩) (fun j hj => by
    rcases List.mem_cons.1 hj with rfl | hj
    ·exact hi
    ·obtain ⟨x, hx, rfl⟩ := List.mem_map.1 hj;exact lev_in ht.kids ht.top (allV_lev ht hx))
   rw [List.length_cons, List.length_map, H.all] at this;omega
 ·intro H;have ht : Tied l root := ⟨H.top, H.kids, H.once, H.free⟩;refine ⟨H.few, H.head, ht, ?_, H.rows, fun x hx => H.deep _ _ (allV_lev ht hx), ?_⟩
  ·intro i hi;obtain ⟨v, hv⟩ := H.all i hi;cases hv with
   | top => exact .inl rfl
   | kid hj hc => exact .inr ⟨_, lev_in ht.kids ht.top hj, List.mem_of_getElem? hc⟩
  ·refine Nat.le_antisymm (vis_le l _ _) ?_;have hr : ((List.range l.length).map Int.ofNat).Nodup := by
    show List.Pairwise _ _;rw [List.pairwise_map];exact List.Pairwise.imp (fun h e => h (Int.ofNat.inj e)) (List.nodup_range (n := l.length))
   have := hr.length_le_of_subset (l₂ := (allV l root).map (·.1)) (fun i hi => by
    obtain ⟨n, hn, rfl⟩ := List.mem_map.1 hi;obtain ⟨v, hv⟩ := H.all (Int.ofNat n) ⟨Int.natCast_nonneg _, by have := List.mem_range.1 hn; show (n : Int) < _; omega⟩;exact List.mem_map.2 ⟨_, lev_allV ht hv, rfl⟩)
   rwa [List.length_map, List.length_range, List.length_map] at this
def tieGo (n : Nat) : List Bool -> List Int -> Option (List Bool)
 | f, [] => some f
 | f, c :: cs => if c < 0 \/ (n : Int) <= c \/ f.getD c.toNat false = true then none else tieGo n (f.set c.toNat true) cs
def Marks (n : Nat) (f : List Bool) (seen : List Int) : Prop := f.length = n /\ ∀ j : Nat, j < n -> (f.getD j false = true ↔ (j : Int) ∈ seen)
theorem tieGo_iff (n : Nat) : ∀ (K : List Int) (f : List Bool) (seen : List Int), Marks n f seen ->
  ((∃ g, tieGo n f K = some g) ↔ (∀ c ∈ K, 0 <= c /\ c < n) /\ K.Nodup /\ ∀ c ∈ K, c ∉ seen) /\ ∀ g, tieGo n f K = some g -> Marks n g (K.reverse ++ seen)
 | [], f, seen, hm => ⟨⟨fun _ => ⟨fun c h => (by cases h), List.nodup_nil, fun c h => (by cases h)⟩, fun _ => ⟨f, rfl⟩⟩, fun g hg => by
   have : f = g := Option.some.inj hg;subst this; exact hm⟩
 | c :: cs, f, seen, hm => by
  rw [tieGo];by_cases hc : c < 0 \/ (n : Int) <= c \/ f.getD c.toNat false = true
  ·rw [if_pos hc];refine ⟨⟨fun ⟨g, hg⟩ => (by cases hg), fun ⟨h1, h2, h3⟩ => ?_⟩, fun g hg => (by cases hg)⟩
   exfalso
   have hcc := h1 c (List.mem_cons_self ..);rcases hc with h | h | h
   ·omega
   ·omega
   ·have := (hm.2 c.toNat (by omega)).1 h;rw [show ((c.toNat : Nat) : Int) = c by omega] at this;exact h3 c (List.mem_cons_self ..) this
  ·rw [if_neg hc];have hc0 : 0 <= c := by omega
   have hcn : c < n := by omega
   have hcs : c ∉ seen := fun hs => hc (.inr (.inr ((hm.2 c.toNat (by omega)).2 (by rwa [show ((c.toNat : Nat) : Int) = c by omega]))))
   have hm' : Marks n (f.set c.toNat true) (c :: seen) := by
    refine ⟨by rw [List.length_set]; exact hm.1, fun j hj => ?_⟩;rw [List.getD_eq_getElem?_getD, List.getElem?_set];by_cases e : c.toNat = j
    ·subst e;rw [if_pos rfl, if_pos (by rw [hm.1]; exact hj)];exact ⟨fun _ => List.mem_cons.2 (.inl (by omega)), fun _ => rfl⟩
    ·rw [if_neg e, <- List.getD_eq_getElem?_getD, hm.2 j hj, List.mem_cons];exact ⟨.inr, fun h => h.resolve_left (by omega)⟩
   obtain ⟨ih1, ih2⟩ := tieGo_iff n cs _ _ hm';refine ⟨ih1.trans ⟨fun ⟨h1, h2, h3⟩ => ⟨?_, ?_, ?_⟩, fun ⟨h1, h2, h3⟩ => ⟨?_, ?_, ?_⟩⟩, fun g hg => ?_⟩
   ·intro d hd;rcases List.mem_cons.1 hd with rfl | hd
    ·exact ⟨hc0, hcn⟩
    ·exact h1 d hd
   ·exact List.nodup_cons.2 ⟨fun h => h3 c h (List.mem_cons_self ..), h2⟩
   ·intro d hd;rcases List.mem_cons.1 hd with rfl | hd
    ·exact hcs
    ·exact fun h => h3 d hd (List.mem_cons_of_mem _ h)
   ·exact fun d hd => h1 d (List.mem_cons_of_mem _ hd)
   ·exact (List.nodup_cons.1 h2).2
   ·intro d hd h;rcases List.mem_cons.1 h with rfl | h
    ·exact (List.nodup_cons.1 h2).1 hd
    ·exact h3 d (List.mem_cons_of_mem _ hd) h
   ·have := ih2 g hg;refine ⟨this.1, fun j hj => (this.2 j hj).trans ?_⟩;simp
def tieAll (l : List Nd) (root : Int) : Option (List Bool) := tieGo l.length ((List.replicate l.length false).set root.toNat true) (l.flatMap (·.kids))
def tiedB (l : List Nd) (root : Int) : Bool := match tieAll l root with | none => false | some f => !f.contains false
theorem at_mem {l : List Nd} {i : Int} (h : inR l i) : at' l i ∈ l := by
 have : i.toNat < l.length := by unfold inR at h; omega
 unfold at';rw [List.getD_eq_getElem?_getD, List.getElem?_eq_getElem this];exact List.getElem_mem this
theorem at_nat {l : List Nd} {i : Nat} (h : i < l.length) : at' l (i : Int) = l[i] := by
 unfold at';rw [Int.toNat_natCast, List.getD_eq_getElem?_getD, List.getElem?_eq_getElem h]; rfl
theorem inR_nat {l : List Nd} {i : Nat} : inR l (i : Int) ↔ i < l.length := by unfold inR; omega
theorem of_inR {l : List Nd} {i : Int} (h : inR l i) : ∃ n : Nat, i = n /\ n < l.length := ⟨i.toNat, by unfold inR at h; omega, by unfold inR at h; omega⟩
theorem mem_kidsAll {l : List Nd} {c : Int} : c ∈ l.flatMap (·.kids) ↔ ∃ i, inR l i /\ c ∈ (at' l i).kids := by
 rw [List.mem_flatMap]
 constructor
 ·rintro ⟨n, hn, hc⟩;obtain ⟨i, hi, rfl⟩ := List.getElem_of_mem hn;exact ⟨(i : Int), inR_nat.2 hi, by rw [at_nat hi]; exact hc⟩
 ·rintro ⟨i, hi, hc⟩;exact ⟨_, at_mem hi, hc⟩
theorem once_iff (l : List Nd) : (l.flatMap (·.kids)).Nodup ↔ ∀ (i j : Int) (p q : Nat) (c : Int), inR l i -> inR l j -> (at' l i).kids[p]? = some c -> (at' l j).kids[q]? = some c -> i = j /\ p = q := by
 show List.Pairwise _ _ ↔ _;rw [List.pairwise_flatMap]
 constructor
 ·rintro ⟨h1, h2⟩ i j p q c hi hj hp hq;obtain ⟨i, rfl, hi2⟩ := of_inR hi;obtain ⟨j, rfl, hj2⟩ := of_inR hj;rw [at_nat hi2] at hp;rw [at_nat hj2] at hq;clear hi hj;have hi := hi2;have hj := hj2;rw [List.pairwise_iff_getElem] at h2;have hij : i = j := by
   rcases Nat.lt_trichotomy i j with h | h | h
   ·exact absurd rfl (h2 i j hi hj h c (List.mem_of_getElem? hp) c (List.mem_of_getElem? hq))
   ·exact h
   ·exact absurd rfl (h2 j i hj hi h c (List.mem_of_getElem? hq) c (List.mem_of_getElem? hp))
  subst hij;refine ⟨rfl, ?_⟩;have h3 := h1 _ (List.getElem_mem hi);exact (List.getElem?_inj (List.getElem?_eq_some_iff.1 hp).1 h3).1 (hp.trans hq.symm)
 ·intro H
  constructor
  ·intro n hn;obtain ⟨i, hi, rfl⟩ := List.getElem_of_mem hn;rw [List.pairwise_iff_getElem];intro p q hp hq hpq e;have := (H i i p q _ (inR_nat.2 hi) (inR_nat.2 hi) (by rw [at_nat hi]; exact List.getElem?_eq_getElem hp) (by rw [at_nat hi, e]; exact List.getElem?_eq_getElem hq)).2;omega
  ·rw [List.pairwise_iff_getElem];intro i j hi hj hij c hc d hd e;subst e;obtain ⟨p, hp⟩ := List.getElem?_of_mem hc;obtain ⟨q, hq⟩ := List.getElem?_of_mem hd;have := (H i j p q c (inR_nat.2 hi) (inR_nat.2 hj) (by rw [at_nat hi]; exact hp) (by rw [at_nat hj]; exact hq)).1;omega
theorem tied_iff {l : List Nd} {root : Int} (hr : inR l root) : tiedB l root = true ↔ Tied l root /\ ∀ i, inR l i -> i = root \/ ∃ j, inR l j /\ i ∈ (at' l j).kids := by
 have hm : Marks l.length ((List.replicate l.length false).set root.toNat true) [root] := by
  refine ⟨by simp, fun j hj => ?_⟩;unfold inR at hr;rw [List.getD_eq_getElem?_getD, List.getElem?_set];by_cases e : root.toNat = j
  ·subst e;rw [if_pos rfl, if_pos (by simp; exact hj)];exact ⟨fun _ => List.mem_singleton.2 (by omega), fun _ => rfl⟩
  ·rw [if_neg e];have : ¬ ((j : Int) ∈ [root]) := fun h => by rw [List.mem_singleton] at h; omega
   simp [hj] at this ⊢;omega
 obtain ⟨h1, h2⟩ := tieGo_iff l.length (l.flatMap (·.kids)) _ _ hm;have hT : (∃ g, tieAll l root = some g) ↔ Tied l root := by
  show (∃ g, tieGo _ _ _ = some g) ↔ _;rw [h1]
  constructor
  ·rintro ⟨a, b, c⟩;exact ⟨hr, fun i hi d hd => a d (mem_kidsAll.2 ⟨i, hi, hd⟩), (once_iff l).1 b, fun i hi hd => c root (mem_kidsAll.2 ⟨i, hi, hd⟩) (List.mem_singleton.2 rfl)⟩
  ·intro H;refine ⟨fun c hc => ?_, (once_iff l).2 H.once, fun c hc hs => ?_⟩
   ·obtain ⟨i, hi, hci⟩ := mem_kidsAll.1 hc;exact H.kids i hi c hci
   ·rw [List.mem_singleton] at hs;subst hs;obtain ⟨i, hi, hci⟩ := mem_kidsAll.1 hc;exact H.free i hi hci
 unfold tiedB;cases hg : tieAll l root with
 | none =>
  refine ⟨fun h => Bool.noConfusion h, fun h => ?_⟩;obtain ⟨g, e⟩ := hT.2 h.1;rw [hg] at e; cases e
 | some g =>
  have hM := h2 g hg;have key : (!g.contains false) = true ↔ ∀ j : Nat, j < l.length -> g.getD j false = true := by
   rw [Bool.not_eq_true', List.contains_eq_mem, decide_eq_false_iff_not]
   constructor
   ·intro h j hj;cases e : g.getD j false with
    | true => rfl
    | false =>
     exfalso
     refine h ?_;rw [List.getD_eq_getElem?_getD, List.getElem?_eq_getElem (by rw [hM.1]; exact hj)] at e;have e' : g[j]'(by rw [hM.1]; exact hj) = false := e;rw [<- e'];exact List.getElem_mem _
   ·intro h hf;obtain ⟨j, hj, e⟩ := List.getElem_of_mem hf;have := h j (by rw [<- hM.1]; exact hj);rw [List.getD_eq_getElem?_getD, List.getElem?_eq_getElem hj, e] at this;cases this
  show (!g.contains false) = true ↔ _;rw [key]
  constructor
  ·intro h;refine ⟨hT.1 ⟨g, hg⟩, fun i hi => ?_⟩;obtain ⟨n, rfl, hn⟩ := of_inR hi;have := (hM.2 n hn).1 (h n hn);rw [List.mem_append, List.mem_reverse, List.mem_singleton] at this;rcases this with h3 | h3
   ·exact .inr (mem_kidsAll.1 h3)
   ·exact .inl h3
  ·intro H j hj;refine (hM.2 j hj).2 ?_;rw [List.mem_append, List.mem_reverse, List.mem_singleton];rcases H.2 j (inR_nat.2 hj) with h3 | h3
   ·exact .inr h3
   ·exact .inl (mem_kidsAll.2 h3)
end Go.Proofs.YtnkejjlidgnkkaaGreatDoor.Nd
