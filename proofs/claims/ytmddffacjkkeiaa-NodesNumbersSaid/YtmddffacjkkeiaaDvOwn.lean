/-
  Layer 5: what else a node may have; how it binds (written by gen-dv-own.py).
-/
import Derived.Test.YtmddffacjkkeiaaDvKids
import Derived.Test.YtmddffacjkkeiaaDvName
namespace Go.Proofs.Ytmddffacjkkeiaa.Nd
open Go Go.RowKit Go.ChangeShapes Go.WideShapes Go.Shelf

theorem ret_two {a b : Int} {c d : Int} (h : a = b) (h' : c = d) : Ending.returned (.tuple #[.int .i64 a, .int .i64 c]) = .returned (.tuple #[.int .i64 b, .int .i64 d]) := by rw [h, h']

theorem cnt2 (w : World) : Calls Try.prog 33 #[.int .u8 2] w fun e w' => e = .returned (.tuple #[.int .i64 1, .int .i64 200]) ∧ w = w' := by
  go_enter Try.func33, Try.ntmps33
  go_wp2_with fail
  go_ret2
  exact ⟨ret_two rfl rfl, rfl⟩

theorem cnt10 (w : World) : Calls Try.prog 33 #[.int .u8 10] w fun e w' => e = .returned (.tuple #[.int .i64 1, .int .i64 200]) ∧ w = w' := by
  go_enter Try.func33, Try.ntmps33
  go_wp2_with fail
  go_ret2
  exact ⟨ret_two rfl rfl, rfl⟩

theorem cnt9 (w : World) : Calls Try.prog 33 #[.int .u8 9] w fun e w' => e = .returned (.tuple #[.int .i64 1, .int .i64 1]) ∧ w = w' := by
  go_enter Try.func33, Try.ntmps33
  go_wp2_with fail
  go_ret2
  exact ⟨ret_two rfl rfl, rfl⟩

theorem cnt11 (w : World) : Calls Try.prog 33 #[.int .u8 11] w fun e w' => e = .returned (.tuple #[.int .i64 1, .int .i64 1]) ∧ w = w' := by
  go_enter Try.func33, Try.ntmps33
  go_wp2_with fail
  go_ret2
  exact ⟨ret_two rfl rfl, rfl⟩

theorem cnt26 (w : World) : Calls Try.prog 33 #[.int .u8 26] w fun e w' => e = .returned (.tuple #[.int .i64 0, .int .i64 200]) ∧ w = w' := by
  go_enter Try.func33, Try.ntmps33
  go_wp2_with fail
  go_ret2
  exact ⟨ret_two rfl rfl, rfl⟩

theorem cnt0 (k : Nat) (w : World) (h2 : ¬ (k : Int) = 2) (h10 : ¬ (k : Int) = 10) (h9 : ¬ (k : Int) = 9) (h11 : ¬ (k : Int) = 11) (h26 : ¬ (k : Int) = 26) : Calls Try.prog 33 #[.int .u8 (k : Int)] w fun e w' => e = .returned (.tuple #[.int .i64 0, .int .i64 0]) ∧ w = w' := by
  go_enter Try.func33, Try.ntmps33
  go_wp2_with fail
  go_ret2
  exact ⟨ret_two rfl rfl, rfl⟩

theorem own_counts (k : Nat) (w : World) : Calls Try.prog 33 #[.int .u8 (k : Int)] w fun e w' => e = .returned (.tuple #[.int .i64 ((cntB k).1 : Int), .int .i64 ((cntB k).2 : Int)]) ∧ w = w' := by
  by_cases h2 : k = 2
  · subst h2; exact cnt2 w
  by_cases h10 : k = 10
  · subst h10; exact cnt10 w
  by_cases h9 : k = 9
  · subst h9; exact cnt9 w
  by_cases h11 : k = 11
  · subst h11; exact cnt11 w
  by_cases h26 : k = 26
  · subst h26; exact cnt26 w
  have e : cntB k = (0, 0) := by
    unfold cntB
    split <;> first | rfl | contradiction
  rw [e]
  exact cnt0 k w (by omega) (by omega) (by omega) (by omega) (by omega)

set_option maxRecDepth 100000 in
theorem name14 (x li : Int) (s : ByteArray) (an ak : Option Addr) (ln cn lk ck : Nat) (w : World) :
    Calls Try.prog 35 #[.agg #[.int .u8 14, .int .i64 x, .string s, .slice an ln cn, .slice ak lk ck, .int .i64 li]] w fun e w' => e = .returned (.bool (nmD s)) ∧ Below w.heap.size w w' := by
  go_enter Try.func35, Try.ntmps35
  go_wp2_with fail
  refine (own_name s _).mono ?_
  rintro e w2 ⟨rfl, b2⟩
  have HB := Lib.hid (below_lit (Below.refl w.heap.size w) b2)
  clear b2
  go_wp2_with fail
  go_ret
  exact ⟨rfl, HB.out⟩

set_option maxRecDepth 100000 in
theorem name15 (x li : Int) (s : ByteArray) (an ak : Option Addr) (ln cn lk ck : Nat) (w : World) :
    Calls Try.prog 35 #[.agg #[.int .u8 15, .int .i64 x, .string s, .slice an ln cn, .slice ak lk ck, .int .i64 li]] w fun e w' => e = .returned (.bool (nmD s)) ∧ Below w.heap.size w w' := by
  go_enter Try.func35, Try.ntmps35
  go_wp2_with fail
  refine (own_name s _).mono ?_
  rintro e w2 ⟨rfl, b2⟩
  have HB := Lib.hid (below_lit (Below.refl w.heap.size w) b2)
  clear b2
  go_wp2_with fail
  go_ret
  exact ⟨rfl, HB.out⟩

set_option maxRecDepth 100000 in
theorem name27 (x li : Int) (s : ByteArray) (an ak : Option Addr) (ln cn lk ck : Nat) (w : World) :
    Calls Try.prog 35 #[.agg #[.int .u8 27, .int .i64 x, .string s, .slice an ln cn, .slice ak lk ck, .int .i64 li]] w fun e w' => e = .returned (.bool (nmD s)) ∧ Below w.heap.size w w' := by
  go_enter Try.func35, Try.ntmps35
  go_wp2_with fail
  refine (own_name s _).mono ?_
  rintro e w2 ⟨rfl, b2⟩
  have HB := Lib.hid (below_lit (Below.refl w.heap.size w) b2)
  clear b2
  go_wp2_with fail
  go_ret
  exact ⟨rfl, HB.out⟩

set_option maxRecDepth 100000 in
theorem name30 (x li : Int) (s : ByteArray) (an ak : Option Addr) (ln cn lk ck : Nat) (w : World) :
    Calls Try.prog 35 #[.agg #[.int .u8 30, .int .i64 x, .string s, .slice an ln cn, .slice ak lk ck, .int .i64 li]] w fun e w' => e = .returned (.bool (nmD s)) ∧ Below w.heap.size w w' := by
  go_enter Try.func35, Try.ntmps35
  go_wp2_with fail
  refine (own_name s _).mono ?_
  rintro e w2 ⟨rfl, b2⟩
  have HB := Lib.hid (below_lit (Below.refl w.heap.size w) b2)
  clear b2
  go_wp2_with fail
  go_ret
  exact ⟨rfl, HB.out⟩

set_option maxRecDepth 100000 in
theorem name24 (x li : Int) (s : ByteArray) (an ak : Option Addr) (ln cn lk ck : Nat) (w : World) :
    Calls Try.prog 35 #[.agg #[.int .u8 24, .int .i64 x, .string s, .slice an ln cn, .slice ak lk ck, .int .i64 li]] w fun e w' => e = .returned (.bool (decide (s.size ≤ 65535))) ∧ Below w.heap.size w w' := by
  have hal : Below w.heap.size w (w.alloc (.cells #[.int .u8 24, .int .i64 x, .string s, .slice an ln cn, .slice ak lk ck, .int .i64 li] 30)) := (Below.refl _ _).alloc (Nat.le_refl _) _
  have HAL := Lib.hid hal
  clear hal
  have e : decide (s.size ≤ 65535) = decide ((s.size : Int) ≤ 65535) := by rw [Bool.eq_iff_iff]; simp; omega
  rw [e]
  go_enter Try.func35, Try.ntmps35
  go_wp2_with fail
  go_ret
  exact ⟨rfl, HAL.out⟩

set_option maxRecDepth 100000 in
theorem name0 (k : Nat) (x li : Int) (s : ByteArray) (an ak : Option Addr) (ln cn lk ck : Nat) (w : World) (h14 : ¬ (k : Int) = 14) (h15 : ¬ (k : Int) = 15) (h27 : ¬ (k : Int) = 27) (h30 : ¬ (k : Int) = 30) (h24 : ¬ (k : Int) = 24) :
    Calls Try.prog 35 #[.agg #[.int .u8 (k : Int), .int .i64 x, .string s, .slice an ln cn, .slice ak lk ck, .int .i64 li]] w fun e w' => e = .returned (.bool (decide (s.toList = []))) ∧ Below w.heap.size w w' := by
  have hal : Below w.heap.size w (w.alloc (.cells #[.int .u8 (k : Int), .int .i64 x, .string s, .slice an ln cn, .slice ak lk ck, .int .i64 li] 30)) := (Below.refl _ _).alloc (Nat.le_refl _) _
  have HAL := Lib.hid hal
  clear hal
  go_enter Try.func35, Try.ntmps35
  go_wp2_with fail
  go_ret
  refine ⟨ret_bool ?_, HAL.out⟩
  cases h : s.toList with
  | nil => simp
  | cons a l => simp

theorem own_nameFits (k : Nat) (x li : Int) (s : ByteArray) (an ak : Option Addr) (ln cn lk ck : Nat) (w : World) : Calls Try.prog 35 #[.agg #[.int .u8 (k : Int), .int .i64 x, .string s, .slice an ln cn, .slice ak lk ck, .int .i64 li]] w fun e w' => e = .returned (.bool (nameB nmD k s)) ∧ Below w.heap.size w w' := by
  by_cases h14 : k = 14
  · subst h14; exact name14 x li s an ak ln cn lk ck w
  by_cases h15 : k = 15
  · subst h15; exact name15 x li s an ak ln cn lk ck w
  by_cases h27 : k = 27
  · subst h27; exact name27 x li s an ak ln cn lk ck w
  by_cases h30 : k = 30
  · subst h30; exact name30 x li s an ak ln cn lk ck w
  by_cases h24 : k = 24
  · subst h24; exact name24 x li s an ak ln cn lk ck w
  have e : nameB nmD k s = decide (s.toList = []) := by
    unfold nameB
    split <;> first | rfl | contradiction
  rw [e]
  exact name0 k x li s an ak ln cn lk ck w (by omega) (by omega) (by omega) (by omega) (by omega)

theorem own_within (a b : Int) (q : Nat) (x : Int) (w : World) (hc : w.cell? ⟨q, 1, none⟩ = some (.int .i64 x)) : Calls Try.prog 54 #[.int .i64 a, .int .i64 b, .pointer (some ⟨q, 0, none⟩)] w fun e w' => e = .returned (.bool (decide (a ≤ x ∧ x ≤ b))) ∧ w = w' := by
  by_cases h1 : a ≤ x
  · by_cases h2 : x ≤ b
    · rw [decide_eq_true ⟨h1, h2⟩]
      go_enter Try.func54, Try.ntmps54
      go_wp2_with fail
      go_ret
      exact ⟨ret_bool (by simp), rfl⟩
    · rw [decide_eq_false (fun h => h2 h.2)]
      go_enter Try.func54, Try.ntmps54
      go_wp2_with fail
      go_ret
      exact ⟨ret_bool (by simp), rfl⟩
  · rw [decide_eq_false (fun h => h1 h.1)]
    go_enter Try.func54, Try.ntmps54
    go_wp2_with fail
    go_ret
    exact ⟨rfl, rfl⟩

set_option maxRecDepth 100000 in
theorem num3 (x li : Int) (s : ByteArray) (an ak : Option Addr) (ln cn lk ck : Nat) (w : World) :
    Calls Try.prog 36 #[.agg #[.int .u8 3, .int .i64 x, .string s, .slice an ln cn, .slice ak lk ck, .int .i64 li]] w fun e w' => e = .returned (.bool (decide (1 ≤ x ∧ x ≤ 200))) ∧ Below w.heap.size w w' := by
  have hal : Below w.heap.size w (w.alloc (.cells #[.int .u8 3, .int .i64 x, .string s, .slice an ln cn, .slice ak lk ck, .int .i64 li] 30)) := (Below.refl _ _).alloc (Nat.le_refl _) _
  have HAL := Lib.hid hal
  have hc := cell_of (new_block w (.cells #[.int .u8 3, .int .i64 x, .string s, .slice an ln cn, .slice ak lk ck, .int .i64 li] 30)) 1 _ rfl
  have c := own_within 1 200 w.heap.size x _ hc
  clear hal hc
  go_enter Try.func36, Try.ntmps36
  go_wp2_with fail
  refine c.mono ?_
  rintro e w2 ⟨rfl, rfl⟩
  go_wp2_with fail
  go_ret
  exact ⟨ret_bool (by rw [Bool.eq_iff_iff]; simp), HAL.out⟩

set_option maxRecDepth 100000 in
theorem num26 (x li : Int) (s : ByteArray) (an ak : Option Addr) (ln cn lk ck : Nat) (w : World) :
    Calls Try.prog 36 #[.agg #[.int .u8 26, .int .i64 x, .string s, .slice an ln cn, .slice ak lk ck, .int .i64 li]] w fun e w' => e = .returned (.bool (decide (0 ≤ x ∧ x ≤ 1))) ∧ Below w.heap.size w w' := by
  have hal : Below w.heap.size w (w.alloc (.cells #[.int .u8 26, .int .i64 x, .string s, .slice an ln cn, .slice ak lk ck, .int .i64 li] 30)) := (Below.refl _ _).alloc (Nat.le_refl _) _
  have HAL := Lib.hid hal
  have hc := cell_of (new_block w (.cells #[.int .u8 26, .int .i64 x, .string s, .slice an ln cn, .slice ak lk ck, .int .i64 li] 30)) 1 _ rfl
  have c := own_within 0 1 w.heap.size x _ hc
  clear hal hc
  go_enter Try.func36, Try.ntmps36
  go_wp2_with fail
  refine c.mono ?_
  rintro e w2 ⟨rfl, rfl⟩
  go_wp2_with fail
  go_ret
  exact ⟨ret_bool (by rw [Bool.eq_iff_iff]; simp), HAL.out⟩

set_option maxRecDepth 100000 in
theorem num31 (x li : Int) (s : ByteArray) (an ak : Option Addr) (ln cn lk ck : Nat) (w : World) :
    Calls Try.prog 36 #[.agg #[.int .u8 31, .int .i64 x, .string s, .slice an ln cn, .slice ak lk ck, .int .i64 li]] w fun e w' => e = .returned (.bool (decide (1 ≤ x ∧ x ≤ 17))) ∧ Below w.heap.size w w' := by
  have hal : Below w.heap.size w (w.alloc (.cells #[.int .u8 31, .int .i64 x, .string s, .slice an ln cn, .slice ak lk ck, .int .i64 li] 30)) := (Below.refl _ _).alloc (Nat.le_refl _) _
  have HAL := Lib.hid hal
  have hc := cell_of (new_block w (.cells #[.int .u8 31, .int .i64 x, .string s, .slice an ln cn, .slice ak lk ck, .int .i64 li] 30)) 1 _ rfl
  have c := own_within 1 17 w.heap.size x _ hc
  clear hal hc
  go_enter Try.func36, Try.ntmps36
  go_wp2_with fail
  refine c.mono ?_
  rintro e w2 ⟨rfl, rfl⟩
  go_wp2_with fail
  go_ret
  exact ⟨ret_bool (by rw [Bool.eq_iff_iff]; simp), HAL.out⟩

set_option maxRecDepth 100000 in
theorem num34 (x li : Int) (s : ByteArray) (an ak : Option Addr) (ln cn lk ck : Nat) (w : World) :
    Calls Try.prog 36 #[.agg #[.int .u8 34, .int .i64 x, .string s, .slice an ln cn, .slice ak lk ck, .int .i64 li]] w fun e w' => e = .returned (.bool (decide (18 ≤ x ∧ x ≤ 21))) ∧ Below w.heap.size w w' := by
  have hal : Below w.heap.size w (w.alloc (.cells #[.int .u8 34, .int .i64 x, .string s, .slice an ln cn, .slice ak lk ck, .int .i64 li] 30)) := (Below.refl _ _).alloc (Nat.le_refl _) _
  have HAL := Lib.hid hal
  have hc := cell_of (new_block w (.cells #[.int .u8 34, .int .i64 x, .string s, .slice an ln cn, .slice ak lk ck, .int .i64 li] 30)) 1 _ rfl
  have c := own_within 18 21 w.heap.size x _ hc
  clear hal hc
  go_enter Try.func36, Try.ntmps36
  go_wp2_with fail
  refine c.mono ?_
  rintro e w2 ⟨rfl, rfl⟩
  go_wp2_with fail
  go_ret
  exact ⟨ret_bool (by rw [Bool.eq_iff_iff]; simp), HAL.out⟩

set_option maxRecDepth 100000 in
theorem num23 (x li : Int) (s : ByteArray) (an ak : Option Addr) (ln cn lk ck : Nat) (w : World) :
    Calls Try.prog 36 #[.agg #[.int .u8 23, .int .i64 x, .string s, .slice an ln cn, .slice ak lk ck, .int .i64 li]] w fun e w' => e = .returned (.bool true) ∧ Below w.heap.size w w' := by
  have hal : Below w.heap.size w (w.alloc (.cells #[.int .u8 23, .int .i64 x, .string s, .slice an ln cn, .slice ak lk ck, .int .i64 li] 30)) := (Below.refl _ _).alloc (Nat.le_refl _) _
  have HAL := Lib.hid hal
  clear hal
  go_enter Try.func36, Try.ntmps36
  go_wp2_with fail
  go_ret
  exact ⟨rfl, HAL.out⟩

set_option maxRecDepth 100000 in
theorem num0 (k : Nat) (x li : Int) (s : ByteArray) (an ak : Option Addr) (ln cn lk ck : Nat) (w : World) (h23 : ¬ (k : Int) = 23) (h3 : ¬ (k : Int) = 3) (h26 : ¬ (k : Int) = 26) (h31 : ¬ (k : Int) = 31) (h34 : ¬ (k : Int) = 34) :
    Calls Try.prog 36 #[.agg #[.int .u8 (k : Int), .int .i64 x, .string s, .slice an ln cn, .slice ak lk ck, .int .i64 li]] w fun e w' => e = .returned (.bool (decide (x = 0))) ∧ Below w.heap.size w w' := by
  have hal : Below w.heap.size w (w.alloc (.cells #[.int .u8 (k : Int), .int .i64 x, .string s, .slice an ln cn, .slice ak lk ck, .int .i64 li] 30)) := (Below.refl _ _).alloc (Nat.le_refl _) _
  have HAL := Lib.hid hal
  clear hal
  go_enter Try.func36, Try.ntmps36
  go_wp2_with fail
  go_ret
  exact ⟨ret_bool (by rw [Bool.eq_iff_iff]; simp), HAL.out⟩

theorem own_numFits (k : Nat) (x li : Int) (s : ByteArray) (an ak : Option Addr) (ln cn lk ck : Nat) (w : World) : Calls Try.prog 36 #[.agg #[.int .u8 (k : Int), .int .i64 x, .string s, .slice an ln cn, .slice ak lk ck, .int .i64 li]] w fun e w' => e = .returned (.bool (numB k x)) ∧ Below w.heap.size w w' := by
  by_cases h23 : k = 23
  · subst h23; exact num23 x li s an ak ln cn lk ck w
  by_cases h3 : k = 3
  · subst h3; exact num3 x li s an ak ln cn lk ck w
  by_cases h26 : k = 26
  · subst h26; exact num26 x li s an ak ln cn lk ck w
  by_cases h31 : k = 31
  · subst h31; exact num31 x li s an ak ln cn lk ck w
  by_cases h34 : k = 34
  · subst h34; exact num34 x li s an ak ln cn lk ck w
  have e : numB k x = decide (x = 0) := by
    unfold numB
    split <;> first | rfl | contradiction
  rw [e]
  exact num0 k x li s an ak ln cn lk ck w (by omega) (by omega) (by omega) (by omega) (by omega)

theorem opb7 (w : World) : Calls Try.prog 61 #[.int .u8 7] w fun e w' => e = .returned (.int .i64 4) ∧ w = w' := by
  go_enter Try.func61, Try.ntmps61
  go_wp2_with fail
  go_ret
  exact ⟨rfl, rfl⟩

theorem opb8 (w : World) : Calls Try.prog 61 #[.int .u8 8] w fun e w' => e = .returned (.int .i64 5) ∧ w = w' := by
  go_enter Try.func61, Try.ntmps61
  go_wp2_with fail
  go_ret
  exact ⟨rfl, rfl⟩

theorem opb6 (w : World) : Calls Try.prog 61 #[.int .u8 6] w fun e w' => e = .returned (.int .i64 6) ∧ w = w' := by
  go_enter Try.func61, Try.ntmps61
  go_wp2_with fail
  go_ret
  exact ⟨rfl, rfl⟩

theorem opb9 (w : World) : Calls Try.prog 61 #[.int .u8 9] w fun e w' => e = .returned (.int .i64 7) ∧ w = w' := by
  go_enter Try.func61, Try.ntmps61
  go_wp2_with fail
  go_ret
  exact ⟨rfl, rfl⟩

theorem opb10 (w : World) : Calls Try.prog 61 #[.int .u8 10] w fun e w' => e = .returned (.int .i64 7) ∧ w = w' := by
  go_enter Try.func61, Try.ntmps61
  go_wp2_with fail
  go_ret
  exact ⟨rfl, rfl⟩

theorem opb11 (w : World) : Calls Try.prog 61 #[.int .u8 11] w fun e w' => e = .returned (.int .i64 8) ∧ w = w' := by
  go_enter Try.func61, Try.ntmps61
  go_wp2_with fail
  go_ret
  exact ⟨rfl, rfl⟩

theorem opb1 (w : World) : Calls Try.prog 61 #[.int .u8 1] w fun e w' => e = .returned (.int .i64 9) ∧ w = w' := by
  go_enter Try.func61, Try.ntmps61
  go_wp2_with fail
  go_ret
  exact ⟨rfl, rfl⟩

theorem opb2 (w : World) : Calls Try.prog 61 #[.int .u8 2] w fun e w' => e = .returned (.int .i64 9) ∧ w = w' := by
  go_enter Try.func61, Try.ntmps61
  go_wp2_with fail
  go_ret
  exact ⟨rfl, rfl⟩

theorem opb3 (w : World) : Calls Try.prog 61 #[.int .u8 3] w fun e w' => e = .returned (.int .i64 10) ∧ w = w' := by
  go_enter Try.func61, Try.ntmps61
  go_wp2_with fail
  go_ret
  exact ⟨rfl, rfl⟩

theorem opb4 (w : World) : Calls Try.prog 61 #[.int .u8 4] w fun e w' => e = .returned (.int .i64 10) ∧ w = w' := by
  go_enter Try.func61, Try.ntmps61
  go_wp2_with fail
  go_ret
  exact ⟨rfl, rfl⟩

theorem opb5 (w : World) : Calls Try.prog 61 #[.int .u8 5] w fun e w' => e = .returned (.int .i64 10) ∧ w = w' := by
  go_enter Try.func61, Try.ntmps61
  go_wp2_with fail
  go_ret
  exact ⟨rfl, rfl⟩

theorem opb0 (n : Int) (w : World) (h7 : ¬ n = 7) (h8 : ¬ n = 8) (h6 : ¬ n = 6) (h9 : ¬ n = 9) (h10 : ¬ n = 10) (h11 : ¬ n = 11) (h1 : ¬ n = 1) (h2 : ¬ n = 2) (h3 : ¬ n = 3) (h4 : ¬ n = 4) (h5 : ¬ n = 5) : Calls Try.prog 61 #[.int .u8 n] w fun e w' => e = .returned (.int .i64 3) ∧ w = w' := by
  go_enter Try.func61, Try.ntmps61
  go_wp2_with fail
  go_ret
  exact ⟨rfl, rfl⟩

theorem own_op (n : Int) (w : World) : Calls Try.prog 61 #[.int .u8 n] w fun e w' => e = .returned (.int .i64 (opD n : Int)) ∧ w = w' := by
  by_cases h7 : n = 7
  · subst h7; exact opb7 w
  by_cases h8 : n = 8
  · subst h8; exact opb8 w
  by_cases h6 : n = 6
  · subst h6; exact opb6 w
  by_cases h9 : n = 9
  · subst h9; exact opb9 w
  by_cases h10 : n = 10
  · subst h10; exact opb10 w
  by_cases h11 : n = 11
  · subst h11; exact opb11 w
  by_cases h1 : n = 1
  · subst h1; exact opb1 w
  by_cases h2 : n = 2
  · subst h2; exact opb2 w
  by_cases h3 : n = 3
  · subst h3; exact opb3 w
  by_cases h4 : n = 4
  · subst h4; exact opb4 w
  by_cases h5 : n = 5
  · subst h5; exact opb5 w
  have e : opD n = 3 := by unfold opD; simp [*]
  rw [e]
  exact opb0 n w h7 h8 h6 h9 h10 h11 h1 h2 h3 h4 h5

set_option maxRecDepth 100000 in
theorem bind33 (x li : Int) (s : ByteArray) (an ak : Option Addr) (ln cn lk ck : Nat) (w : World) :
    Calls Try.prog 43 #[.agg #[.int .u8 33, .int .i64 x, .string s, .slice an ln cn, .slice ak lk ck, .int .i64 li]] w fun e w' => e = .returned (.int .i64 1) ∧ Below w.heap.size w w' := by
  have hal : Below w.heap.size w (w.alloc (.cells #[.int .u8 33, .int .i64 x, .string s, .slice an ln cn, .slice ak lk ck, .int .i64 li] 30)) := (Below.refl _ _).alloc (Nat.le_refl _) _
  have HAL := Lib.hid hal
  clear hal
  go_enter Try.func43, Try.ntmps43
  go_wp2_with fail
  go_ret
  exact ⟨rfl, HAL.out⟩

set_option maxRecDepth 100000 in
theorem bind32 (x li : Int) (s : ByteArray) (an ak : Option Addr) (ln cn lk ck : Nat) (w : World) :
    Calls Try.prog 43 #[.agg #[.int .u8 32, .int .i64 x, .string s, .slice an ln cn, .slice ak lk ck, .int .i64 li]] w fun e w' => e = .returned (.int .i64 2) ∧ Below w.heap.size w w' := by
  have hal : Below w.heap.size w (w.alloc (.cells #[.int .u8 32, .int .i64 x, .string s, .slice an ln cn, .slice ak lk ck, .int .i64 li] 30)) := (Below.refl _ _).alloc (Nat.le_refl _) _
  have HAL := Lib.hid hal
  clear hal
  go_enter Try.func43, Try.ntmps43
  go_wp2_with fail
  go_ret
  exact ⟨rfl, HAL.out⟩

set_option maxRecDepth 100000 in
theorem bind34 (x li : Int) (s : ByteArray) (an ak : Option Addr) (ln cn lk ck : Nat) (w : World) :
    Calls Try.prog 43 #[.agg #[.int .u8 34, .int .i64 x, .string s, .slice an ln cn, .slice ak lk ck, .int .i64 li]] w fun e w' => e = .returned (.int .i64 11) ∧ Below w.heap.size w w' := by
  have hal : Below w.heap.size w (w.alloc (.cells #[.int .u8 34, .int .i64 x, .string s, .slice an ln cn, .slice ak lk ck, .int .i64 li] 30)) := (Below.refl _ _).alloc (Nat.le_refl _) _
  have HAL := Lib.hid hal
  clear hal
  go_enter Try.func43, Try.ntmps43
  go_wp2_with fail
  go_ret
  exact ⟨rfl, HAL.out⟩

set_option maxRecDepth 100000 in
theorem bind31 (x li : Int) (s : ByteArray) (an ak : Option Addr) (ln cn lk ck : Nat) (w : World) :
    Calls Try.prog 43 #[.agg #[.int .u8 31, .int .i64 x, .string s, .slice an ln cn, .slice ak lk ck, .int .i64 li]] w fun e w' => e = .returned (.int .i64 (opD (x % 256) : Int)) ∧ Below w.heap.size w w' := by
  have hal : Below w.heap.size w (w.alloc (.cells #[.int .u8 31, .int .i64 x, .string s, .slice an ln cn, .slice ak lk ck, .int .i64 li] 30)) := (Below.refl _ _).alloc (Nat.le_refl _) _
  have HAL := Lib.hid hal
  clear hal
  have hw : IntKind.u8.wrap x = x % 256 := rfl
  go_enter Try.func43, Try.ntmps43
  go_wp2_with fail
  refine (own_op (x % 256) _).mono ?_
  rintro e w2 ⟨rfl, rfl⟩
  go_wp2_with fail
  go_ret
  exact ⟨rfl, HAL.out⟩

set_option maxRecDepth 100000 in
theorem bind0 (k : Nat) (x li : Int) (s : ByteArray) (an ak : Option Addr) (ln cn lk ck : Nat) (w : World) (h33 : ¬ (k : Int) = 33) (h32 : ¬ (k : Int) = 32) (h31 : ¬ (k : Int) = 31) (h34 : ¬ (k : Int) = 34) :
    Calls Try.prog 43 #[.agg #[.int .u8 (k : Int), .int .i64 x, .string s, .slice an ln cn, .slice ak lk ck, .int .i64 li]] w fun e w' => e = .returned (.int .i64 12) ∧ Below w.heap.size w w' := by
  have hal : Below w.heap.size w (w.alloc (.cells #[.int .u8 (k : Int), .int .i64 x, .string s, .slice an ln cn, .slice ak lk ck, .int .i64 li] 30)) := (Below.refl _ _).alloc (Nat.le_refl _) _
  have HAL := Lib.hid hal
  clear hal
  go_enter Try.func43, Try.ntmps43
  go_wp2_with fail
  go_ret
  exact ⟨rfl, HAL.out⟩

theorem own_binds (k : Nat) (x li : Int) (s : ByteArray) (an ak : Option Addr) (ln cn lk ck : Nat) (w : World) : Calls Try.prog 43 #[.agg #[.int .u8 (k : Int), .int .i64 x, .string s, .slice an ln cn, .slice ak lk ck, .int .i64 li]] w fun e w' => e = .returned (.int .i64 (bindD k x : Int)) ∧ Below w.heap.size w w' := by
  by_cases h33 : k = 33
  · subst h33; exact bind33 x li s an ak ln cn lk ck w
  by_cases h32 : k = 32
  · subst h32; exact bind32 x li s an ak ln cn lk ck w
  by_cases h31 : k = 31
  · subst h31; exact bind31 x li s an ak ln cn lk ck w
  by_cases h34 : k = 34
  · subst h34; exact bind34 x li s an ak ln cn lk ck w
  have e : bindD k x = 12 := by unfold bindD; rw [if_neg h33, if_neg h32, if_neg h31, if_neg h34]
  rw [e]
  exact bind0 k x li s an ak ln cn lk ck w (by omega) (by omega) (by omega) (by omega)

end Go.Proofs.Ytmddffacjkkeiaa.Nd
