/-
  twinstepref01.one, by contract.
-/
import Derived.Test.YtfciilkngmdlbaaRunesF
import Derived.Test.YtfciilkngmdlbaaRunesOne
namespace Go.Proofs.Ytfciilkngmdlbaa
open Go.RowKit

theorem run_index_at {P : Program} (t : TypeId) (s : ByteArray) (x : Int) (j : Nat) (h : P.underlying t = some .string) (hj : j < s.size) (hx : x = j) (w : World) :
    (Instr.index t (.string s) (.int .i64 x)).run P w = .ok (.int .u8 (byteAt s j)) w := by
  subst hx
  rw [run_index_string w t s .i64 j h, dif_pos (by omega)]
  obtain ⟨⟨l⟩⟩ := s
  have hl : j < l.length := hj
  unfold byteAt
  rw [get!_mk l j hl]
  rfl

theorem run_slice_at {P : Program} (t : TypeId) (s : ByteArray) (x y : Int) (i j : Nat) (h : P.underlying t = some .string) (hij : i ≤ j) (hj : j ≤ s.size) (hx : x = i) (hy : y = j) (w : World) :
    (Instr.slice t (.string s) (some (.int .i64 x)) (some (.int .i64 y)) none).run P w = .ok (.string (s.extract i j)) w := by
  subst hx hy
  exact run_slice_string w t s .i64 .i64 i j h (by omega) (by omega) (by omega)

theorem ref_encode_ok (n : Int) (w : World) (h0 : 0 ≤ n) (h1 : n ≤ 2147483647) :
    Calls Try.prog 18 #[.int .i64 n] w fun e w' => e = .returned (.tuple #[.string (encS n), .int .i64 0]) ∧ Below w.heap.size w w' := by
  have h := ref_encode n w
  rwa [show encE n = 0 from by unfold encE; rw [if_neg (by omega)]] at h

def numAt (s : ByteArray) (p k : Nat) : Int := numK (byteAt s p) (byteAt s (p + 1)) (byteAt s (p + 2)) (byteAt s (p + 3)) k
def fitAt (s : ByteArray) (p k : Nat) : Bool := fitK (numAt s p k) (bytesK (byteAt s p) (byteAt s (p + 1)) (byteAt s (p + 2)) (byteAt s (p + 3)) k)

theorem oneAt_eq (s : ByteArray) (p : Nat) : oneAt s p =
    if 1 ≤ s.size - p ∧ fitAt s p 1 = true then (numAt s p 1, 1)
    else if 2 ≤ s.size - p ∧ fitAt s p 2 = true then (numAt s p 2, 2)
    else if 3 ≤ s.size - p ∧ fitAt s p 3 = true then (numAt s p 3, 3)
    else if 4 ≤ s.size - p ∧ fitAt s p 4 = true then (numAt s p 4, 4)
    else (65533, 0) := rfl

theorem oneAt_miss (s : ByteArray) (p : Nat) (h : ∀ j, 1 ≤ j → j ≤ 4 → p + j ≤ s.size → fitAt s p j = false) : oneAt s p = (65533, 0) := by
  rw [oneAt_eq, if_neg (fun g => by have := h 1 (by omega) (by omega) (by omega); rw [this] at g; exact absurd g.2 (by decide)), if_neg (fun g => by have := h 2 (by omega) (by omega) (by omega); rw [this] at g; exact absurd g.2 (by decide)), if_neg (fun g => by have := h 3 (by omega) (by omega) (by omega); rw [this] at g; exact absurd g.2 (by decide)), if_neg (fun g => by have := h 4 (by omega) (by omega) (by omega); rw [this] at g; exact absurd g.2 (by decide))]

theorem oneAt_hit (s : ByteArray) (p k : Nat) (hk : k = 1 ∨ k = 2 ∨ k = 3 ∨ k = 4) (hp : p + k ≤ s.size) (h : ∀ j, 1 ≤ j → j < k → fitAt s p j = false) (hf : fitAt s p k = true) : oneAt s p = (numAt s p k, (k : Int)) := by
  have no : ∀ j, 1 ≤ j → j < k → ¬ (j ≤ s.size - p ∧ fitAt s p j = true) := fun j h1 h2 g => by have := h j h1 h2; rw [this] at g; exact absurd g.2 (by decide)
  rw [oneAt_eq]
  rcases hk with rfl | rfl | rfl | rfl
  · rw [if_pos ⟨by omega, hf⟩]; rfl
  · rw [if_neg (no 1 (by omega) (by omega)), if_pos ⟨by omega, hf⟩]; rfl
  · rw [if_neg (no 1 (by omega) (by omega)), if_neg (no 2 (by omega) (by omega)), if_pos ⟨by omega, hf⟩]; rfl
  · rw [if_neg (no 1 (by omega) (by omega)), if_neg (no 2 (by omega) (by omega)), if_neg (no 3 (by omega) (by omega)), if_pos ⟨by omega, hf⟩]; rfl

def OneRel (s : ByteArray) (p : Nat) (w : World) (v : Value) (wr : World) : Prop :=
  ∃ k : Nat, 1 ≤ k ∧ k ≤ 5 ∧ v = .int .i64 k ∧ Below w.heap.size w wr ∧ (∀ j, 1 ≤ j → j < k → fitAt s p j = false) ∧ p + k ≤ s.size + 1

def OnePost (s : ByteArray) (p : Nat) (w : World) (e : Ending) (w' : World) : Prop := e = .returned (.tuple #[.int .i32 (oneAt s p).1, .int .i64 (oneAt s p).2]) ∧ Below w.heap.size w w'

theorem one_more {s : ByteArray} {p k : Nat} (h : ∀ j, 1 ≤ j → j < k → fitAt s p j = false) (hf : fitAt s p k = false) : ∀ j, 1 ≤ j → j < k + 1 → fitAt s p j = false := by
  intro j h1 h2
  by_cases e : j = k
  · rw [e]; exact hf
  · exact h j h1 (by omega)

theorem numAt_range (s : ByteArray) (p k : Nat) : 0 ≤ numAt s p k ∧ numAt s p k ≤ 2097151 := by
  unfold numAt numK
  have h0 := byteAt_lt s p
  split
  · omega
  split
  · omega
  split
  · omega
  · omega

set_option maxRecDepth 100000 in
set_option maxHeartbeats 4000000 in
theorem ref_one (s : ByteArray) (p : Nat) (w : World) (hs : s.size ≤ 1000000000) (hps : p < s.size) :
    Calls Try.prog 27 #[.string s, .int .i64 p] w (OnePost s p w) := by
  go_enter Try.func27, Try.ntmps27
  go_wp2
  go_loopw [6] (fun v wr => OneRel s p w v wr) (fun v _ => 5 - (intOf v).toNat)
  case atStart => exact ⟨1, by omega, by omega, rfl, Below.refl _ _, fun j h1 h2 => by omega, by omega⟩
  case round =>
    obtain ⟨k, hk1, hk5, rfl, hb, hj, hpk⟩ := hrel
    have HJ := Lib.hid hj
    clear hj
    by_cases hlt : k ≤ 4 ∧ p + k ≤ s.size
    · obtain ⟨hk4, hpk2⟩ := hlt
      rcases (show k = 1 ∨ k = 2 ∨ k = 3 ∨ k = 4 from by omega) with rfl | rfl | rfl | rfl
      all_goals clear hk1 hk5 hk4
      · -- k = 1
        have hp4 : p + 1 ≤ s.size := by omega
        have hx0 := run_index_at (P := Try.prog) 9 s (p : Int) (p + 0) Try.underlying9 (by omega) (by omega)
        have hsl := run_slice_at (P := Try.prog) 9 s (p : Int) ((p : Int) + 1) p (p + 1) Try.underlying9 (by omega) (by omega) (by omega) (by omega)
        have hq := encS_extract s p 1 (numAt s p 1) (by omega) hp4 (by have := numAt_range s p 1; omega) (by have := numAt_range s p 1; omega)
        have hfit : fitAt s p 1 = (((encS (numAt s p 1)).toList == (s.extract p (p + 1)).toList) && (decide (numAt s p 1 ≤ 1114111) && (decide (numAt s p 1 < 55296) || decide (57343 < numAt s p 1)))) := by rw [hq]; rfl
        have hnum : numAt s p 1 = (byteAt s p : Int) := rfl
        have hn4 := numAt_range s p 1
        have ho := oneAt_hit s p 1 (by omega) hp4 HJ.out
        have c0 : 0 ≤ (byteAt s (p + 0) : Int) ∧ (byteAt s (p + 0) : Int) < 256 := by have := byteAt_lt s (p + 0); omega
        simp only [Nat.add_zero] at *
        generalize (byteAt s p : Int) = b0 at *
        have c0a := c0.1
        have c0b := c0.2
        rw [hnum] at hfit hq hn4 ho
        generalize s.extract p (p + 1) = T at *
        have HFIT := Lib.hid hfit
        have HO := Lib.hid ho
        clear hfit ho hnum hq c0
        by_cases q1 : ((encS (b0)).toList == T.toList) = true
        · by_cases q2 : b0 ≤ 1114111
          · by_cases q3 : b0 < 55296
            · have hf : fitAt s p 1 = true := by rw [HFIT.out, q1, decide_eq_true q2, decide_eq_true q3]; rfl
              have HF := Lib.hid hf
              clear hf
              go_wp2
              refine wp_loop_rounds 1 ?_
              iterate 1 (rw [rounds_succ]; go_wp2_with (go_at_call 18; refine (ref_encode_ok _ _ (by omega) (by omega)).mono ?_; rintro e w1 ⟨rfl, hb1⟩))
              go_ret2
              exact ⟨by rw [HO.out HF.out]; rfl, hb.trans (hb1.mono hb.size)⟩
            · exfalso; omega
          · exfalso; omega
        · have q1' : ((encS (b0)).toList == T.toList) = false := by simpa using q1
          have hf : fitAt s p 1 = false := by rw [HFIT.out, q1']; simp
          have HF := Lib.hid hf
          clear hf q1
          go_wp2
          refine wp_loop_rounds 1 ?_
          iterate 1 (rw [rounds_succ]; go_wp2_with (go_at_call 18; refine (ref_encode_ok _ _ (by omega) (by omega)).mono ?_; rintro e w1 ⟨rfl, hb1⟩))
          go_roundw
          case rel => exact ⟨1 + 1, by omega, by omega, by go_num, hb.trans (hb1.mono hb.size), one_more HJ.out HF.out, by omega⟩
          case measure => simp only [intOf]; omega
      · -- k = 2
        have hp4 : p + 2 ≤ s.size := by omega
        have hx0 := run_index_at (P := Try.prog) 9 s (p : Int) (p + 0) Try.underlying9 (by omega) (by omega)
        have hx1 := run_index_at (P := Try.prog) 9 s ((p : Int) + 1) (p + 1) Try.underlying9 (by omega) (by omega)
        have hsl := run_slice_at (P := Try.prog) 9 s (p : Int) ((p : Int) + 2) p (p + 2) Try.underlying9 (by omega) (by omega) (by omega) (by omega)
        have hq := encS_extract s p 2 (numAt s p 2) (by omega) hp4 (by have := numAt_range s p 2; omega) (by have := numAt_range s p 2; omega)
        have hfit : fitAt s p 2 = (((encS (numAt s p 2)).toList == (s.extract p (p + 2)).toList) && (decide (numAt s p 2 ≤ 1114111) && (decide (numAt s p 2 < 55296) || decide (57343 < numAt s p 2)))) := by rw [hq]; rfl
        have hnum : numAt s p 2 = 64 * ((byteAt s p : Int) % 32) + (byteAt s (p + 1) : Int) % 64 := rfl
        have hn4 := numAt_range s p 2
        have ho := oneAt_hit s p 2 (by omega) hp4 HJ.out
        have c0 : 0 ≤ (byteAt s (p + 0) : Int) ∧ (byteAt s (p + 0) : Int) < 256 := by have := byteAt_lt s (p + 0); omega
        have c1 : 0 ≤ (byteAt s (p + 1) : Int) ∧ (byteAt s (p + 1) : Int) < 256 := by have := byteAt_lt s (p + 1); omega
        simp only [Nat.add_zero] at *
        generalize (byteAt s (p + 1) : Int) = b1 at *
        generalize (byteAt s p : Int) = b0 at *
        have c0a := c0.1
        have c0b := c0.2
        have c1a := c1.1
        have c1b := c1.2
        rw [hnum] at hfit hq hn4 ho
        generalize s.extract p (p + 2) = T at *
        have HFIT := Lib.hid hfit
        have HO := Lib.hid ho
        clear hfit ho hnum hq c0 c1
        by_cases q1 : ((encS (64 * (b0 % 32) + b1 % 64)).toList == T.toList) = true
        · by_cases q2 : 64 * (b0 % 32) + b1 % 64 ≤ 1114111
          · by_cases q3 : 64 * (b0 % 32) + b1 % 64 < 55296
            · have hf : fitAt s p 2 = true := by rw [HFIT.out, q1, decide_eq_true q2, decide_eq_true q3]; rfl
              have HF := Lib.hid hf
              clear hf
              go_wp2
              refine wp_loop_rounds 2 ?_
              iterate 2 (rw [rounds_succ]; go_wp2_with (go_at_call 18; refine (ref_encode_ok _ _ (by omega) (by omega)).mono ?_; rintro e w1 ⟨rfl, hb1⟩))
              go_ret2
              exact ⟨by rw [HO.out HF.out]; rfl, hb.trans (hb1.mono hb.size)⟩
            · exfalso; omega
          · exfalso; omega
        · have q1' : ((encS (64 * (b0 % 32) + b1 % 64)).toList == T.toList) = false := by simpa using q1
          have hf : fitAt s p 2 = false := by rw [HFIT.out, q1']; simp
          have HF := Lib.hid hf
          clear hf q1
          go_wp2
          refine wp_loop_rounds 2 ?_
          iterate 2 (rw [rounds_succ]; go_wp2_with (go_at_call 18; refine (ref_encode_ok _ _ (by omega) (by omega)).mono ?_; rintro e w1 ⟨rfl, hb1⟩))
          go_roundw
          case rel => exact ⟨2 + 1, by omega, by omega, by go_num, hb.trans (hb1.mono hb.size), one_more HJ.out HF.out, by omega⟩
          case measure => simp only [intOf]; omega
      · -- k = 3
        have hp4 : p + 3 ≤ s.size := by omega
        have hx0 := run_index_at (P := Try.prog) 9 s (p : Int) (p + 0) Try.underlying9 (by omega) (by omega)
        have hx1 := run_index_at (P := Try.prog) 9 s ((p : Int) + 1) (p + 1) Try.underlying9 (by omega) (by omega)
        have hx2 := run_index_at (P := Try.prog) 9 s ((p : Int) + 2) (p + 2) Try.underlying9 (by omega) (by omega)
        have hsl := run_slice_at (P := Try.prog) 9 s (p : Int) ((p : Int) + 3) p (p + 3) Try.underlying9 (by omega) (by omega) (by omega) (by omega)
        have hq := encS_extract s p 3 (numAt s p 3) (by omega) hp4 (by have := numAt_range s p 3; omega) (by have := numAt_range s p 3; omega)
        have hfit : fitAt s p 3 = (((encS (numAt s p 3)).toList == (s.extract p (p + 3)).toList) && (decide (numAt s p 3 ≤ 1114111) && (decide (numAt s p 3 < 55296) || decide (57343 < numAt s p 3)))) := by rw [hq]; rfl
        have hnum : numAt s p 3 = 64 * (64 * ((byteAt s p : Int) % 16) + (byteAt s (p + 1) : Int) % 64) + (byteAt s (p + 2) : Int) % 64 := rfl
        have hn4 := numAt_range s p 3
        have ho := oneAt_hit s p 3 (by omega) hp4 HJ.out
        have c0 : 0 ≤ (byteAt s (p + 0) : Int) ∧ (byteAt s (p + 0) : Int) < 256 := by have := byteAt_lt s (p + 0); omega
        have c1 : 0 ≤ (byteAt s (p + 1) : Int) ∧ (byteAt s (p + 1) : Int) < 256 := by have := byteAt_lt s (p + 1); omega
        have c2 : 0 ≤ (byteAt s (p + 2) : Int) ∧ (byteAt s (p + 2) : Int) < 256 := by have := byteAt_lt s (p + 2); omega
        simp only [Nat.add_zero] at *
        generalize (byteAt s (p + 2) : Int) = b2 at *
        generalize (byteAt s (p + 1) : Int) = b1 at *
        generalize (byteAt s p : Int) = b0 at *
        have c0a := c0.1
        have c0b := c0.2
        have c1a := c1.1
        have c1b := c1.2
        have c2a := c2.1
        have c2b := c2.2
        rw [hnum] at hfit hq hn4 ho
        generalize s.extract p (p + 3) = T at *
        have HFIT := Lib.hid hfit
        have HO := Lib.hid ho
        clear hfit ho hnum hq c0 c1 c2
        by_cases q1 : ((encS (64 * (64 * (b0 % 16) + b1 % 64) + b2 % 64)).toList == T.toList) = true
        · by_cases q2 : 64 * (64 * (b0 % 16) + b1 % 64) + b2 % 64 ≤ 1114111
          · by_cases q3 : 64 * (64 * (b0 % 16) + b1 % 64) + b2 % 64 < 55296
            · have hf : fitAt s p 3 = true := by rw [HFIT.out, q1, decide_eq_true q2, decide_eq_true q3]; rfl
              have HF := Lib.hid hf
              clear hf
              go_wp2
              refine wp_loop_rounds 3 ?_
              iterate 3 (rw [rounds_succ]; go_wp2_with (go_at_call 18; refine (ref_encode_ok _ _ (by omega) (by omega)).mono ?_; rintro e w1 ⟨rfl, hb1⟩))
              go_ret2
              exact ⟨by rw [HO.out HF.out]; rfl, hb.trans (hb1.mono hb.size)⟩
            · by_cases q4 : 57343 < 64 * (64 * (b0 % 16) + b1 % 64) + b2 % 64
              · have hf : fitAt s p 3 = true := by rw [HFIT.out, q1, decide_eq_true q2, decide_eq_true q4, Bool.or_true]; rfl
                have HF := Lib.hid hf
                clear hf
                go_wp2
                refine wp_loop_rounds 3 ?_
                iterate 3 (rw [rounds_succ]; go_wp2_with (go_at_call 18; refine (ref_encode_ok _ _ (by omega) (by omega)).mono ?_; rintro e w1 ⟨rfl, hb1⟩))
                go_ret2
                exact ⟨by rw [HO.out HF.out]; rfl, hb.trans (hb1.mono hb.size)⟩
              · have hf : fitAt s p 3 = false := by rw [HFIT.out, decide_eq_false q3, decide_eq_false q4]; simp
                have HF := Lib.hid hf
                clear hf
                go_wp2
                refine wp_loop_rounds 3 ?_
                iterate 3 (rw [rounds_succ]; go_wp2_with (go_at_call 18; refine (ref_encode_ok _ _ (by omega) (by omega)).mono ?_; rintro e w1 ⟨rfl, hb1⟩))
                go_roundw
                case rel => exact ⟨3 + 1, by omega, by omega, by go_num, hb.trans (hb1.mono hb.size), one_more HJ.out HF.out, by omega⟩
                case measure => simp only [intOf]; omega
          · exfalso; omega
        · have q1' : ((encS (64 * (64 * (b0 % 16) + b1 % 64) + b2 % 64)).toList == T.toList) = false := by simpa using q1
          have hf : fitAt s p 3 = false := by rw [HFIT.out, q1']; simp
          have HF := Lib.hid hf
          clear hf q1
          go_wp2
          refine wp_loop_rounds 3 ?_
          iterate 3 (rw [rounds_succ]; go_wp2_with (go_at_call 18; refine (ref_encode_ok _ _ (by omega) (by omega)).mono ?_; rintro e w1 ⟨rfl, hb1⟩))
          go_roundw
          case rel => exact ⟨3 + 1, by omega, by omega, by go_num, hb.trans (hb1.mono hb.size), one_more HJ.out HF.out, by omega⟩
          case measure => simp only [intOf]; omega
      · -- k = 4
        have hp4 : p + 4 ≤ s.size := by omega
        have hx0 := run_index_at (P := Try.prog) 9 s (p : Int) (p + 0) Try.underlying9 (by omega) (by omega)
        have hx1 := run_index_at (P := Try.prog) 9 s ((p : Int) + 1) (p + 1) Try.underlying9 (by omega) (by omega)
        have hx2 := run_index_at (P := Try.prog) 9 s ((p : Int) + 2) (p + 2) Try.underlying9 (by omega) (by omega)
        have hx3 := run_index_at (P := Try.prog) 9 s ((p : Int) + 3) (p + 3) Try.underlying9 (by omega) (by omega)
        have hsl := run_slice_at (P := Try.prog) 9 s (p : Int) ((p : Int) + 4) p (p + 4) Try.underlying9 (by omega) (by omega) (by omega) (by omega)
        have hq := encS_extract s p 4 (numAt s p 4) (by omega) hp4 (by have := numAt_range s p 4; omega) (by have := numAt_range s p 4; omega)
        have hfit : fitAt s p 4 = (((encS (numAt s p 4)).toList == (s.extract p (p + 4)).toList) && (decide (numAt s p 4 ≤ 1114111) && (decide (numAt s p 4 < 55296) || decide (57343 < numAt s p 4)))) := by rw [hq]; rfl
        have hnum : numAt s p 4 = 64 * (64 * (64 * ((byteAt s p : Int) % 8) + (byteAt s (p + 1) : Int) % 64) + (byteAt s (p + 2) : Int) % 64) + (byteAt s (p + 3) : Int) % 64 := rfl
        have hn4 := numAt_range s p 4
        have ho := oneAt_hit s p 4 (by omega) hp4 HJ.out
        have c0 : 0 ≤ (byteAt s (p + 0) : Int) ∧ (byteAt s (p + 0) : Int) < 256 := by have := byteAt_lt s (p + 0); omega
        have c1 : 0 ≤ (byteAt s (p + 1) : Int) ∧ (byteAt s (p + 1) : Int) < 256 := by have := byteAt_lt s (p + 1); omega
        have c2 : 0 ≤ (byteAt s (p + 2) : Int) ∧ (byteAt s (p + 2) : Int) < 256 := by have := byteAt_lt s (p + 2); omega
        have c3 : 0 ≤ (byteAt s (p + 3) : Int) ∧ (byteAt s (p + 3) : Int) < 256 := by have := byteAt_lt s (p + 3); omega
        simp only [Nat.add_zero] at *
        generalize (byteAt s (p + 3) : Int) = b3 at *
        generalize (byteAt s (p + 2) : Int) = b2 at *
        generalize (byteAt s (p + 1) : Int) = b1 at *
        generalize (byteAt s p : Int) = b0 at *
        have c0a := c0.1
        have c0b := c0.2
        have c1a := c1.1
        have c1b := c1.2
        have c2a := c2.1
        have c2b := c2.2
        have c3a := c3.1
        have c3b := c3.2
        rw [hnum] at hfit hq hn4 ho
        generalize s.extract p (p + 4) = T at *
        have HFIT := Lib.hid hfit
        have HO := Lib.hid ho
        clear hfit ho hnum hq c0 c1 c2 c3
        by_cases q1 : ((encS (64 * (64 * (64 * (b0 % 8) + b1 % 64) + b2 % 64) + b3 % 64)).toList == T.toList) = true
        · by_cases q2 : 64 * (64 * (64 * (b0 % 8) + b1 % 64) + b2 % 64) + b3 % 64 ≤ 1114111
          · by_cases q3 : 64 * (64 * (64 * (b0 % 8) + b1 % 64) + b2 % 64) + b3 % 64 < 55296
            · have hf : fitAt s p 4 = true := by rw [HFIT.out, q1, decide_eq_true q2, decide_eq_true q3]; rfl
              have HF := Lib.hid hf
              clear hf
              go_wp2
              refine wp_loop_rounds 4 ?_
              iterate 4 (rw [rounds_succ]; go_wp2_with (go_at_call 18; refine (ref_encode_ok _ _ (by omega) (by omega)).mono ?_; rintro e w1 ⟨rfl, hb1⟩))
              go_ret2
              exact ⟨by rw [HO.out HF.out]; rfl, hb.trans (hb1.mono hb.size)⟩
            · by_cases q4 : 57343 < 64 * (64 * (64 * (b0 % 8) + b1 % 64) + b2 % 64) + b3 % 64
              · have hf : fitAt s p 4 = true := by rw [HFIT.out, q1, decide_eq_true q2, decide_eq_true q4, Bool.or_true]; rfl
                have HF := Lib.hid hf
                clear hf
                go_wp2
                refine wp_loop_rounds 4 ?_
                iterate 4 (rw [rounds_succ]; go_wp2_with (go_at_call 18; refine (ref_encode_ok _ _ (by omega) (by omega)).mono ?_; rintro e w1 ⟨rfl, hb1⟩))
                go_ret2
                exact ⟨by rw [HO.out HF.out]; rfl, hb.trans (hb1.mono hb.size)⟩
              · have hf : fitAt s p 4 = false := by rw [HFIT.out, decide_eq_false q3, decide_eq_false q4]; simp
                have HF := Lib.hid hf
                clear hf
                go_wp2
                refine wp_loop_rounds 4 ?_
                iterate 4 (rw [rounds_succ]; go_wp2_with (go_at_call 18; refine (ref_encode_ok _ _ (by omega) (by omega)).mono ?_; rintro e w1 ⟨rfl, hb1⟩))
                go_roundw
                case rel => exact ⟨4 + 1, by omega, by omega, by go_num, hb.trans (hb1.mono hb.size), one_more HJ.out HF.out, by omega⟩
                case measure => simp only [intOf]; omega
          · have hf : fitAt s p 4 = false := by rw [HFIT.out, decide_eq_false q2]; simp
            have HF := Lib.hid hf
            clear hf
            go_wp2
            refine wp_loop_rounds 4 ?_
            iterate 4 (rw [rounds_succ]; go_wp2_with (go_at_call 18; refine (ref_encode_ok _ _ (by omega) (by omega)).mono ?_; rintro e w1 ⟨rfl, hb1⟩))
            go_roundw
            case rel => exact ⟨4 + 1, by omega, by omega, by go_num, hb.trans (hb1.mono hb.size), one_more HJ.out HF.out, by omega⟩
            case measure => simp only [intOf]; omega
        · have q1' : ((encS (64 * (64 * (64 * (b0 % 8) + b1 % 64) + b2 % 64) + b3 % 64)).toList == T.toList) = false := by simpa using q1
          have hf : fitAt s p 4 = false := by rw [HFIT.out, q1']; simp
          have HF := Lib.hid hf
          clear hf q1
          go_wp2
          refine wp_loop_rounds 4 ?_
          iterate 4 (rw [rounds_succ]; go_wp2_with (go_at_call 18; refine (ref_encode_ok _ _ (by omega) (by omega)).mono ?_; rintro e w1 ⟨rfl, hb1⟩))
          go_roundw
          case rel => exact ⟨4 + 1, by omega, by omega, by go_num, hb.trans (hb1.mono hb.size), one_more HJ.out HF.out, by omega⟩
          case measure => simp only [intOf]; omega
    · have hm : oneAt s p = (65533, 0) := oneAt_miss s p (fun j h1 h2 h3 => HJ.out j h1 (by omega))
      have HM := Lib.hid hm
      clear hm
      by_cases hk4 : k ≤ 4
      · have hnot : ¬ ((p : Int) + k ≤ s.size) := by omega
        go_wp2
        go_ret2
        exact ⟨by rw [HM.out]; rfl, hb⟩
      · go_wp2
        go_ret2
        exact ⟨by rw [HM.out]; rfl, hb⟩

end Go.Proofs.Ytfciilkngmdlbaa
