/-
  Text, of both.
-/
import Derived.Test.YtboclbmankbngaaDoorIntsF
import Derived.Deep.LoopGhost
import Derived.Lib.ItoaLen
namespace Go.Proofs.YtboclbmankbngaaDoor
open Go.RowKit

def textOf (n : Int) : ByteArray := ⟨(Lib.itoa n).toArray⟩
def TextSays (n : Int) (w : World) (e : Ending) (w' : World) : Prop := e = .returned (.string (textOf n)) ∧ Below w.heap.size w w'

theorem text_any (n : Int) (w : World) (hn : In64 n) (hv : Vars w) : Calls Tryd.prog 11 #[.int .i64 n] w (TextSays n w) := by
  have c := Tryd.strconv_FormatInt_10 n hn.1 hn.2 w hv.tab
  clear hn hv
  go_enter Tryd.func11, Tryd.ntmps11
  go_wp2_with fail
  refine c.mono ?_
  rintro e w1 ⟨rfl, k, os, rfl⟩
  go_wp2
  go_ret
  exact ⟨rfl, Lib.below_grow _ _ (Nat.le_refl _) _ _⟩

/-! ### The reference's loop -/
def tenDigits : ByteArray := ⟨#[48, 49, 50, 51, 52, 53, 54, 55, 56, 57]⟩
def oneDigit (d : Nat) : ByteArray := ⟨#[UInt8.ofNat (48 + d)]⟩
theorem digit_cut : ∀ d < 10, tenDigits.extract d (d + 1) = oneDigit d := by decide +kernel
theorem oneDigit_list (d : Nat) : (oneDigit d).data.toList = [UInt8.ofNat (48 + d)] := rfl

/-- The digits of u behind which t stands are those of n. -/
def Digits (u : Nat) (t : ByteArray) (n : Nat) : Prop := Lib.decDigits u ++ t.data.toList = Lib.decDigits n
theorem cat_list (a b : ByteArray) : (a ++ b).data.toList = a.data.toList ++ b.data.toList := by simp
theorem digits_more {u n : Nat} {t : ByteArray} (h : Digits u t n) (hu : 10 ≤ u) : Digits (u / 10) (oneDigit (u % 10) ++ t) n := by
  unfold Digits at *
  rw [← h, cat_list, oneDigit_list]
  conv => rhs; rw [Lib.decDigits]
  rw [dif_neg (by omega), List.append_assoc]
theorem digits_done {u n : Nat} {t : ByteArray} (h : Digits u t n) (hu : u < 10) : (oneDigit (u % 10) ++ t).data.toList = Lib.decDigits n := by
  unfold Digits at *
  rw [← h, cat_list, oneDigit_list, Lib.decDigits_one hu, Nat.mod_eq_of_lt hu]
theorem digits_size {u n : Nat} {t : ByteArray} (h : Digits u t n) (hn : n ≤ 9223372036854775808) : t.size ≤ 20 := by
  unfold Digits at h
  have h1 := congrArg List.length h
  rw [List.length_append, Lib.decDigits_length n] at h1
  have h2 := Lib.nDigits_le20 n (by omega)
  have : t.data.toList.length = t.size := rfl
  omega
theorem text_plain {n : Int} {t : ByteArray} (h : t.data.toList = Lib.decDigits n.natAbs) (hn : 0 ≤ n) : t = textOf n := by
  obtain ⟨⟨l⟩⟩ := t
  unfold textOf
  rw [Lib.itoa, if_neg (by omega), show n.toNat = n.natAbs from by omega, ← h]
theorem text_minus {n : Int} {t : ByteArray} (h : t.data.toList = Lib.decDigits n.natAbs) (hn : n < 0) : (⟨#[45]⟩ : ByteArray) ++ t = textOf n := by
  apply ByteArray.ext
  apply Array.ext'
  rw [cat_list, h]
  unfold textOf
  rw [Lib.itoa, if_pos hn]
  rfl

set_option maxHeartbeats 1000000 in
theorem ref_text (n : Int) (w : World) (hn : In64 n) : Calls Tryd.prog 18 #[.int .i64 n] w fun e w' => e = .returned (.string (textOf n)) ∧ w = w' := by
  obtain ⟨hn1, hn2⟩ := hn
  go_enter Tryd.func18, Tryd.ntmps18
  go_wp2
  go_loopg [3, 4] n.natAbs (fun r v m wr => ∃ (t : ByteArray) (x : Int), r = x.natAbs ∧ v = .string t ∧ m = .int .i64 x ∧ Digits x.natAbs t n.natAbs ∧ -9223372036854775808 ≤ x ∧ x ≤ 9223372036854775807 ∧ wr = w)
  case atStart => exact ⟨⟨#[]⟩, n, rfl, rfl, rfl, by unfold Digits; exact List.append_nil _, hn1, hn2, rfl⟩
  case round =>
    obtain ⟨t, x, rfl, rfl, rfl, hd, hx1, hx2, rfl⟩ := hrel
    have htz := digits_size hd (by omega)
    obtain ⟨d, hde⟩ : ∃ d, d = x.natAbs % 10 := ⟨_, rfl⟩
    obtain ⟨q, hqe⟩ : ∃ q, q = x.natAbs / 10 := ⟨_, rfl⟩
    have hd9 : d ≤ 9 := by omega
    have hcuts := fun (y : Int) (hy : y = d) => run_slice_at (P := Tryd.prog) 9 tenDigits y (y + 1) d (d + 1) Tryd.underlying9 (by omega) (by show d + 1 ≤ 10; omega) hy (by omega)
    rw [digit_cut d (by omega)] at hcuts
    unfold tenDigits at hcuts
    have hone : (oneDigit d).size = 1 := rfl
    have hcat := fun w => run_string_add_sum (P := Tryd.prog) (w := w) (oneDigit d) t (by omega)
    have hmore : 10 ≤ x.natAbs → Digits q (oneDigit d ++ t) n.natAbs := fun h => by rw [hde, hqe]; exact digits_more hd h
    have hdone : x.natAbs < 10 → (oneDigit d ++ t).data.toList = Lib.decDigits n.natAbs := fun h => by rw [hde]; exact digits_done hd h
    have hsz : (oneDigit d ++ t).size ≤ 21 := by rw [ByteArray.size_append]; omega
    generalize oneDigit d ++ t = t2 at *
    generalize oneDigit d = od at *
    clear hone htz
    by_cases hx0 : 0 ≤ x
    · have hr : x % 10 = (d : Int) := by omega
      have hq : x / 10 = (q : Int) := by omega
      have hcut := hcuts d rfl
      clear hcuts
      by_cases h10 : 10 ≤ x.natAbs
      · have HD := Lib.hid (hmore (by omega))
        have hqz : ((q : Int) == 0) = false := by rw [beq_eq_false_iff_ne]; omega
        have hql : q < x.natAbs := by omega
        clear hde hqe hmore hdone hsz hd
        go_wp2
        go_roundg q
        case measure => exact hql
        case rel => exact ⟨_, (q : Int), by omega, rfl, by first | rfl | rw [hq], by rw [show ((q : Int)).natAbs = q from by omega]; exact HD.out, by omega, by omega, rfl⟩
      · have HD := Lib.hid (hdone (by omega))
        have hq0 : q = 0 := by omega
        have hqz : ((q : Int) == 0) = true := by rw [beq_iff_eq]; omega
        clear hde hqe hmore hdone h10 hd
        by_cases hneg : n < 0
        · have htz := run_string_add_sum (P := Tryd.prog) (w := wr) ⟨#[45]⟩ t2 (by have : (⟨#[45]⟩ : ByteArray).size = 1 := rfl; omega)
          clear hsz
          go_wp2
          go_ret
          exact ⟨by rw [← text_minus HD.out hneg]; rfl, rfl⟩
        · clear hsz
          go_wp2
          go_ret
          exact ⟨by rw [← text_plain HD.out (by omega)]; rfl, rfl⟩
    · have e1 : x.tmod 10 = -((-x) % 10) := by rw [← Int.tmod_eq_emod_of_nonneg (show 0 ≤ -x by omega), Int.neg_tmod]; omega
      have e2 : x.tdiv 10 = -((-x) / 10) := by rw [← Int.tdiv_eq_ediv_of_nonneg (show 0 ≤ -x by omega), Int.neg_tdiv]; omega
      have hr : x.tmod 10 = -(d : Int) := by rw [e1]; omega
      have hq : x.tdiv 10 = -(q : Int) := by rw [e2]; omega
      clear e1 e2
      by_cases hd0 : d = 0
      · have hcut := hcuts (-(d : Int)) (by omega)
        have hd00 : d ≤ 0 := by omega
        clear hcuts hd0 hde
        by_cases h10 : 10 ≤ x.natAbs
        · have HD := Lib.hid (hmore (by omega))
          have hqz : ((-(q : Int)) == 0) = false := by rw [beq_eq_false_iff_ne]; omega
          have hql : q < x.natAbs := by omega
          clear hqe hmore hdone hsz hd
          go_wp2
          go_roundg q
          case measure => exact hql
          case rel => exact ⟨_, (-(q : Int)), by omega, rfl, by first | rfl | rw [hq], by rw [show ((-(q : Int))).natAbs = q from by omega]; exact HD.out, by omega, by omega, rfl⟩
        · have HD := Lib.hid (hdone (by omega))
          have hq0 : q = 0 := by omega
          have hqz : ((-(q : Int)) == 0) = true := by rw [beq_iff_eq]; omega
          clear hqe hmore hdone h10 hd
          by_cases hneg : n < 0
          · have htz := run_string_add_sum (P := Tryd.prog) (w := wr) ⟨#[45]⟩ t2 (by have : (⟨#[45]⟩ : ByteArray).size = 1 := rfl; omega)
            clear hsz
            go_wp2
            go_ret
            exact ⟨by rw [← text_minus HD.out hneg]; rfl, rfl⟩
          · clear hsz
            go_wp2
            go_ret
            exact ⟨by rw [← text_plain HD.out (by omega)]; rfl, rfl⟩
      · have hcut := hcuts d rfl
        clear hcuts
        by_cases h10 : 10 ≤ x.natAbs
        · have HD := Lib.hid (hmore (by omega))
          have hqz : ((-(q : Int)) == 0) = false := by rw [beq_eq_false_iff_ne]; omega
          have hql : q < x.natAbs := by omega
          clear hde hqe hmore hdone hsz hd
          go_wp2
          go_roundg q
          case measure => exact hql
          case rel => exact ⟨_, (-(q : Int)), by omega, rfl, by first | rfl | rw [hq], by rw [show ((-(q : Int))).natAbs = q from by omega]; exact HD.out, by omega, by omega, rfl⟩
        · have HD := Lib.hid (hdone (by omega))
          have hq0 : q = 0 := by omega
          have hqz : ((-(q : Int)) == 0) = true := by rw [beq_iff_eq]; omega
          clear hde hqe hmore hdone h10 hd
          by_cases hneg : n < 0
          · have htz := run_string_add_sum (P := Tryd.prog) (w := wr) ⟨#[45]⟩ t2 (by have : (⟨#[45]⟩ : ByteArray).size = 1 := rfl; omega)
            clear hsz
            go_wp2
            go_ret
            exact ⟨by rw [← text_minus HD.out hneg]; rfl, rfl⟩
          · clear hsz
            go_wp2
            go_ret
            exact ⟨by rw [← text_plain HD.out (by omega)]; rfl, rfl⟩

end Go.Proofs.YtboclbmankbngaaDoor
