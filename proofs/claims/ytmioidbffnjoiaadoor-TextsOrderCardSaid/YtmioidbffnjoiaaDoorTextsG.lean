/-
  twinstepref03: has, Quote, Long, by contracts.
-/
import Derived.Test.YtmioidbffnjoiaaDoorTextsB
import Derived.IntWalk
namespace Go.Proofs.YtmioidbffnjoiaaDoor
open Go.RowKit

/-! ### has -/
theorem occ_extract {s t : ByteArray} {k : Nat} (h : k + t.size ≤ s.size) : ((s.extract k (k + t.size)).toList == t.toList) = Lib.occAt s.data.toList t.data.toList k := by
  rw [Lib.occAt_iff_take _ _ _ h, Lib.extract_toList, ByteArray.toList_eq, show k + t.size - k = t.size from by omega]
  rfl
theorem occ_none {s t : ByteArray} {k : Nat} (hk : ∀ j, j < k → Lib.occAt s.data.toList t.data.toList j = false) (h : s.size < k + t.size) (hk1 : k ≤ s.size + 1) : Lib.contains s.data.toList t.data.toList = false := by
  have hl : s.data.toList.length = s.size := rfl
  have ht : t.data.toList.length = t.size := rfl
  have h0 : ∀ j, j ≤ s.data.toList.length → Lib.occAt s.data.toList t.data.toList j = false := by
    intro j hj
    by_cases hjk : j < k
    · exact hk j hjk
    · cases ho : Lib.occAt s.data.toList t.data.toList j with
      | false => rfl
      | true =>
        rcases Lib.occAt_room ho with h2 | h2
        · omega
        · rw [h2] at ht hk
          simp at ht
          have := hk 0 (by omega)
          simp [Lib.occAt] at this
  unfold Lib.contains
  rw [Lib.index_none h0]; rfl
theorem occ_some {s t : ByteArray} {k : Nat} (hk : ∀ j, j < k → Lib.occAt s.data.toList t.data.toList j = false) (h : k ≤ s.size) (ho : Lib.occAt s.data.toList t.data.toList k = true) : Lib.contains s.data.toList t.data.toList = true := by
  unfold Lib.contains
  rw [Lib.index_first (i := k) h ho hk]
  simp

set_option maxHeartbeats 1000000 in
theorem ref_has (s t : ByteArray) (w : World) (hs : s.size ≤ 1000000000) (ht : t.size ≤ 1000000000) :
    Calls Tryd.prog 27 #[.string s, .string t] w fun e w' => e = .returned (.bool (Lib.contains s.data.toList t.data.toList)) ∧ w = w' := by
  go_enter Tryd.func27, Tryd.ntmps27
  go_wp2
  go_loop [5] (fun i => ∃ k : Nat, k ≤ s.size + 1 ∧ i = .int .i64 k ∧ ∀ j, j < k → Lib.occAt s.data.toList t.data.toList j = false) (fun i => s.size + 1 - (intOf i).toNat)
  case atStart => exact ⟨0, by omega, rfl, fun j h => by omega⟩
  case round =>
    obtain ⟨k, hk, rfl, ha⟩ := hrel
    have HA := Lib.hid ha
    clear ha
    by_cases hlt : k + t.size ≤ s.size
    · have hlt' : (k : Int) + t.size ≤ s.size := by omega
      have hx := run_slice_at (P := Tryd.prog) 9 s (k : Int) ((k : Int) + t.size) k (k + t.size) Tryd.underlying9 (by omega) (by omega) rfl (by omega)
      have ho := occ_extract hlt
      generalize s.extract k (k + t.size) = m at *
      cases hoc : Lib.occAt s.data.toList t.data.toList k
      · rw [hoc] at ho
        have HM := Lib.hid (fun j (hj : j < k + 1) => show Lib.occAt s.data.toList t.data.toList j = false by
          by_cases e : j = k
          · rw [e]; exact hoc
          · exact HA.out j (by omega))
        clear hoc
        go_wp2
        go_round
        case rel => exact ⟨k + 1, by omega, by go_num, HM.out⟩
        case measure => simp only [intOf]; omega
      · rw [hoc] at ho
        have HC := Lib.hid (occ_some HA.out (by omega) hoc)
        clear hoc
        go_wp2
        go_ret
        exact ⟨ret_bool HC.out.symm, rfl⟩
    · have hlt' : (s.size : Int) < (k : Int) + t.size := by omega
      have HC := Lib.hid (occ_none HA.out (by omega) hk)
      go_wp2
      go_ret
      exact ⟨ret_bool HC.out.symm, rfl⟩

/-! ### Quote -/
def quoteT (l : List UInt8) : ByteArray := ⟨(34 :: (quotL l ++ [34])).toArray⟩
def tenDigits : ByteArray := ⟨#[48, 49, 50, 51, 52, 53, 54, 55, 56, 57]⟩
def oneDigit (d : Nat) : ByteArray := ⟨#[dg3 d]⟩
theorem digit_cut : ∀ d < 10, tenDigits.extract d (d + 1) = oneDigit d := by decide +kernel
theorem take_more {s : ByteArray} {k : Nat} (h : k < s.size) : ∃ c : UInt8, c.toNat = byteAt s k ∧ s.data.toList.take (k + 1) = s.data.toList.take k ++ [c] := by
  obtain ⟨⟨l⟩⟩ := s
  have hl : k < l.length := h
  refine ⟨l[k], ?_, List.take_succ_eq_append_getElem hl⟩
  unfold byteAt; rw [get!_mk l k hl]
theorem quot_more {s : ByteArray} {k : Nat} (h : k < s.size) : quotL (s.data.toList.take (k + 1)) = quotL (s.data.toList.take k) ++ quotB (byteAt s k) := by
  obtain ⟨c, e, ht⟩ := take_more h
  rw [ht, quotL_snoc, e]
theorem one_list {s : ByteArray} {k : Nat} (h : k < s.size) : (s.extract k (k + 1)).data.toList = [UInt8.ofNat (byteAt s k)] := by
  obtain ⟨c, e, hd⟩ := drop_at s k h
  rw [Lib.extract_data, hd, ← e, UInt8.ofNat_toNat, show k + 1 - k = 1 from by omega]; rfl

set_option maxHeartbeats 2000000 in
set_option maxRecDepth 100000 in
theorem ref_quote (s : ByteArray) (w : World) (hs : s.size ≤ 100000000) :
    Calls Tryd.prog 15 #[.string s] w fun e w' => e = .returned (.string (quoteT s.data.toList)) ∧ Below w.heap.size w w' := by
  go_enter Tryd.func15, Tryd.ntmps15
  go_wp2
  go_loopw [3, 4] (fun v i wr => ∃ (k : Nat) (T : ByteArray), k ≤ s.size ∧ i = .int .i64 k ∧ v = .string T ∧ T.size ≤ 4 * k + 1 ∧ T.data.toList = 34 :: quotL (s.data.toList.take k) ∧ Below w.heap.size w wr) (fun _ i _ => s.size - (intOf i).toNat)
  case atStart => exact ⟨0, ⟨#[34]⟩, by omega, rfl, rfl, by show 1 ≤ 1; omega, rfl, Below.refl _ _⟩
  case round =>
    obtain ⟨k, T, hk, rfl, rfl, hT, hl, hb⟩ := hrel
    have HL := Lib.hid hl
    have HB := Lib.hid hb
    clear hl hb
    by_cases hlt : k < s.size
    · have hlt' : (k : Int) < s.size := by omega
      have hx := run_index_at (P := Tryd.prog) 9 s (k : Int) k Tryd.underlying9 hlt rfl
      have hsl := run_slice_at (P := Tryd.prog) 9 s (k : Int) ((k : Int) + 1) k (k + 1) Tryd.underlying9 (by omega) (by omega) rfl (by omega)
      have hone := one_list hlt
      have hq := quot_more hlt
      have hbl := byteAt_lt s k
      have hos : (s.extract k (k + 1)).size = 1 := by rw [ByteArray.size_extract]; omega
      generalize byteAt s k = b at *
      generalize s.extract k (k + 1) = m at *
      have add : ∀ M : ByteArray, M.size ≤ 4 → M.data.toList = quotB b → (T ++ M).size ≤ 4 * (k + 1) + 1 ∧ (T ++ M).data.toList = 34 :: quotL (s.data.toList.take (k + 1)) := by
        intro M h1 h2
        refine ⟨by rw [ByteArray.size_append]; omega, ?_⟩
        rw [cat_list, HL.out, h2, hq]; rfl
      have hcat := fun (M : ByteArray) (h : M.size ≤ 4) w => run_string_add_sum (P := Tryd.prog) (w := w) T M (by omega)
      by_cases e10 : b = 10
      · have h1 := add ⟨#[92, 110]⟩ (by decide) (by rw [e10]; rfl)
        have h2 := hcat ⟨#[92, 110]⟩ (by decide)
        have t1 : ((b : Int) == 10) = true := by rw [e10]; rfl
        have H1 := Lib.hid h1
        clear h1 e10 add hcat hq hone hsl
        generalize T ++ ⟨#[92, 110]⟩ = T2 at *
        go_wp2
        go_roundw
        case rel => exact ⟨k + 1, T2, by omega, by go_num, rfl, H1.out.1, H1.out.2, HB.out⟩
        case measure => simp only [intOf]; omega
      · have t1 : ((b : Int) == 10) = false := by rw [beq_eq_false_iff_ne]; omega
        by_cases e34 : b = 34
        · have h1 := add ⟨#[92, 34]⟩ (by decide) (by rw [e34]; rfl)
          have h2 := hcat ⟨#[92, 34]⟩ (by decide)
          have t2 : ((b : Int) == 34) = true := by rw [e34]; rfl
          have H1 := Lib.hid h1
          clear h1 e34 e10 add hcat hq hone hsl
          generalize T ++ ⟨#[92, 34]⟩ = T2 at *
          go_wp2
          go_roundw
          case rel => exact ⟨k + 1, T2, by omega, by go_num, rfl, H1.out.1, H1.out.2, HB.out⟩
          case measure => simp only [intOf]; omega
        · have t2 : ((b : Int) == 34) = false := by rw [beq_eq_false_iff_ne]; omega
          by_cases e92 : b = 92
          · have h1 := add ⟨#[92, 92]⟩ (by decide) (by rw [e92]; rfl)
            have h2 := hcat ⟨#[92, 92]⟩ (by decide)
            have t3 : ((b : Int) == 92) = true := by rw [e92]; rfl
            have H1 := Lib.hid h1
            clear h1 e92 e34 e10 add hcat hq hone hsl
            generalize T ++ ⟨#[92, 92]⟩ = T2 at *
            go_wp2
            go_roundw
            case rel => exact ⟨k + 1, T2, by omega, by go_num, rfl, H1.out.1, H1.out.2, HB.out⟩
            case measure => simp only [intOf]; omega
          · have t3 : ((b : Int) == 92) = false := by rw [beq_eq_false_iff_ne]; omega
            by_cases hp : 32 ≤ b ∧ b ≤ 126
            · have h1 := add m (by omega) (by rw [hone]; unfold quotB; rw [if_neg e10, if_neg e34, if_neg e92, if_pos hp])
              have h2 := hcat m (by omega)
              have t4 : (32 : Int) ≤ b := by omega
              have t5 : (b : Int) ≤ 126 := by omega
              have H1 := Lib.hid h1
              clear h1 e92 e34 e10 add hcat hq hone hp hos
              generalize T ++ m = T2 at *
              go_wp2
              go_roundw
              case rel => exact ⟨k + 1, T2, by omega, by go_num, rfl, H1.out.1, H1.out.2, HB.out⟩
              case measure => simp only [intOf]; omega
            · obtain ⟨x, hx1⟩ : ∃ x, x = b / 100 := ⟨_, rfl⟩
              obtain ⟨y, hy1⟩ : ∃ y, y = b / 10 % 10 := ⟨_, rfl⟩
              obtain ⟨z, hz1⟩ : ∃ z, z = b % 10 := ⟨_, rfl⟩
              have hx9 : x < 10 := by omega
              have hy9 : y < 10 := by omega
              have hz9 : z < 10 := by omega
              have c1 := run_slice_at (P := Tryd.prog) 9 tenDigits (x : Int) ((x : Int) + 1) x (x + 1) Tryd.underlying9 (by omega) (by show x + 1 ≤ 10; omega) rfl (by omega)
              have c2 := run_slice_at (P := Tryd.prog) 9 tenDigits (y : Int) ((y : Int) + 1) y (y + 1) Tryd.underlying9 (by omega) (by show y + 1 ≤ 10; omega) rfl (by omega)
              have c3 := run_slice_at (P := Tryd.prog) 9 tenDigits (z : Int) ((z : Int) + 1) z (z + 1) Tryd.underlying9 (by omega) (by show z + 1 ≤ 10; omega) rfl (by omega)
              rw [digit_cut x hx9] at c1
              rw [digit_cut y hy9] at c2
              rw [digit_cut z hz9] at c3
              unfold tenDigits at c1 c2 c3
              have h92 : (⟨#[92]⟩ : ByteArray).size = 1 := rfl
              have o1 : (oneDigit x).size = 1 := rfl
              have o2 : (oneDigit y).size = 1 := rfl
              have o3 : (oneDigit z).size = 1 := rfl
              have k1 := fun w => run_string_add_sum (P := Tryd.prog) (w := w) T ⟨#[92]⟩ (by omega)
              have s1 : (T ++ ⟨#[92]⟩).size = T.size + 1 := by rw [ByteArray.size_append]; rfl
              have k2 := fun w => run_string_add_sum (P := Tryd.prog) (w := w) (T ++ ⟨#[92]⟩) (oneDigit x) (by omega)
              have s2 : (T ++ ⟨#[92]⟩ ++ oneDigit x).size = T.size + 2 := by rw [ByteArray.size_append, s1]; rfl
              have k3 := fun w => run_string_add_sum (P := Tryd.prog) (w := w) (T ++ ⟨#[92]⟩ ++ oneDigit x) (oneDigit y) (by omega)
              have s3 : (T ++ ⟨#[92]⟩ ++ oneDigit x ++ oneDigit y).size = T.size + 3 := by rw [ByteArray.size_append, s2]; rfl
              have k4 := fun w => run_string_add_sum (P := Tryd.prog) (w := w) (T ++ ⟨#[92]⟩ ++ oneDigit x ++ oneDigit y) (oneDigit z) (by omega)
              have s4 : (T ++ ⟨#[92]⟩ ++ oneDigit x ++ oneDigit y ++ oneDigit z).size ≤ 4 * (k + 1) + 1 := by rw [ByteArray.size_append, s3]; show T.size + 3 + 1 ≤ _; omega
              have l4 : (T ++ ⟨#[92]⟩ ++ oneDigit x ++ oneDigit y ++ oneDigit z).data.toList = 34 :: quotL (s.data.toList.take (k + 1)) := by
                rw [cat_list, cat_list, cat_list, cat_list, HL.out, hq]
                have e : quotB b = [92, dg3 x, dg3 y, dg3 z] := by unfold quotB; rw [if_neg e10, if_neg e34, if_neg e92, if_neg hp, hx1, hy1, hz1]
                rw [e]
                simp only [List.append_assoc, List.cons_append]
                rfl
              have H4 := Lib.hid l4
              have v1 : (b : Int) / 100 = x := by omega
              obtain ⟨q, hq1⟩ : ∃ q, q = b / 10 := ⟨_, rfl⟩
              have v2 : (b : Int) / 10 = q := by omega
              have v3 : (q : Int) % 10 = y := by omega
              have v4 : (b : Int) % 10 = z := by omega
              have hq25 : q < 26 := by omega
              have w1 : (b : Int).tdiv 100 = x := by rw [Int.tdiv_eq_ediv_of_nonneg (by omega)]; exact v1
              have w2 : (b : Int).tdiv 10 = q := by rw [Int.tdiv_eq_ediv_of_nonneg (by omega)]; exact v2
              have w3 : (q : Int).tmod 10 = y := by rw [Int.tmod_eq_emod_of_nonneg (by omega)]; exact v3
              have w4 : (b : Int).tmod 10 = z := by rw [Int.tmod_eq_emod_of_nonneg (by omega)]; exact v4
              have wx := IntWalk.i64_in (x : Int) (by omega)
              have wy := IntWalk.i64_in (y : Int) (by omega)
              have wz := IntWalk.i64_in (z : Int) (by omega)
              have wq := IntWalk.i64_in (q : Int) (by omega)
              have wx1 := IntWalk.i64_in ((x : Int) + 1) (by omega)
              have wy1 := IntWalk.i64_in ((y : Int) + 1) (by omega)
              have wz1 := IntWalk.i64_in ((z : Int) + 1) (by omega)
              clear hx1 hy1 hz1 hq1 v1 v2 v3 v4 s1 s2 s3 l4 add hcat hq hone hsl o1 o2 o3 h92
              generalize T ++ ⟨#[92]⟩ ++ oneDigit x ++ oneDigit y ++ oneDigit z = T5 at *
              generalize T ++ ⟨#[92]⟩ ++ oneDigit x ++ oneDigit y = T4 at *
              generalize T ++ ⟨#[92]⟩ ++ oneDigit x = T3 at *
              generalize T ++ ⟨#[92]⟩ = T2 at *
              generalize oneDigit x = ox at *
              generalize oneDigit y = oy at *
              generalize oneDigit z = oz at *
              have hp2 : 32 ≤ (b : Int) → ¬ ((b : Int) ≤ 126) := fun _ => by omega
              by_cases h32 : (32 : Int) ≤ b
              · have h126 := hp2 h32
                clear hp2
                go_wp2
                go_quiet (fail)
                have HB2 := Lib.hid (below_drewN HB.out nq)
                clear k1 k2 k3 k4 c1 c2 c3 w1 w2 w3 w4 wx wy wz wq wx1 wy1 wz1
                go_wp2
                go_roundw
                case rel => exact ⟨k + 1, T5, by omega, by go_num, rfl, s4, H4.out, HB2.out⟩
                case measure => simp only [intOf]; omega
              · clear hp2
                go_wp2
                go_quiet (fail)
                have HB2 := Lib.hid (below_drewN HB.out nq)
                clear k1 k2 k3 k4 c1 c2 c3 w1 w2 w3 w4 wx wy wz wq wx1 wy1 wz1
                go_wp2
                go_roundw
                case rel => exact ⟨k + 1, T5, by omega, by go_num, rfl, s4, H4.out, HB2.out⟩
                case measure => simp only [intOf]; omega
    · obtain rfl : k = s.size := by omega
      have hcat := fun w => run_string_add_sum (P := Tryd.prog) (w := w) T ⟨#[34]⟩ (by have : (⟨#[34]⟩ : ByteArray).size = 1 := rfl; omega)
      have hT2 : T ++ ⟨#[34]⟩ = quoteT s.data.toList := by
        apply ByteArray.ext
        apply Array.ext'
        rw [cat_list, HL.out, List.take_of_length_le (show s.data.toList.length ≤ s.size from Nat.le_refl _)]
        rfl
      rw [hT2] at hcat
      clear hT2
      go_wp2
      go_ret
      exact ⟨rfl, HB.out⟩

end Go.Proofs.YtmioidbffnjoiaaDoor
