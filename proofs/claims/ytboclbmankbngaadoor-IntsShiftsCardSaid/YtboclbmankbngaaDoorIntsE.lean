/-
  Hexadecimal digits: package ints and the reference.
-/
import Derived.Test.YtboclbmankbngaaDoorIntsD
namespace Go.Proofs.YtboclbmankbngaaDoor
open Go.RowKit

theorem ret_ib {a b : Int} {c d : Bool} (h : a = b) (h' : c = d) : Ending.returned (.tuple #[.int .i64 a, .bool c]) = .returned (.tuple #[.int .i64 b, .bool d]) := by rw [h, h']

theorem drop_at (s : ByteArray) (k : Nat) (h : k < s.size) : ∃ c : UInt8, c.toNat = byteAt s k ∧ s.data.toList.drop k = c :: s.data.toList.drop (k + 1) := by
  obtain ⟨⟨l⟩⟩ := s
  have hl : k < l.length := h
  refine ⟨l[k], ?_, List.drop_eq_getElem_cons hl⟩
  unfold byteAt; rw [get!_mk l k hl]
theorem drop_end (s : ByteArray) : s.data.toList.drop s.size = [] := List.drop_of_length_le (Nat.le_refl _)
theorem empty_iff (s : ByteArray) : (!s.data.toList.isEmpty) = decide (0 < s.size) := by
  have : s.data.toList.length = s.size := rfl
  cases h : s.data.toList with
  | nil => rw [h] at this; simp at this; simp [← this]
  | cons c r => rw [h] at this; simp at this; simp; omega

/-- What hexadecimal digits say, behind what is read so far; none: where one is no digit. -/
def hexN : List UInt8 → Nat → Option Nat
  | [], a => some a
  | c :: r, a => if hexB c.toNat = true then hexN r (a * 16 + (hexV c.toNat).toNat) else none

/-- A number with its sign, in 64 bits. -/
def signN (neg : Bool) (n : Nat) : Int := if neg then wrap64 (-(n : Int)) else wrap64 n
def hexOf (l : List UInt8) (neg : Bool) : Int × Bool :=
  match hexN l 0 with
  | none => (0, false)
  | some n => (signN neg n, !l.isEmpty)

theorem hexOf_some {l : List UInt8} {a : Nat} (neg : Bool) (h : some a = hexN l 0) : hexOf l neg = (signN neg a, !l.isEmpty) := by rw [hexOf, ← h]
theorem hexOf_none {l : List UInt8} (neg : Bool) (h : none = hexN l 0) : hexOf l neg = (0, false) := by rw [hexOf, ← h]
theorem hexN_yes {s : ByteArray} {k a : Nat} (h : k < s.size) (hb : hexB (byteAt s k) = true) : hexN (s.data.toList.drop k) a = hexN (s.data.toList.drop (k + 1)) (a * 16 + (hexV (byteAt s k)).toNat) := by
  obtain ⟨c, e, hd⟩ := drop_at s k h
  rw [hd, hexN, e, if_pos hb]
theorem hexN_no {s : ByteArray} {k a : Nat} (h : k < s.size) (hb : hexB (byteAt s k) = false) : hexN (s.data.toList.drop k) a = none := by
  obtain ⟨c, e, hd⟩ := drop_at s k h
  rw [hd, hexN, e, if_neg (by rw [hb]; decide)]
theorem hexN_end (s : ByteArray) (a : Nat) : hexN (s.data.toList.drop s.size) a = some a := by rw [drop_end]; rfl
theorem hexV_range (b : Nat) : 0 ≤ hexV b ∧ hexV b ≤ 15 := by unfold hexV; split; · omega
                                                              split; · omega
                                                              split <;> omega

theorem or_hex (a v : Nat) (hv : v ≤ 15) : bits .or .u64 (IntKind.u64.wrap ((a : Int) % 18446744073709551616 * 16)) (v : Int) = ((a * 16 + v : Nat) : Int) % 18446744073709551616 := by
  have e : IntKind.u64.wrap ((a : Int) % 18446744073709551616 * 16) = ((a * 16 % 18446744073709551616 : Nat) : Int) := by rw [IntKind.wrap_u64]; omega
  rw [e, u64_or_nat _ _ (by omega) (by omega), nat_join 4 _ _ (by omega) (by omega)]
  omega

theorem signed_any (n : Nat) (neg : Bool) (w : World) :
    Calls Tryd.prog 40 #[.int .u64 ((n : Int) % 18446744073709551616), .bool neg] w fun e w' => e = .returned (.int .i64 (signN neg n)) ∧ w = w' := by
  have h0 : 0 ≤ (n : Int) % 18446744073709551616 := by omega
  have hlt : (n : Int) % 18446744073709551616 < 18446744073709551616 := by omega
  have e1 : wrap64 ((n : Int) % 18446744073709551616) = signN false n := by unfold signN wrap64; simp only [Bool.false_eq_true, if_false]; omega
  have e2 : wrap64 (IntKind.u64.wrap (-((n : Int) % 18446744073709551616))) = signN true n := by rw [IntKind.wrap_u64]; unfold signN wrap64; simp only [if_true]; omega
  have E1 := Lib.hid e1
  have E2 := Lib.hid e2
  clear e1 e2
  generalize (n : Int) % 18446744073709551616 = m at *
  cases neg
  · go_enter Tryd.func40, Tryd.ntmps40
    go_wp2
    go_ret
    exact ⟨ret_i64 E1.out, rfl⟩
  · go_enter Tryd.func40, Tryd.ntmps40
    go_wp2
    go_ret
    exact ⟨ret_i64 E2.out, rfl⟩

set_option maxHeartbeats 1000000 in
theorem hexadecimal_any (s : ByteArray) (neg : Bool) (w : World) (hs : s.size ≤ 1000000000) :
    Calls Tryd.prog 30 #[.string s, .bool neg] w fun e w' => e = .returned (.tuple #[.int .i64 (hexOf s.data.toList neg).1, .bool (hexOf s.data.toList neg).2]) ∧ w = w' := by
  go_enter Tryd.func30, Tryd.ntmps30
  go_wp2
  go_loop [6, 12] (fun n i => ∃ (k a : Nat), k ≤ s.size ∧ i = .int .i64 k ∧ n = .int .u64 ((a : Int) % 18446744073709551616) ∧ hexN (s.data.toList.drop k) a = hexN s.data.toList 0) (fun _ i => s.size - (intOf i).toNat)
  case atStart => exact ⟨0, 0, by omega, rfl, rfl, rfl⟩
  case round =>
    obtain ⟨k, a, hk, rfl, rfl, ha⟩ := hrel
    have HA := Lib.hid ha
    clear ha
    by_cases hlt : k < s.size
    · have hlt' : (k : Int) < s.size := by omega
      have hx := run_index_at (P := Tryd.prog) 9 s (k : Int) k Tryd.underlying9 hlt rfl
      have hbl := byteAt_lt s k
      have hyes := hexN_yes (a := a) hlt
      have hno := hexN_no (a := a) hlt
      have hvr := hexV_range (byteAt s k)
      have hc := fun w => runes_hex (byteAt s k) w hbl
      generalize byteAt s k = b at *
      generalize hexB b = t at *
      obtain ⟨v, hv⟩ : ∃ v : Nat, hexV b = v := ⟨(hexV b).toNat, by omega⟩
      rw [hv] at hc hyes
      rw [Int.toNat_natCast] at hyes
      have hv15 : v ≤ 15 := by omega
      have ho := or_hex a v hv15
      clear hv hvr
      cases t
      · have HN := Lib.hid ((hno rfl).symm.trans HA.out)
        clear hyes hno ho
        go_wp2_with fail
        refine (hc _).mono ?_
        rintro e w1 ⟨rfl, rfl⟩
        go_wp2
        go_ret2
        refine ⟨ret_ib ?_ ?_, rfl⟩
        · rw [hexOf_none _ HN.out]
        · rw [hexOf_none _ HN.out]
      · have HN := Lib.hid ((hyes rfl).symm.trans HA.out)
        clear hyes hno
        have HO := Lib.hid ho
        clear ho
        go_wp2_with fail
        refine (hc _).mono ?_
        rintro e w1 ⟨rfl, rfl⟩
        go_wp2
        go_round
        case rel => exact ⟨k + 1, a * 16 + v, by omega, by go_num, by rw [HO.out], HN.out⟩
        case measure => simp only [intOf]; omega
    · obtain rfl : k = s.size := by omega
      have HN := Lib.hid ((hexN_end s a).symm.trans HA.out)
      have he := Lib.hid (empty_iff s)
      go_wp2_with fail
      refine (signed_any a neg _).mono ?_
      rintro e w1 ⟨rfl, rfl⟩
      go_wp2
      go_ret2
      refine ⟨ret_ib ?_ ?_, rfl⟩
      · rw [hexOf_some _ HN.out]
      · rw [hexOf_some _ HN.out, ByteArray.toList_eq]

theorem hex_step (a v : Nat) : wrap64 (wrap64 (16 * wrap64 a) + v) = wrap64 ((a * 16 + v : Nat) : Int) := by unfold wrap64; omega
theorem hex_pos (a : Nat) : wrap64 a = signN false a := by unfold signN; simp only [Bool.false_eq_true, if_false]
theorem wrap64_zero : Value.int .i64 0 = Value.int .i64 (wrap64 ((0 : Nat) : Int)) := by rw [wrap64_of_in (by unfold In64; omega)]; rfl
theorem hex_neg (a : Nat) : wrap64 (-wrap64 a) = signN true a := by unfold signN wrap64; simp only [if_true]; omega

set_option maxHeartbeats 1000000 in
theorem ref_hexadecimal (s : ByteArray) (neg : Bool) (w : World) (hs : s.size ≤ 1000000000) :
    Calls Tryd.prog 33 #[.string s, .bool neg] w fun e w' => e = .returned (.tuple #[.int .i64 (hexOf s.data.toList neg).1, .bool (hexOf s.data.toList neg).2]) ∧ w = w' := by
  go_enter Tryd.func33, Tryd.ntmps33
  go_wp2
  go_loop [6, 7] (fun n i => ∃ (k a : Nat), k ≤ s.size ∧ i = .int .i64 k ∧ n = .int .i64 (wrap64 a) ∧ hexN (s.data.toList.drop k) a = hexN s.data.toList 0) (fun _ i => s.size - (intOf i).toNat)
  case atStart => exact ⟨0, 0, by omega, rfl, wrap64_zero, rfl⟩
  case round =>
    obtain ⟨k, a, hk, rfl, rfl, ha⟩ := hrel
    have HA := Lib.hid ha
    clear ha
    by_cases hlt : k < s.size
    · have hlt' : (k : Int) < s.size := by omega
      have hx := run_index_at (P := Tryd.prog) 9 s (k : Int) k Tryd.underlying9 hlt rfl
      have hbl := byteAt_lt s k
      have hyes := hexN_yes (a := a) hlt
      have hno := hexN_no (a := a) hlt
      have hvr := hexV_range (byteAt s k)
      have hc := fun w => ref_hex (byteAt s k) w hbl
      generalize byteAt s k = b at *
      generalize hexB b = t at *
      obtain ⟨v, hv⟩ : ∃ v : Nat, hexV b = v := ⟨(hexV b).toNat, by omega⟩
      rw [hv] at hc hyes
      rw [Int.toNat_natCast] at hyes
      have hv15 : v ≤ 15 := by omega
      clear hv hvr
      cases t
      · have HN := Lib.hid ((hno rfl).symm.trans HA.out)
        clear hyes hno
        go_wp2_with fail
        refine (hc _).mono ?_
        rintro e w1 ⟨rfl, rfl⟩
        go_wp2
        go_ret2
        refine ⟨ret_ib ?_ ?_, rfl⟩
        · rw [hexOf_none _ HN.out]
        · rw [hexOf_none _ HN.out]
      · have HN := Lib.hid ((hyes rfl).symm.trans HA.out)
        clear hyes hno
        have HO := Lib.hid (hex_step a v)
        go_wp2_with fail
        refine (hc _).mono ?_
        rintro e w1 ⟨rfl, rfl⟩
        go_wp2
        go_round
        case rel => exact ⟨k + 1, a * 16 + v, by omega, by go_num, by rw [HO.out], HN.out⟩
        case measure => simp only [intOf]; omega
    · obtain rfl : k = s.size := by omega
      have HN := Lib.hid ((hexN_end s a).symm.trans HA.out)
      have he := Lib.hid (empty_iff s)
      cases neg
      · go_wp2
        go_ret2
        refine ⟨ret_ib ?_ ?_, rfl⟩
        · rw [hexOf_some _ HN.out, hex_pos]
        · rw [hexOf_some _ HN.out]; exact he.out.symm
      · go_wp2
        go_ret2
        refine ⟨ret_ib ?_ ?_, rfl⟩
        · rw [hexOf_some _ HN.out, hex_neg]
        · rw [hexOf_some _ HN.out]; exact he.out.symm

end Go.Proofs.YtboclbmankbngaaDoor
