/-
  The reference's Parse, by contract.
-/
import Derived.Test.YtajeghkmgcpgiaaGreatDoorNumMath
import Derived.Deep.DeepCutAuto
import Derived.Deep.CutBlock
import Derived.Deep.LoopGhost
import Derived.Laws.Rows
namespace Go.Proofs.YtajeghkmgcpgiaaGreatDoor.Num
open Go.RowKit

/-- Whether a byte is one of a text's. -/
def inB (b : Nat) (s : ByteArray) : Bool := s.data.toList.any fun c => c.toNat == b

theorem any_take_succ (b : Nat) (s : ByteArray) (k : Nat) (h : k < s.size) (hn : ¬ byteAt s k = b) (ht : (s.data.toList.take k).any (fun c => c.toNat == b) = false) : (s.data.toList.take (k + 1)).any (fun c => c.toNat == b) = false := by
  obtain ⟨⟨l⟩⟩ := s
  have hl : k < l.length := h
  unfold byteAt at hn
  rw [get!_mk l k hl] at hn
  simp only at ht ⊢
  rw [List.take_succ_eq_append_getElem hl, List.any_append, ht]
  simp [hn]

theorem any_hit (b : Nat) (s : ByteArray) (k : Nat) (h : k < s.size) (hn : byteAt s k = b) : inB b s = true := by
  obtain ⟨⟨l⟩⟩ := s
  have hl : k < l.length := h
  unfold byteAt at hn
  rw [get!_mk l k hl] at hn
  unfold inB
  rw [List.any_eq_true]
  exact ⟨l[k], List.getElem_mem hl, by simp [hn]⟩

set_option maxHeartbeats 400000 in
theorem ref_in (b : Nat) (s : ByteArray) (w : World) (hs : s.size ≤ 1000000000) :
    Calls Tryz.prog 46 #[.int .u8 b, .string s] w fun e w' => e = .returned (.bool (inB b s)) ∧ w = w' := by
  go_enter Tryz.func46, Tryz.ntmps46
  go_wp2
  go_loop [5] (fun i => ∃ k : Nat, k ≤ s.size ∧ i = .int .i64 k ∧ (s.data.toList.take k).any (fun c => c.toNat == b) = false) (fun i => s.size - (intOf i).toNat)
  case atStart => exact ⟨0, by omega, rfl, by simp⟩
  case round =>
    obtain ⟨k, hk, rfl, ha⟩ := hrel
    have HA := Lib.hid ha
    clear ha
    by_cases hlt : k < s.size
    · have hlt' : (k : Int) < s.size := by omega
      have hx := run_index_at (P := Tryz.prog) 9 s (k : Int) k Tryz.underlying9 hlt rfl
      have hmore := any_take_succ b s k hlt
      have hhit := any_hit b s k hlt
      have hbl := byteAt_lt s k
      generalize byteAt s k = x at *
      by_cases hxb : x = b
      · have h1 := Lib.hid (hhit hxb)
        have hxb' : ((x : Int) == (b : Int)) = true := by simp [hxb]
        clear hmore hhit hxb
        go_wp2
        go_ret
        exact ⟨ret_bool h1.out.symm, rfl⟩
      · have h1 := Lib.hid (hmore hxb HA.out)
        have hxb' : ((x : Int) == (b : Int)) = false := by simp; omega
        clear hmore hhit hxb
        go_wp2
        go_round
        case rel => exact ⟨k + 1, by omega, by go_num, h1.out⟩
        case measure => simp only [intOf]; omega
    · go_wp2
      go_ret
      have ha := HA.out
      rw [List.take_of_length_le (by have : s.data.toList.length = s.size := rfl
                                     omega)] at ha
      exact ⟨ret_bool ha.symm, rfl⟩

theorem in_space : ∀ b < 256, inB b ⟨#[9, 10, 11, 12, 13, 32]⟩ = spaceB b := by decide +kernel

theorem ref_space (b : Nat) (w : World) (hb : b < 256) :
    Calls Tryz.prog 25 #[.int .u8 b] w fun e w' => e = .returned (.bool (spaceB b)) ∧ w = w' := by
  go_enter Tryz.func25, Tryz.ntmps25
  go_wp2_with (go_at_call 46; refine (ref_in b ⟨#[9, 10, 11, 12, 13, 32]⟩ _ (by decide)).mono ?_; rintro e w' ⟨rfl, rfl⟩)
  go_ret
  exact ⟨ret_bool (in_space b hb), rfl⟩

def lowHex : ByteArray := ⟨#[48, 49, 50, 51, 52, 53, 54, 55, 56, 57, 97, 98, 99, 100, 101, 102]⟩
def upHex : ByteArray := ⟨#[48, 49, 50, 51, 52, 53, 54, 55, 56, 57, 65, 66, 67, 68, 69, 70]⟩
theorem low_at : ∀ k < 16, byteAt lowHex k = if k < 10 then 48 + k else 87 + k := by decide +kernel
theorem up_at : ∀ k < 16, byteAt upHex k = if k < 10 then 48 + k else 55 + k := by decide +kernel

set_option maxHeartbeats 1000000 in
theorem ref_hex (b : Nat) (w : World) (hb : b < 256) :
    Calls Tryz.prog 97 #[.int .u8 b] w fun e w' => e = .returned (.tuple #[.int .i64 (hexV b), .bool (hexB b)]) ∧ w = w' := by
  go_enter Tryz.func97, Tryz.ntmps97
  go_wp2
  go_loop [4] (fun i => ∃ k : Nat, k ≤ 16 ∧ i = .int .i64 k ∧ ∀ j, j < k → ¬ (byteAt lowHex j = b ∨ byteAt upHex j = b)) (fun i => 16 - (intOf i).toNat)
  case atStart => exact ⟨0, by omega, rfl, fun j h => by omega⟩
  case round =>
    obtain ⟨k, hk, rfl, ha⟩ := hrel
    have HA := Lib.hid ha
    clear ha
    by_cases hlt : k < 16
    · have hx := run_index_at (P := Tryz.prog) 9 lowHex (k : Int) k Tryz.underlying9 hlt rfl
      have hy := run_index_at (P := Tryz.prog) 9 upHex (k : Int) k Tryz.underlying9 hlt rfl
      have hl := low_at k hlt
      have hu := up_at k hlt
      have hmore : ¬ (byteAt lowHex k = b ∨ byteAt upHex k = b) → ∀ j, j < k + 1 → ¬ (byteAt lowHex j = b ∨ byteAt upHex j = b) := fun hn j hj => by
        by_cases e : j = k
        · rw [e]; exact hn
        · exact HA.out j (by omega)
      have HM := Lib.hid hmore
      clear hmore
      unfold lowHex at hx
      unfold upHex at hy
      have hval : byteAt lowHex k = b ∨ byteAt upHex k = b → hexV b = k ∧ hexB b = true := by
        intro h
        rw [hl, hu] at h
        refine ⟨?_, ?_⟩
        · unfold hexV
          by_cases hk10 : k < 10
          · rw [if_pos hk10, if_pos hk10] at h
            rw [if_pos (by omega)]; omega
          · rw [if_neg hk10, if_neg hk10] at h
            rw [if_neg (by omega)]
            by_cases h97 : 97 ≤ b ∧ b ≤ 102
            · rw [if_pos h97]; omega
            · rw [if_neg h97, if_pos (by omega)]; omega
        · unfold hexB
          by_cases hk10 : k < 10
          · rw [if_pos hk10, if_pos hk10] at h
            rw [decide_eq_true (by omega)]
          · rw [if_neg hk10, if_neg hk10] at h
            rw [decide_eq_true (by omega)]
      have hxl : byteAt lowHex k = byteAt ⟨#[48, 49, 50, 51, 52, 53, 54, 55, 56, 57, 97, 98, 99, 100, 101, 102]⟩ k := rfl
      have hxu : byteAt upHex k = byteAt ⟨#[48, 49, 50, 51, 52, 53, 54, 55, 56, 57, 65, 66, 67, 68, 69, 70]⟩ k := rfl
      rw [← hxl] at hx
      rw [← hxu] at hy
      generalize byteAt lowHex k = x at *
      generalize byteAt upHex k = y at *
      clear hxl hxu hl hu
      by_cases h1 : x = b
      · have h2 := Lib.hid (hval (Or.inl h1))
        have h1' : ((x : Int) == (b : Int)) = true := by simp [h1]
        clear hval h1
        go_wp2
        go_ret2
        exact ⟨by rw [h2.out.1, h2.out.2]; rfl, rfl⟩
      · have h1' : ((x : Int) == (b : Int)) = false := by simp; omega
        by_cases h3 : y = b
        · have h2 := Lib.hid (hval (Or.inr h3))
          have h3' : ((y : Int) == (b : Int)) = true := by simp [h3]
          clear hval h1 h3
          go_wp2
          go_ret2
          exact ⟨by rw [h2.out.1, h2.out.2]; rfl, rfl⟩
        · have h3' : ((y : Int) == (b : Int)) = false := by simp; omega
          have hno : ¬ (x = b ∨ y = b) := by omega
          have HN := Lib.hid (HM.out hno)
          clear hval h1 h3 hno
          go_wp2
          go_round
          case rel => exact ⟨k + 1, by omega, by go_num, HN.out⟩
          case measure => simp only [intOf]; omega
    · have hk16 : k = 16 := by omega
      subst hk16
      have hno : ∀ b < 256, (∀ j, j < 16 → ¬ (byteAt lowHex j = b ∨ byteAt upHex j = b)) → hexV b = 0 ∧ hexB b = false := by decide +kernel
      have HN := Lib.hid (hno b hb HA.out)
      clear hno
      go_wp2
      go_ret2
      exact ⟨by rw [HN.out.1, HN.out.2]; rfl, rfl⟩

theorem hex_step (a v : Nat) : wrap64 (wrap64 (16 * wrap64 a) + v) = wrap64 ((a * 16 + v : Nat) : Int) := by unfold wrap64; omega
theorem hex_pos (a : Nat) : wrap64 a = signN false a := by unfold signN; simp only [Bool.false_eq_true, if_false]
theorem wrap64_zero : Value.int .i64 0 = Value.int .i64 (wrap64 ((0 : Nat) : Int)) := by rw [wrap64_of_in (by unfold In64; omega)]; rfl
theorem hex_neg (a : Nat) : wrap64 (-wrap64 a) = signN true a := by unfold signN wrap64; simp only [if_true]; omega

set_option maxHeartbeats 1000000 in
theorem ref_hexadecimal (s : ByteArray) (neg : Bool) (w : World) (hs : s.size ≤ 1000000000) :
    Calls Tryz.prog 96 #[.string s, .bool neg] w fun e w' => e = .returned (.tuple #[.int .i64 (hexOf s.data.toList neg).1, .bool (hexOf s.data.toList neg).2]) ∧ w = w' := by
  go_enter Tryz.func96, Tryz.ntmps96
  go_wp2
  go_loop [6, 7] (fun n i => ∃ (k a : Nat), k ≤ s.size ∧ i = .int .i64 k ∧ n = .int .i64 (wrap64 a) ∧ hexN (s.data.toList.drop k) a = hexN s.data.toList 0) (fun _ i => s.size - (intOf i).toNat)
  case atStart => exact ⟨0, 0, by omega, rfl, wrap64_zero, rfl⟩
  case round =>
    obtain ⟨k, a, hk, rfl, rfl, ha⟩ := hrel
    have HA := Lib.hid ha
    clear ha
    by_cases hlt : k < s.size
    · have hlt' : (k : Int) < s.size := by omega
      have hx := run_index_at (P := Tryz.prog) 9 s (k : Int) k Tryz.underlying9 hlt rfl
      have hbl := byteAt_lt s k
      have hyes := hexN_yes (a := a) hlt
      have hno := hexN_no (a := a) hlt
      have hvr := hexV_range (byteAt s k)
      have hc := fun w => ref_hex (byteAt s k) w hbl
      generalize byteAt s k = b at *
      generalize hexB b = t at *
      obtain ⟨v, hv⟩ : ∃ v : Nat, hexV b = v := ⟨(hexV b).toNat, by omega⟩
      rw [hv] at hc hyes
      rw [Int.toNat_natCast] at hyes
      have hv15 : v ≤ 15 := by omega
      clear hv hvr
      cases t
      · have HN := Lib.hid ((hno rfl).symm.trans HA.out)
        clear hyes hno
        go_wp2_with fail
        refine (hc _).mono ?_
        rintro e w1 ⟨rfl, rfl⟩
        go_wp2
        go_ret2
        refine ⟨ret_ib ?_ ?_, rfl⟩
        · rw [hexOf_none _ HN.out]
        · rw [hexOf_none _ HN.out]
      · have HN := Lib.hid ((hyes rfl).symm.trans HA.out)
        clear hyes hno
        have HO := Lib.hid (hex_step a v)
        go_wp2_with fail
        refine (hc _).mono ?_
        rintro e w1 ⟨rfl, rfl⟩
        go_wp2
        go_round
        case rel => exact ⟨k + 1, a * 16 + v, by omega, by go_num, by rw [HO.out], HN.out⟩
        case measure => simp only [intOf]; omega
    · obtain rfl : k = s.size := by omega
      have HN := Lib.hid ((hexN_end s a).symm.trans HA.out)
      have he := Lib.hid (empty_iff s)
      cases neg
      · go_wp2
        go_ret2
        refine ⟨ret_ib ?_ ?_, rfl⟩
        · rw [hexOf_some _ HN.out, hex_pos]
        · rw [hexOf_some _ HN.out]; exact he.out.symm
      · go_wp2
        go_ret2
        refine ⟨ret_ib ?_ ?_, rfl⟩
        · rw [hexOf_some _ HN.out, hex_neg]
        · rw [hexOf_some _ HN.out]; exact he.out.symm


theorem parse_r {s : ByteArray} {x : Int × Bool} {w : World} (h : parseOf s = x) : Ending.returned (.tuple #[.int .i64 x.1, .bool x.2]) = .returned (.tuple #[.int .i64 (parseOf s).1, .bool (parseOf s).2]) ∧ w = w := by
  subst h; exact ⟨rfl, rfl⟩

/-! ### A text's parts, as the reference takes them -/
theorem run_from {P : Program} (t : TypeId) (s m : ByteArray) (i j d : Nat) (hm : m = s.extract i j) (h : P.underlying t = some .string) (hd : i + d ≤ j) (hj : j ≤ s.size) (x : Int) (hx : x = d) (w : World) :
    (Instr.slice t (.string m) (some (.int .i64 x)) none none).run P w = .ok (.string (s.extract (i + d) j)) w := by
  subst hm hx
  rw [run_slice_string_from_if w t _ .i64 _ h, if_pos ⟨by omega, by rw [part_size hj]; omega⟩, ByteArray.extract_extract, part_size hj]
  congr 3
  · omega
theorem run_upto {P : Program} (t : TypeId) (s m : ByteArray) (i j : Nat) (hm : m = s.extract i j) (h : P.underlying t = some .string) (hd : i < j) (hj : j ≤ s.size) (x : Int) (hx : x = (m.size : Int) - 1) (w : World) :
    (Instr.slice t (.string m) none (some (.int .i64 x)) none).run P w = .ok (.string (s.extract i (j - 1))) w := by
  subst hm hx
  rw [part_size hj, run_slice_string_to_if w t _ .i64 _ h, if_pos ⟨by omega, by rw [part_size hj]; omega⟩, ByteArray.extract_extract]
  congr 3
  omega
theorem run_at {P : Program} (t : TypeId) (s m : ByteArray) (i j d : Nat) (hm : m = s.extract i j) (h : P.underlying t = some .string) (hd : i + d < j) (hj : j ≤ s.size) (x : Int) (hx : x = d) (w : World) :
    (Instr.index t (.string m) (.int .i64 x)).run P w = .ok (.int .u8 (byteAt s (i + d))) w := by
  rw [run_index_at t m x d h (by rw [hm, part_size hj]; omega) hx, hm, byteAt_extract hj hd]

/-! ### Decimal digits, as the reference reads them -/
theorem uint10_mono : ∀ (l : List UInt8) (a u : Nat), Lib.parseUint10 a l = .ok u → a ≤ u
  | [], a, u, h => by
    simp only [Lib.parseUint10] at h
    injection h with h
    omega
  | c :: r, a, u, h => by
    simp only [Lib.parseUint10] at h
    split at h
    · split at h
      · cases h
      · split at h
        · cases h
        · have := uint10_mono r _ u h; omega
    · cases h

theorem dec_more {m : ByteArray} {k a v : Nat} (hk : k < m.size) (hb : hexB (byteAt m k) = true) (hv : hexV (byteAt m k) = v) (h9 : v ≤ 9) (ha : a * 10 + v ≤ 9223372036854775808) :
    Lib.parseUint10 a (m.data.toList.drop k) = Lib.parseUint10 (a * 10 + v) (m.data.toList.drop (k + 1)) := by
  obtain ⟨c, e, hd⟩ := drop_at m k hk
  rw [← e] at hb hv
  have hc : 48 ≤ c.toNat ∧ c.toNat ≤ 57 ∧ v = c.toNat - 48 := by
    unfold hexB at hb; simp at hb
    unfold hexV at hv
    split at hv
    · omega
    · split at hv
      · omega
      · split at hv <;> omega
  rw [hd, Lib.parseUint10, if_pos ⟨hc.1, hc.2.1⟩, if_neg (by omega), ← hc.2.2, if_neg (by omega)]

theorem dec_stop {m : ByteArray} {k a v : Nat} (neg : Bool) (hk : k < m.size) (hr : Lib.parseUint10 a (m.data.toList.drop k) = Lib.parseUint10 0 m.data.toList) (hv : hexV (byteAt m k) = v)
    (hs : hexB (byteAt m k) = false ∨ 9 < v ∨ 9223372036854775808 < a * 10 + v) : decOf m.data.toList neg = (0, false) := by
  obtain ⟨c, e, hd⟩ := drop_at m k hk
  rw [← e] at hv hs
  have hne : m.data.toList ≠ [] := fun h => by rw [h] at hd; simp at hd
  have hm : Lib.parseMag m.data.toList = Lib.parseUint10 a (c :: m.data.toList.drop (k + 1)) := by rw [Lib.parseMag, if_neg hne, ← hr, hd]
  by_cases hc : 48 ≤ c.toNat ∧ c.toNat ≤ 57
  · have hv2 : v = c.toNat - 48 := by unfold hexV at hv; rw [if_pos hc] at hv; omega
    have hb : hexB c.toNat = true := by unfold hexB; simp; omega
    rw [hb] at hs
    have ha : 9223372036854775808 < a * 10 + v := by
      rcases hs with h | h | h
      · cases h
      · omega
      · exact h
    cases hp : Lib.parseMag m.data.toList with
    | ok u =>
      rw [decOf_ok neg hp, if_pos]
      rw [hm, Lib.parseUint10, if_pos hc] at hp
      split at hp
      · cases hp
      · split at hp
        · cases hp
        · have := uint10_mono _ _ _ hp
          have : decMost neg ≤ 9223372036854775808 := by unfold decMost; split <;> omega
          omega
    | _ => exact decOf_no neg fun u h => by rw [hp] at h; cases h
  · refine decOf_no neg fun u h => ?_
    rw [hm, Lib.parseUint10, if_neg hc] at h
    cases h

theorem dec_none {m : ByteArray} (neg : Bool) (h : m.size = 0) : decOf m.data.toList neg = (0, false) := by
  have : m.data.toList = [] := List.length_eq_zero_iff.1 h
  rw [this]; rfl
theorem dec_done {m : ByteArray} {a : Nat} (neg : Bool) (h : 0 < m.size) (hr : Lib.parseUint10 a (m.data.toList.drop m.size) = Lib.parseUint10 0 m.data.toList) :
    decOf m.data.toList neg = if decMost neg < a then (0, false) else (signN neg a, true) := by
  rw [drop_end] at hr
  refine decOf_ok neg ?_
  have hne : m.data.toList ≠ [] := fun e => by have : m.data.toList.length = m.size := rfl
                                               rw [e] at this; simp at this; omega
  rw [Lib.parseMag, if_neg hne, ← hr]
  rfl

set_option maxHeartbeats 4000000 in
set_option maxRecDepth 100000 in
theorem ref_parse (s : ByteArray) (w : World) (hs : s.size ≤ 1000000000) :
    Calls Tryz.prog 80 #[.string s] w fun e w' => e = .returned (.tuple #[.int .i64 (parseOf s).1, .bool (parseOf s).2]) ∧ w = w' := by
  go_enter Tryz.func80, Tryz.ntmps80
  go_upto_block 0 with fail
  go_cut [0] (fun v wx => (∃ m, v = .string m ∧ m = s.extract (loFrom s 0) s.size) ∧ loFrom s 0 ≤ s.size ∧ wx = w)
  case first =>
    go_wp2_with fail
    go_loopg [0] s.size (fun r v wr => ∃ k m, r = s.size - k ∧ k ≤ s.size ∧ v = .string m ∧ m = s.extract k s.size ∧ loFrom s k = loFrom s 0 ∧ wr = w)
    case atStart => exact ⟨0, s, rfl, by omega, rfl, by simp, rfl, rfl⟩
    case round =>
      obtain ⟨k, m, rfl, hk, rfl, hm, hlo, rfl⟩ := hrel
      have HL := Lib.hid hlo
      have hsz : m.size = s.size - k := by rw [hm, part_size (Nat.le_refl _)]
      by_cases hlt : k < s.size
      · have hz : 0 < m.size := by omega
        have hz' : 0 < (m.size : Int) := by omega
        have hx := run_at (P := Tryz.prog) 9 s m k s.size 0 hm Tryz.underlying9 hlt (Nat.le_refl _) 0 rfl
        have hy := run_from (P := Tryz.prog) 9 s m k s.size 1 hm Tryz.underlying9 hlt (Nat.le_refl _) 1 rfl
        have cs := fun w => ref_space (byteAt s k) w (byteAt_lt s k)
        have hyes := loFrom_yes hlt
        have hno := loFrom_no hlt
        rw [Nat.add_zero] at hx
        have HM := Lib.hid hm
        clear hlo hm hsz
        generalize byteAt s k = b at *
        cases hsp : spaceB b
        · have HN := Lib.hid ((hno hsp).symm.trans HL.out)
          rw [hsp] at cs
          clear hyes hno hsp
          go_wp2_with fail
          refine (cs _).mono ?_
          rintro e w1 ⟨rfl, rfl⟩
          go_wp2_with fail
          go_meet
          exact ⟨⟨_, rfl, by rw [← HN.out]; exact HM.out⟩, by rw [← HN.out]; omega, rfl⟩
        · have HN := Lib.hid ((hyes hsp).symm.trans HL.out)
          rw [hsp] at cs
          clear hyes hno hsp
          go_wp2_with fail
          refine (cs _).mono ?_
          rintro e w1 ⟨rfl, rfl⟩
          go_wp2
          go_roundg (s.size - (k + 1))
          case measure => omega
          case rel => exact ⟨k + 1, _, rfl, by omega, rfl, rfl, HN.out, rfl⟩
      · obtain rfl : k = s.size := by omega
        have hz : m.size ≤ 0 := by omega
        have hz' : (m.size : Int) ≤ 0 := by omega
        have HN := Lib.hid ((loFrom_end s).symm.trans HL.out)
        have HM := Lib.hid hm
        clear hlo hm hsz
        go_wp2_with fail
        go_meet
        exact ⟨⟨_, rfl, by rw [← HN.out]; exact HM.out⟩, by rw [← HN.out]; omega, rfl⟩
  case rest =>
    obtain ⟨⟨m, rfl, hm⟩, hlo, rfl⟩ := hcut
    generalize hl0 : loFrom s 0 = lo at *
    go_upto_block 2 with fail
    go_cut [0] (fun v wx => (∃ m, v = .string m ∧ m = s.extract lo (hiFrom s lo s.size)) ∧ lo ≤ hiFrom s lo s.size ∧ hiFrom s lo s.size ≤ s.size ∧ wx = wc)
    case first =>
      go_wp2_with fail
      go_loopg [0] s.size (fun r v wr => r ≤ s.size ∧ lo ≤ r ∧ (∃ m, v = .string m ∧ m = s.extract lo r) ∧ hiFrom s lo r = hiFrom s lo s.size ∧ wr = wc)
      case atStart => exact ⟨by omega, hlo, ⟨_, rfl, hm⟩, rfl, rfl⟩
      case round =>
        clear hm
        obtain ⟨hj, hlj, ⟨m, rfl, hm⟩, hhi, rfl⟩ := hrel
        have HL := Lib.hid hhi
        have hsz : m.size = gk - lo := by rw [hm, part_size hj]
        by_cases hlt : lo < gk
        · have hz : 0 < m.size := by omega
          have hz' : 0 < (m.size : Int) := by omega
          have hx := run_at (P := Tryz.prog) 9 s m lo gk (gk - 1 - lo) hm Tryz.underlying9 (by omega) hj ((m.size : Int) - 1) (by omega)
          have hy := run_upto (P := Tryz.prog) 9 s m lo gk hm Tryz.underlying9 hlt hj ((m.size : Int) - 1) rfl
          have cs := fun w => ref_space (byteAt s (gk - 1)) w (byteAt_lt s _)
          have hyes := hiFrom_yes (s := s) hlt
          have hno := hiFrom_no (s := s) hlt
          have hmax : (m.size : Int) ≤ 1000000000 := by omega
          rw [show lo + (gk - 1 - lo) = gk - 1 from by omega] at hx
          have HM := Lib.hid hm
          clear hhi hm hsz
          generalize byteAt s (gk - 1) = b at *
          cases hsp : spaceB b
          · have HN := Lib.hid ((hno hsp).symm.trans HL.out)
            rw [hsp] at cs
            clear hyes hno hsp
            go_wp2_with fail
            refine (cs _).mono ?_
            rintro e w1 ⟨rfl, rfl⟩
            go_wp2_with fail
            go_meet
            exact ⟨⟨_, rfl, by rw [← HN.out]; exact HM.out⟩, by rw [← HN.out]; omega, by rw [← HN.out]; omega, rfl⟩
          · have HN := Lib.hid ((hyes hsp).symm.trans HL.out)
            rw [hsp] at cs
            clear hyes hno hsp
            go_wp2_with fail
            refine (cs _).mono ?_
            rintro e w1 ⟨rfl, rfl⟩
            go_wp2
            go_roundg (gk - 1)
            case measure => omega
            case rel => exact ⟨by omega, by omega, ⟨_, rfl, rfl⟩, HN.out, rfl⟩
        · obtain rfl : lo = gk := by omega
          have hz : m.size ≤ 0 := by omega
          have hz' : (m.size : Int) ≤ 0 := by omega
          have HN := Lib.hid ((hiFrom_at s lo).symm.trans HL.out)
          have HM := Lib.hid hm
          clear hhi hm hsz
          go_wp2_with fail
          go_meet
          exact ⟨⟨_, rfl, by rw [← HN.out]; exact HM.out⟩, by rw [← HN.out]; omega, by rw [← HN.out]; omega, rfl⟩
    case rest =>
      clear hm m
      obtain ⟨⟨m, rfl, hm⟩, hle, hhi, rfl⟩ := hcut
      have hcore : parseOf s = coreOf s lo (hiFrom s lo s.size) := by rw [parseOf, hl0]
      generalize hiFrom s lo s.size = hi at *
      have HC := Lib.hid hcore
      clear hcore hl0
      go_upto_region 5 with fail
      go_cut [4] (fun c wx => c = .bool (negAt s lo hi) ∧ wx = wc)
      case first =>
        have hsz : m.size = hi - lo := by rw [hm, part_size hhi]
        by_cases hlt : lo < hi
        · have hz : 0 < m.size := by omega
          have hx := run_at (P := Tryz.prog) 9 s m lo hi 0 hm Tryz.underlying9 hlt hhi 0 rfl
          have hn : negAt s lo hi = decide (byteAt s lo = 45) := by unfold negAt; rw [decide_eq_true hlt, Bool.true_and]
          rw [Nat.add_zero] at hx
          clear hm hsz
          generalize byteAt s lo = b at *
          by_cases hb : b = 45
          · have hb' : ((b : Int) == 45) = true := by simp; omega
            have HN := Lib.hid (hn.trans (decide_eq_true hb))
            clear hn hb
            go_wp2_with fail
            go_meet
            exact ⟨by rw [HN.out], rfl⟩
          · have hb' : ((b : Int) == 45) = false := by simp; omega
            have HN := Lib.hid (hn.trans (decide_eq_false hb))
            clear hn hb
            go_wp2_with fail
            go_meet
            exact ⟨by rw [HN.out], rfl⟩
        · have hz : m.size ≤ 0 := by omega
          have HN := Lib.hid (show negAt s lo hi = false by unfold negAt; rw [decide_eq_false hlt]; rfl)
          clear hm hsz
          go_wp2_with fail
          go_meet
          exact ⟨by rw [HN.out], rfl⟩
      case rest =>
        obtain ⟨rfl, rfl⟩ := hcut
        have hsg : (negAt s lo hi || plusAt s lo hi) = true → lo + 1 ≤ hi := by
          intro h
          rcases Bool.or_eq_true_iff.1 h with h | h
          · unfold negAt at h; simp at h; omega
          · unfold plusAt at h; simp at h; omega
        rw [coreOf] at HC
        generalize negAt s lo hi = neg at *
        go_upto_region 6 with fail
        go_cut [53] (fun c wx => c = .bool (neg || plusAt s lo hi) ∧ wx = wc)
        case first =>
          have hsz : m.size = hi - lo := by rw [hm, part_size hhi]
          cases neg
          · by_cases hlt : lo < hi
            · have hz : 0 < m.size := by omega
              have hx := run_at (P := Tryz.prog) 9 s m lo hi 0 hm Tryz.underlying9 hlt hhi 0 rfl
              have hn : plusAt s lo hi = decide (byteAt s lo = 43) := by unfold plusAt; rw [decide_eq_true hlt, Bool.true_and]
              rw [Nat.add_zero] at hx
              clear hm hsz
              generalize byteAt s lo = b at *
              by_cases hb : b = 43
              · have hb' : ((b : Int) == 43) = true := by simp; omega
                have HN := Lib.hid (hn.trans (decide_eq_true hb))
                clear hn hb
                go_wp2_with fail
                go_meet
                exact ⟨by rw [HN.out]; rfl, rfl⟩
              · have hb' : ((b : Int) == 43) = false := by simp; omega
                have HN := Lib.hid (hn.trans (decide_eq_false hb))
                clear hn hb
                go_wp2_with fail
                go_meet
                exact ⟨by rw [HN.out]; rfl, rfl⟩
            · have hz : m.size ≤ 0 := by omega
              have HN := Lib.hid (show plusAt s lo hi = false by unfold plusAt; rw [decide_eq_false hlt]; rfl)
              clear hm hsz
              go_wp2_with fail
              go_meet
              exact ⟨by rw [HN.out]; rfl, rfl⟩
          · clear hm hsz
            go_wp2_with fail
            go_meet
            exact ⟨by rw [Bool.true_or], rfl⟩
        case rest =>
          obtain ⟨rfl, rfl⟩ := hcut
          generalize (neg || plusAt s lo hi) = sg at *
          go_upto_if 53 with fail
          go_cut [0] (fun v wx => (∃ m, v = .string m ∧ m = s.extract (if sg = true then lo + 1 else lo) hi) ∧ (if sg = true then lo + 1 else lo) ≤ hi ∧ wx = wc)
          case first =>
            cases sg
            · have HM := Lib.hid hm
              clear hm
              go_wp2_with fail
              go_meet
              exact ⟨⟨_, rfl, HM.out⟩, hle, rfl⟩
            · have hy := run_from (P := Tryz.prog) 9 s m lo hi 1 hm Tryz.underlying9 (hsg rfl) hhi 1 rfl
              have HS := Lib.hid (hsg rfl)
              clear hm hsg
              go_wp2_with fail
              go_meet
              exact ⟨⟨_, rfl, rfl⟩, HS.out, rfl⟩
          case rest =>
            clear hm m hsg hle
            obtain ⟨⟨m, rfl, hm⟩, hle, rfl⟩ := hcut
            generalize (if sg = true then lo + 1 else lo) = p at *
            have hsz : m.size = hi - p := by rw [hm, part_size hhi]
            go_upto_region 8 with fail
            go_cut [73] (fun c wx => c = .bool (lowX s p hi || bigX s p hi) ∧ wx = wc)
            case first =>
              by_cases hlt : p + 1 < hi
              · have hz : 1 < m.size := by omega
                have hx := run_at (P := Tryz.prog) 9 s m p hi 0 hm Tryz.underlying9 (by omega) hhi 0 rfl
                have hy := run_at (P := Tryz.prog) 9 s m p hi 1 hm Tryz.underlying9 hlt hhi 1 rfl
                have hn : lowX s p hi = decide (byteAt s p = 48 ∧ byteAt s (p + 1) = 120) := by unfold lowX; rw [decide_eq_true hlt, Bool.true_and]
                have hn' : bigX s p hi = decide (byteAt s p = 48 ∧ byteAt s (p + 1) = 88) := by unfold bigX; rw [decide_eq_true hlt, Bool.true_and]
                rw [Nat.add_zero] at hx
                clear hm hsz
                generalize byteAt s p = b at *
                generalize byteAt s (p + 1) = c at *
                by_cases hb : b = 48
                · have hb' : ((b : Int) == 48) = true := by simp; omega
                  by_cases hc : c = 120
                  · have hc' : ((c : Int) == 120) = true := by simp; omega
                    have HN := Lib.hid (hn.trans (decide_eq_true ⟨hb, hc⟩))
                    clear hn hn' hb hc
                    go_wp2_with fail
                    go_meet
                    exact ⟨by rw [HN.out]; rfl, rfl⟩
                  · have hc' : ((c : Int) == 120) = false := by simp; omega
                    have HN := Lib.hid (hn.trans (decide_eq_false fun h => hc h.2))
                    by_cases hd : c = 88
                    · have hd' : ((c : Int) == 88) = true := by simp; omega
                      have HN' := Lib.hid (hn'.trans (decide_eq_true ⟨hb, hd⟩))
                      clear hn hn' hb hc hd
                      go_wp2_with fail
                      go_meet
                      exact ⟨by rw [HN.out, HN'.out]; rfl, rfl⟩
                    · have hd' : ((c : Int) == 88) = false := by simp; omega
                      have HN' := Lib.hid (hn'.trans (decide_eq_false fun h => hd h.2))
                      clear hn hn' hb hc hd
                      go_wp2_with fail
                      go_meet
                      exact ⟨by rw [HN.out, HN'.out]; rfl, rfl⟩
                · have hb' : ((b : Int) == 48) = false := by simp; omega
                  have HN := Lib.hid (hn.trans (decide_eq_false fun h => hb h.1))
                  have HN' := Lib.hid (hn'.trans (decide_eq_false fun h => hb h.1))
                  clear hn hn' hb
                  go_wp2_with fail
                  go_meet
                  exact ⟨by rw [HN.out, HN'.out]; rfl, rfl⟩
              · have hz : m.size ≤ 1 := by omega
                have HN := Lib.hid (show lowX s p hi = false by unfold lowX; rw [decide_eq_false hlt]; rfl)
                have HN' := Lib.hid (show bigX s p hi = false by unfold bigX; rw [decide_eq_false hlt]; rfl)
                clear hm hsz
                go_wp2_with fail
                go_meet
                exact ⟨by rw [HN.out, HN'.out]; rfl, rfl⟩
            case rest =>
              obtain ⟨rfl, rfl⟩ := hcut
              rw [restOf] at HC
              have hx2 : (lowX s p hi || bigX s p hi) = true → p + 2 ≤ hi := by
                intro h
                rcases Bool.or_eq_true_iff.1 h with h | h
                · unfold lowX at h; simp at h; omega
                · unfold bigX at h; simp at h; omega
              generalize (lowX s p hi || bigX s p hi) = x at *
              cases x
              · have hres : parseOf s = decOf m.data.toList neg := by rw [HC.out, if_neg (by decide), hm]
                have HR := Lib.hid hres
                clear hres HC hx2
                have hmax : m.size ≤ 1000000000 := by omega
                clear hm hsz hle hhi hs
                go_wp2
                go_loop [5, 6] (fun n i => ∃ (k : Nat) (x : Int), k ≤ m.size ∧ i = .int .i64 k ∧ n = .int .i64 x ∧ x ≤ 0 ∧ -9223372036854775808 ≤ x ∧ Lib.parseUint10 x.natAbs (m.data.toList.drop k) = Lib.parseUint10 0 m.data.toList) (fun _ i => m.size - (intOf i).toNat)
                case atStart => exact ⟨0, 0, by omega, rfl, rfl, by omega, by omega, rfl⟩
                case round =>
                  obtain ⟨k, x, hk, rfl, rfl, hx0, hxm, hr⟩ := hrel
                  have HQ := Lib.hid hr
                  clear hr
                  by_cases hlt : k < m.size
                  · have hlt' : (k : Int) < m.size := by omega
                    have hix := run_index_at (P := Tryz.prog) 9 m (k : Int) k Tryz.underlying9 hlt rfl
                    have hvr := hexV_range (byteAt m k)
                    obtain ⟨v, hv⟩ : ∃ v : Nat, hexV (byteAt m k) = v := ⟨(hexV (byteAt m k)).toNat, by omega⟩
                    have hv15 : v ≤ 15 := by omega
                    have cs := fun w => ref_hex (byteAt m k) w (byteAt_lt m k)
                    rw [hv] at cs
                    have hstop := dec_stop (v := v) neg hlt HQ.out hv
                    have hmore := dec_more (a := x.natAbs) (v := v) hlt
                    by_cases hbad : hexB (byteAt m k) = false ∨ 9 < v ∨ 9223372036854775808 < x.natAbs * 10 + v
                    · have HS := Lib.hid (hstop hbad)
                      cases hbb : hexB (byteAt m k)
                      · rw [hbb] at cs
                        clear hstop hmore hbad hbb hv hvr
                        generalize byteAt m k = b at *
                        go_wp2_with fail
                        refine (cs _).mono ?_
                        rintro e w1 ⟨rfl, rfl⟩
                        go_wp2
                        go_ret2
                        exact parse_r (HR.out.trans HS.out)
                      · rw [hbb] at cs hbad
                        by_cases h9 : 9 < v
                        · clear hstop hmore hbad hbb hv hvr
                          generalize byteAt m k = b at *
                          go_wp2_with fail
                          refine (cs _).mono ?_
                          rintro e w1 ⟨rfl, rfl⟩
                          go_wp2
                          go_ret2
                          exact parse_r (HR.out.trans HS.out)
                        · have hbig : 9223372036854775808 < x.natAbs * 10 + v := by
                            rcases hbad with h | h | h
                            · cases h
                            · omega
                            · exact h
                          by_cases hlow : x < -922337203685477580
                          · have hd1 : decide (x < -922337203685477580) = true := by simp; omega
                            have h9' : ¬ (9 : Int) < v := by omega
                            clear hstop hmore hbad hbb hv hvr hbig
                            generalize byteAt m k = b at *
                            go_wp2_with fail
                            refine (cs _).mono ?_
                            rintro e w1 ⟨rfl, rfl⟩
                            go_wp2
                            go_ret2
                            exact parse_r (HR.out.trans HS.out)
                          · have hxe : x = -922337203685477580 := by omega
                            have hd2 : (x == -922337203685477580) = true := by simp; omega
                            have hd1 : decide (x < -922337203685477580) = false := by simp; omega
                            have h8 : (8 : Int) < v := by omega
                            have h9' : ¬ (9 : Int) < v := by omega
                            clear hstop hmore hbad hbb hv hvr hbig hxe
                            generalize byteAt m k = b at *
                            go_wp2_with fail
                            refine (cs _).mono ?_
                            rintro e w1 ⟨rfl, rfl⟩
                            go_wp2
                            go_ret2
                            exact parse_r (HR.out.trans HS.out)
                    · obtain ⟨hbb, h9, hbig⟩ : hexB (byteAt m k) = true ∧ ¬ 9 < v ∧ ¬ 9223372036854775808 < x.natAbs * 10 + v := by
                        refine ⟨?_, ?_, ?_⟩
                        · cases h : hexB (byteAt m k)
                          · exact absurd (.inl h) hbad
                          · rfl
                        · exact fun h => hbad (.inr (.inl h))
                        · exact fun h => hbad (.inr (.inr h))
                      have hM := (hmore hbb hv (by omega) (by omega)).symm.trans HQ.out
                      have hnab : x.natAbs * 10 + v = (10 * x - (v : Int)).natAbs := by omega
                      rw [hnab] at hM
                      have HM := Lib.hid hM
                      have hlo1 : -9223372036854775808 ≤ 10 * x - (v : Int) := by omega
                      have hlo2 : -9223372036854775808 ≤ 10 * x := by omega
                      have hlo3 : 10 * x - (v : Int) ≤ 0 := by omega
                      have hnl : decide (x < -922337203685477580) = false := by simp; omega
                      have h9' : ¬ (9 : Int) < v := by omega
                      rw [hbb] at cs
                      clear hstop hmore hbad hbb hv hvr hM hnab
                      generalize byteAt m k = b at *
                      by_cases hxe : x = -922337203685477580
                      · have hd2 : (x == -922337203685477580) = true := by simp; omega
                        have h8 : ¬ (8 : Int) < v := by omega
                        clear hbig hxe
                        go_wp2_with fail
                        refine (cs _).mono ?_
                        rintro e w1 ⟨rfl, rfl⟩
                        go_wp2
                        go_round
                        case rel => exact ⟨k + 1, 10 * x - v, by omega, by go_num, rfl, hlo3, hlo1, HM.out⟩
                        case measure => simp only [intOf]; omega
                      · have hd2 : (x == -922337203685477580) = false := by simp; omega
                        clear hbig hxe
                        go_wp2_with fail
                        refine (cs _).mono ?_
                        rintro e w1 ⟨rfl, rfl⟩
                        go_wp2
                        go_round
                        case rel => exact ⟨k + 1, 10 * x - v, by omega, by go_num, rfl, hlo3, hlo1, HM.out⟩
                        case measure => simp only [intOf]; omega
                  · obtain rfl : k = m.size := by omega
                    by_cases hz : m.size = 0
                    · have HN := Lib.hid (HR.out.trans (dec_none neg hz))
                      have hz' : ((m.size : Int) == 0) = true := by rw [hz]; rfl
                      clear hz
                      go_wp2
                      go_ret2
                      exact parse_r HN.out
                    · have hd := dec_done neg (by omega) HQ.out
                      have hz2 : ¬ m = ByteArray.empty := fun h => hz (by rw [h]; rfl)
                      have hz' : ((m.size : Int) == 0) = false := by rw [beq_eq_false_iff_ne]; omega
                      clear hz
                      cases neg
                      · by_cases hxe : x = -9223372036854775808
                        · have hd2 : (x == -9223372036854775808) = true := by simp; omega
                          have HN := Lib.hid (HR.out.trans (hd.trans (if_pos (by rw [show decMost false = 9223372036854775807 from rfl]; omega))))
                          clear hd hxe
                          go_wp2
                          go_ret2
                          exact parse_r HN.out
                        · have hd2 : (x == -9223372036854775808) = false := by simp; omega
                          have hsn : signN false x.natAbs = -x := by unfold signN; rw [if_neg (by decide), IntWalk.wrap64_in _ (by omega)]; omega
                          have HN := Lib.hid (HR.out.trans (hd.trans (if_neg (by rw [show decMost false = 9223372036854775807 from rfl]; omega))))
                          rw [hsn] at HN
                          have hnx : -x ≤ 9223372036854775807 := by omega
                          clear hd hxe hsn
                          go_wp2
                          go_ret2
                          exact parse_r HN.out
                      · have hsn : signN true x.natAbs = x := by unfold signN; rw [if_pos rfl, IntWalk.wrap64_in _ (by omega)]; omega
                        have HN := Lib.hid (HR.out.trans (hd.trans (if_neg (by rw [show decMost true = 9223372036854775808 from rfl]; omega))))
                        rw [hsn] at HN
                        clear hd hsn
                        go_wp2
                        go_ret2
                        exact parse_r HN.out
              · have hy := run_from (P := Tryz.prog) 9 s m p hi 2 hm Tryz.underlying9 (hx2 rfl) hhi 2 rfl
                have hz : (s.extract (p + 2) hi).size ≤ 1000000000 := by rw [part_size hhi]; omega
                have HR := Lib.hid (HC.out.trans (if_pos rfl))
                clear hm hx2 HC
                go_wp2_with fail
                refine (ref_hexadecimal (s.extract (p + 2) hi) neg _ hz).mono ?_
                rintro e w1 ⟨rfl, rfl⟩
                go_wp2
                go_ret2
                exact parse_r (HR.out.trans (by rw [Lib.extract_data]))

end Go.Proofs.YtajeghkmgcpgiaaGreatDoor.Num
