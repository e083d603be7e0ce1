/-
  Bytes: what a text has at a place; the reference's classes of bytes, by contracts.
-/
import Derived.Test.YtajeghkmgcpgiaaGreatDoorRows
import Derived.Test.YtajeghkmgcpgiaaGreatDoorRunesKit
import Derived.WalkKit
import Derived.WalkSpells
import Derived.WalkLawsBesides
import Derived.Lib.Hide
import Derived.Lib.Strings
namespace Go.Proofs.YtajeghkmgcpgiaaGreatDoor
open Go.RowKit

theorem ret_bool {a b : Bool} (h : a = b) : Ending.returned (.bool a) = .returned (.bool b) := by rw [h]
theorem ret_i64 {a b : Int} (h : a = b) : Ending.returned (.int .i64 a) = .returned (.int .i64 b) := by rw [h]

def byteAt (s : ByteArray) (i : Nat) : Nat := (s.get! i).toNat

theorem byteAt_lt (s : ByteArray) (i : Nat) : byteAt s i < 256 := (s.get! i).toNat_lt

theorem get!_mk (l : List UInt8) (i : Nat) (h : i < l.length) : (⟨l.toArray⟩ : ByteArray).get! i = l[i] := by
  simp only [ByteArray.get!]
  simp [h]

theorem run_index_at {P : Program} (t : TypeId) (s : ByteArray) (x : Int) (j : Nat) (h : P.underlying t = some .string) (hj : j < s.size) (hx : x = j) (w : World) :
    (Instr.index t (.string s) (.int .i64 x)).run P w = .ok (.int .u8 (byteAt s j)) w := by
  subst hx
  rw [run_index_string w t s .i64 j h, dif_pos (by omega)]
  obtain ⟨⟨l⟩⟩ := s
  have hl : j < l.length := hj
  unfold byteAt
  rw [get!_mk l j hl]
  rfl

theorem run_slice_at {P : Program} (t : TypeId) (s : ByteArray) (x y : Int) (i j : Nat) (h : P.underlying t = some .string) (hij : i ≤ j) (hj : j ≤ s.size) (hx : x = i) (hy : y = j) (w : World) :
    (Instr.slice t (.string s) (some (.int .i64 x)) (some (.int .i64 y)) none).run P w = .ok (.string (s.extract i j)) w := by
  subst hx hy
  exact run_slice_string w t s .i64 .i64 i j h (by omega) (by omega) (by omega)

def digitB (b : Nat) : Bool := decide (48 ≤ b ∧ b ≤ 57)
def spaceB (b : Nat) : Bool := decide (9 ≤ b ∧ b ≤ 13 ∨ b = 32)
/-- What a byte is worth as a hexadecimal digit. -/
def hexV (b : Nat) : Int := if 48 ≤ b ∧ b ≤ 57 then (b : Int) - 48 else if 97 ≤ b ∧ b ≤ 102 then (b : Int) - 87 else if 65 ≤ b ∧ b ≤ 70 then (b : Int) - 55 else 0
def hexB (b : Nat) : Bool := decide (48 ≤ b ∧ b ≤ 57 ∨ 97 ≤ b ∧ b ≤ 102 ∨ 65 ≤ b ∧ b ≤ 70)

/-- Whether a byte is one of a text's. -/
def inB (b : Nat) (s : ByteArray) : Bool := s.data.toList.any fun c => c.toNat == b

theorem any_take_succ (b : Nat) (s : ByteArray) (k : Nat) (h : k < s.size) (hn : ¬ byteAt s k = b) (ht : (s.data.toList.take k).any (fun c => c.toNat == b) = false) : (s.data.toList.take (k + 1)).any (fun c => c.toNat == b) = false := by
  obtain ⟨⟨l⟩⟩ := s
  have hl : k < l.length := h
  unfold byteAt at hn
  rw [get!_mk l k hl] at hn
  simp only at ht ⊢
  rw [List.take_succ_eq_append_getElem hl, List.any_append, ht]
  simp [hn]

theorem any_hit (b : Nat) (s : ByteArray) (k : Nat) (h : k < s.size) (hn : byteAt s k = b) : inB b s = true := by
  obtain ⟨⟨l⟩⟩ := s
  have hl : k < l.length := h
  unfold byteAt at hn
  rw [get!_mk l k hl] at hn
  unfold inB
  rw [List.any_eq_true]
  exact ⟨l[k], List.getElem_mem hl, by simp [hn]⟩

set_option maxHeartbeats 400000 in
theorem ref_in (b : Nat) (s : ByteArray) (w : World) (hs : s.size ≤ 1000000000) :
    Calls Tryz.prog 46 #[.int .u8 b, .string s] w fun e w' => e = .returned (.bool (inB b s)) ∧ w = w' := by
  go_enter Tryz.func46, Tryz.ntmps46
  go_wp2
  go_loop [5] (fun i => ∃ k : Nat, k ≤ s.size ∧ i = .int .i64 k ∧ (s.data.toList.take k).any (fun c => c.toNat == b) = false) (fun i => s.size - (intOf i).toNat)
  case atStart => exact ⟨0, by omega, rfl, by simp⟩
  case round =>
    obtain ⟨k, hk, rfl, ha⟩ := hrel
    have HA := Lib.hid ha
    clear ha
    by_cases hlt : k < s.size
    · have hlt' : (k : Int) < s.size := by omega
      have hx := run_index_at (P := Tryz.prog) 9 s (k : Int) k Tryz.underlying9 hlt rfl
      have hmore := any_take_succ b s k hlt
      have hhit := any_hit b s k hlt
      have hbl := byteAt_lt s k
      generalize byteAt s k = x at *
      by_cases hxb : x = b
      · have h1 := Lib.hid (hhit hxb)
        have hxb' : ((x : Int) == (b : Int)) = true := by simp [hxb]
        clear hmore hhit hxb
        go_wp2
        go_ret
        exact ⟨ret_bool h1.out.symm, rfl⟩
      · have h1 := Lib.hid (hmore hxb HA.out)
        have hxb' : ((x : Int) == (b : Int)) = false := by simp; omega
        clear hmore hhit hxb
        go_wp2
        go_round
        case rel => exact ⟨k + 1, by omega, by go_num, h1.out⟩
        case measure => simp only [intOf]; omega
    · go_wp2
      go_ret
      have ha := HA.out
      rw [List.take_of_length_le (by have : s.data.toList.length = s.size := rfl
                                     omega)] at ha
      exact ⟨ret_bool ha.symm, rfl⟩

theorem in_space : ∀ b < 256, inB b ⟨#[9, 10, 11, 12, 13, 32]⟩ = spaceB b := by decide +kernel

theorem ref_space (b : Nat) (w : World) (hb : b < 256) :
    Calls Tryz.prog 25 #[.int .u8 b] w fun e w' => e = .returned (.bool (spaceB b)) ∧ w = w' := by
  go_enter Tryz.func25, Tryz.ntmps25
  go_wp2_with (go_at_call 46; refine (ref_in b ⟨#[9, 10, 11, 12, 13, 32]⟩ _ (by decide)).mono ?_; rintro e w' ⟨rfl, rfl⟩)
  go_ret
  exact ⟨ret_bool (in_space b hb), rfl⟩

def lowHex : ByteArray := ⟨#[48, 49, 50, 51, 52, 53, 54, 55, 56, 57, 97, 98, 99, 100, 101, 102]⟩
def upHex : ByteArray := ⟨#[48, 49, 50, 51, 52, 53, 54, 55, 56, 57, 65, 66, 67, 68, 69, 70]⟩
theorem low_at : ∀ k < 16, byteAt lowHex k = if k < 10 then 48 + k else 87 + k := by decide +kernel
theorem up_at : ∀ k < 16, byteAt upHex k = if k < 10 then 48 + k else 55 + k := by decide +kernel

set_option maxHeartbeats 1000000 in
theorem ref_hex (b : Nat) (w : World) (hb : b < 256) :
    Calls Tryz.prog 97 #[.int .u8 b] w fun e w' => e = .returned (.tuple #[.int .i64 (hexV b), .bool (hexB b)]) ∧ w = w' := by
  go_enter Tryz.func97, Tryz.ntmps97
  go_wp2
  go_loop [4] (fun i => ∃ k : Nat, k ≤ 16 ∧ i = .int .i64 k ∧ ∀ j, j < k → ¬ (byteAt lowHex j = b ∨ byteAt upHex j = b)) (fun i => 16 - (intOf i).toNat)
  case atStart => exact ⟨0, by omega, rfl, fun j h => by omega⟩
  case round =>
    obtain ⟨k, hk, rfl, ha⟩ := hrel
    have HA := Lib.hid ha
    clear ha
    by_cases hlt : k < 16
    · have hx := run_index_at (P := Tryz.prog) 9 lowHex (k : Int) k Tryz.underlying9 hlt rfl
      have hy := run_index_at (P := Tryz.prog) 9 upHex (k : Int) k Tryz.underlying9 hlt rfl
      have hl := low_at k hlt
      have hu := up_at k hlt
      have hmore : ¬ (byteAt lowHex k = b ∨ byteAt upHex k = b) → ∀ j, j < k + 1 → ¬ (byteAt lowHex j = b ∨ byteAt upHex j = b) := fun hn j hj => by
        by_cases e : j = k
        · rw [e]; exact hn
        · exact HA.out j (by omega)
      have HM := Lib.hid hmore
      clear hmore
      unfold lowHex at hx
      unfold upHex at hy
      have hval : byteAt lowHex k = b ∨ byteAt upHex k = b → hexV b = k ∧ hexB b = true := by
        intro h
        rw [hl, hu] at h
        refine ⟨?_, ?_⟩
        · unfold hexV
          by_cases hk10 : k < 10
          · rw [if_pos hk10, if_pos hk10] at h
            rw [if_pos (by omega)]; omega
          · rw [if_neg hk10, if_neg hk10] at h
            rw [if_neg (by omega)]
            by_cases h97 : 97 ≤ b ∧ b ≤ 102
            · rw [if_pos h97]; omega
            · rw [if_neg h97, if_pos (by omega)]; omega
        · unfold hexB
          by_cases hk10 : k < 10
          · rw [if_pos hk10, if_pos hk10] at h
            rw [decide_eq_true (by omega)]
          · rw [if_neg hk10, if_neg hk10] at h
            rw [decide_eq_true (by omega)]
      have hxl : byteAt lowHex k = byteAt ⟨#[48, 49, 50, 51, 52, 53, 54, 55, 56, 57, 97, 98, 99, 100, 101, 102]⟩ k := rfl
      have hxu : byteAt upHex k = byteAt ⟨#[48, 49, 50, 51, 52, 53, 54, 55, 56, 57, 65, 66, 67, 68, 69, 70]⟩ k := rfl
      rw [← hxl] at hx
      rw [← hxu] at hy
      generalize byteAt lowHex k = x at *
      generalize byteAt upHex k = y at *
      clear hxl hxu hl hu
      by_cases h1 : x = b
      · have h2 := Lib.hid (hval (Or.inl h1))
        have h1' : ((x : Int) == (b : Int)) = true := by simp [h1]
        clear hval h1
        go_wp2
        go_ret2
        exact ⟨by rw [h2.out.1, h2.out.2]; rfl, rfl⟩
      · have h1' : ((x : Int) == (b : Int)) = false := by simp; omega
        by_cases h3 : y = b
        · have h2 := Lib.hid (hval (Or.inr h3))
          have h3' : ((y : Int) == (b : Int)) = true := by simp [h3]
          clear hval h1 h3
          go_wp2
          go_ret2
          exact ⟨by rw [h2.out.1, h2.out.2]; rfl, rfl⟩
        · have h3' : ((y : Int) == (b : Int)) = false := by simp; omega
          have hno : ¬ (x = b ∨ y = b) := by omega
          have HN := Lib.hid (HM.out hno)
          clear hval h1 h3 hno
          go_wp2
          go_round
          case rel => exact ⟨k + 1, by omega, by go_num, HN.out⟩
          case measure => simp only [intOf]; omega
    · have hk16 : k = 16 := by omega
      subst hk16
      have hno : ∀ b < 256, (∀ j, j < 16 → ¬ (byteAt lowHex j = b ∨ byteAt upHex j = b)) → hexV b = 0 ∧ hexB b = false := by decide +kernel
      have HN := Lib.hid (hno b hb HA.out)
      clear hno
      go_wp2
      go_ret2
      exact ⟨by rw [HN.out.1, HN.out.2]; rfl, rfl⟩


theorem drop_at (s : ByteArray) (k : Nat) (h : k < s.size) : ∃ c : UInt8, c.toNat = byteAt s k ∧ s.data.toList.drop k = c :: s.data.toList.drop (k + 1) := by
  obtain ⟨⟨l⟩⟩ := s
  have hl : k < l.length := h
  refine ⟨l[k], ?_, List.drop_eq_getElem_cons hl⟩
  unfold byteAt; rw [get!_mk l k hl]
theorem drop_end (s : ByteArray) : s.data.toList.drop s.size = [] := List.drop_of_length_le (Nat.le_refl _)

theorem hexV_range (b : Nat) : 0 ≤ hexV b ∧ hexV b ≤ 15 := by unfold hexV; split; · omega
                                                              split; · omega
                                                              split <;> omega

theorem byte_of {s : ByteArray} {i : Nat} {c : UInt8} (h : s.data.toList[i]? = some c) : byteAt s i = c.toNat := by
  obtain ⟨⟨l⟩⟩ := s
  obtain ⟨hi, hc⟩ := List.getElem?_eq_some_iff.1 h
  unfold byteAt
  rw [get!_mk l i hi, ← hc]
theorem cat_list (a b : ByteArray) : (a ++ b).data.toList = a.data.toList ++ b.data.toList := by simp

end Go.Proofs.YtajeghkmgcpgiaaGreatDoor
