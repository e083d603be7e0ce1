/-
  twinstepref03.Part, by contract.
-/
import Derived.Test.YtajeghkmgcpgiaaGreatDoorTextsB
import Derived.Test.YtajeghkmgcpgiaaGreatDoorTextsEncode
namespace Go.Proofs.YtajeghkmgcpgiaaGreatDoor
open Go.RowKit

/-- What Part answers. -/
def partT (q : Nat) (l : List UInt8) : ByteArray := match partL q l with | some (t, _) => ⟨t.toArray⟩ | none => ⟨#[]⟩
def partK (q : Nat) (l : List UInt8) : Nat := match partL q l with | some (_, k) => k | none => 0
def PartIs (s : ByteArray) (p q : Nat) (w : World) (e : Ending) (w' : World) : Prop :=
  e = .returned (.tuple #[.string (partT q (s.data.toList.drop p)), .int .i64 (partK q (s.data.toList.drop p) : Nat)]) ∧ Below w.heap.size w w'
theorem part_none {s : ByteArray} {p q : Nat} {w w' : World} (h : partL q (s.data.toList.drop p) = none) (hb : Below w.heap.size w w') : PartIs s p q w (.returned (.tuple #[.string ⟨#[]⟩, .int .i64 0])) w' := by
  refine ⟨?_, hb⟩
  rw [partT, partK, h]
  rfl
theorem part_some {s T : ByteArray} {p q k : Nat} {t : List UInt8} {w w' : World} {x : Int} (h : partL q (s.data.toList.drop p) = some (t, k)) (hT : T.data.toList = t) (hx : x = k) (hb : Below w.heap.size w w') :
    PartIs s p q w (.returned (.tuple #[.string T, .int .i64 x])) w' := by
  refine ⟨?_, hb⟩
  obtain ⟨⟨l⟩⟩ := T
  subst hT hx
  rw [partT, partK, h]

/-! ### The ways, as equations -/
theorem part_end {s : ByteArray} {p q : Nat} (h : s.size ≤ p) : partL q (s.data.toList.drop p) = none := by
  rw [List.drop_of_length_le (by have : s.data.toList.length = s.size := rfl
                                 omega)]; rfl
theorem part_bad {s : ByteArray} {p q : Nat} (h : p < s.size) (hc : byteAt s p = q ∨ byteAt s p = 10 ∨ byteAt s p = 13) : partL q (s.data.toList.drop p) = none := by
  obtain ⟨c, e, hd⟩ := drop_at s p h
  rw [hd, partL, e, if_pos hc]
theorem part_plain {s : ByteArray} {p q : Nat} (h : p < s.size) (hc : ¬ (byteAt s p = q ∨ byteAt s p = 10 ∨ byteAt s p = 13)) (h92 : byteAt s p ≠ 92) :
    partL q (s.data.toList.drop p) = some ((s.extract p (p + 1)).data.toList, 1) := by
  obtain ⟨c, e, hd⟩ := drop_at s p h
  rw [Lib.extract_data, hd, partL, e, if_neg hc, if_neg h92, show p + 1 - p = 1 from by omega]; rfl
theorem part_esc {s : ByteArray} {p q : Nat} (h : p < s.size) (hc : ¬ (byteAt s p = q ∨ byteAt s p = 10 ∨ byteAt s p = 13)) (h92 : byteAt s p = 92) :
    partL q (s.data.toList.drop p) = escL (s.data.toList.drop (p + 1)) := by
  obtain ⟨c, e, hd⟩ := drop_at s p h
  rw [hd, partL, e, if_neg hc, if_pos h92]
theorem esc_end {s : ByteArray} {p : Nat} (h : s.size ≤ p) : escL (s.data.toList.drop p) = none := by
  rw [List.drop_of_length_le (by have : s.data.toList.length = s.size := rfl
                                 omega)]; rfl
theorem esc_line {s : ByteArray} {p : Nat} (h : p < s.size) (hb : byteAt s p = 10 ∨ byteAt s p = 13) :
    escL (s.data.toList.drop p) = some ([10], if isB s (p + 1) (23 - byteAt s p) = true then 3 else 2) := by
  obtain ⟨c, e, hd⟩ := drop_at s p h
  rw [isB_starts, hd, escL, e, if_pos hb]
theorem esc_letter {s : ByteArray} {p v : Nat} (h : p < s.size) (hb : ¬ (byteAt s p = 10 ∨ byteAt s p = 13)) (hv : letterN (byteAt s p) = some v) :
    escL (s.data.toList.drop p) = some ([UInt8.ofNat v], 2) := by
  obtain ⟨c, e, hd⟩ := drop_at s p h
  rw [hd, escL, e, if_neg hb, hv]
theorem esc_x {s : ByteArray} {p : Nat} (h : p < s.size) (hx : byteAt s p = 120) :
    escL (s.data.toList.drop p) = if (runN 16 2 (s.data.toList.drop (p + 1)) 0).2 = 2 then some ([UInt8.ofNat (runN 16 2 (s.data.toList.drop (p + 1)) 0).1], 4) else none := by
  obtain ⟨c, e, hd⟩ := drop_at s p h
  rw [hd, escL, e, hx, if_neg (by decide), show letterN 120 = none from rfl]
  rfl
theorem esc_z {s : ByteArray} {p : Nat} (h : p < s.size) (hz : byteAt s p = 122) : escL (s.data.toList.drop p) = some ([], blanks (s.data.toList.drop (p + 1)) + 2) := by
  obtain ⟨c, e, hd⟩ := drop_at s p h
  rw [hd, escL, e, hz, if_neg (by decide), show letterN 122 = none from rfl]
  rfl
theorem esc_u {s : ByteArray} {p : Nat} (h : p < s.size) (hu : byteAt s p = 117) (hs : isB s (p + 1) 123 = true) :
    escL (s.data.toList.drop p) = if 0 < (runN 16 s.size (s.data.toList.drop (p + 2)) 0).2 ∧ (runN 16 s.size (s.data.toList.drop (p + 2)) 0).1 < 2147483648 ∧ isB s (p + 2 + (runN 16 s.size (s.data.toList.drop (p + 2)) 0).2) 125 = true
      then some ((bytesOf (encI (runN 16 s.size (s.data.toList.drop (p + 2)) 0).1)).data.toList, (runN 16 s.size (s.data.toList.drop (p + 2)) 0).2 + 4) else none := by
  obtain ⟨c, e, hd⟩ := drop_at s p h
  have hl : s.data.toList.length = s.size := rfl
  have hr : runN 16 (s.data.toList.drop (p + 1)).length ((s.data.toList.drop (p + 1)).drop 1) 0 = runN 16 s.size (s.data.toList.drop (p + 2)) 0 := by
    rw [List.drop_drop]
    exact run_most _ _ _ _ _ (by simp only [List.length_drop]; omega) (by simp only [List.length_drop]; omega)
  rw [isB_starts] at hs ⊢
  rw [hd, escL, e, hu, if_neg (by decide), show letterN 117 = none from rfl]
  simp only []
  rw [if_neg (by decide), if_neg (by decide), if_pos ⟨trivial, hs⟩, hr, List.drop_drop, show p + 1 + (1 + (runN 16 s.size (s.data.toList.drop (p + 2)) 0).2) = p + 2 + (runN 16 s.size (s.data.toList.drop (p + 2)) 0).2 from by omega]
theorem esc_num {s : ByteArray} {p : Nat} (h : p < s.size) (hb : ¬ (byteAt s p = 10 ∨ byteAt s p = 13)) (hl : letterN (byteAt s p) = none) (hx : byteAt s p ≠ 120) (hz : byteAt s p ≠ 122) (hu : ¬ (byteAt s p = 117 ∧ isB s (p + 1) 123 = true)) :
    escL (s.data.toList.drop p) = if 0 < (runN 10 3 (s.data.toList.drop p) 0).2 ∧ (runN 10 3 (s.data.toList.drop p) 0).1 ≤ 255 then some ([UInt8.ofNat (runN 10 3 (s.data.toList.drop p) 0).1], (runN 10 3 (s.data.toList.drop p) 0).2 + 1) else none := by
  obtain ⟨c, e, hd⟩ := drop_at s p h
  rw [isB_starts] at hu
  rw [hd, escL, e, if_neg hb, hl]
  simp only []
  rw [if_neg hx, if_neg hz, if_neg hu]

theorem run_bound (base : Nat) (hb : 1 ≤ base) : ∀ (m : Nat) (l : List UInt8) (a : Nat), (runN base m l a).1 + 1 ≤ (a + 1) * base ^ m
  | 0, _, a => by simp [runN]
  | m + 1, [], a => by
    show a + 1 ≤ _
    exact Nat.le_mul_of_pos_right _ (Nat.pow_pos hb)
  | m + 1, c :: r, a => by
    have ha : a + 1 ≤ (a + 1) * base ^ (m + 1) := Nat.le_mul_of_pos_right _ (Nat.pow_pos hb)
    unfold runN
    cases hexD c.toNat with
    | none => exact ha
    | some d =>
      simp only []
      split
      · rename_i hd
        have := run_bound base hb m r (a * base + d)
        refine Nat.le_trans this ?_
        rw [Nat.pow_succ, Nat.mul_comm (base ^ m) base, ← Nat.mul_assoc]
        exact Nat.mul_le_mul_right _ (by rw [Nat.add_mul]; omega)
      · exact ha
theorem run_count (base : Nat) : ∀ (m : Nat) (l : List UInt8) (a : Nat), (runN base m l a).2 ≤ l.length
  | 0, _, _ => by simp [runN]
  | m + 1, [], a => by simp [runN]
  | m + 1, c :: r, a => by
    unfold runN
    cases hexD c.toNat with
    | none => simp
    | some d =>
      simp only []
      split
      · have := run_count base m r (a * base + d); simpa using this
      · simp
theorem dec_number (l : List UInt8) : stopN 10 3 l 0 = runN 10 3 l 0 := stop_run 10 (by decide) 3 l 0 (by have := run_bound 10 (by decide) 3 l 0; omega)
theorem hex_number (l : List UInt8) : stopN 16 2 l 0 = runN 16 2 l 0 := stop_run 16 (by decide) 2 l 0 (by have := run_bound 16 (by decide) 2 l 0; omega)

theorem blanks_yes {s : ByteArray} {p : Nat} (h : p < s.size) (hb : spaceB (byteAt s p) = true) : blanks (s.data.toList.drop p) = blanks (s.data.toList.drop (p + 1)) + 1 := by
  obtain ⟨c, e, hd⟩ := drop_at s p h
  rw [hd, blanks, e]
  exact if_pos hb
theorem blanks_no {s : ByteArray} {p : Nat} (h : p < s.size) (hb : spaceB (byteAt s p) = false) : blanks (s.data.toList.drop p) = 0 := by
  obtain ⟨c, e, hd⟩ := drop_at s p h
  rw [hd, blanks, e]
  exact if_neg (by show ¬ spaceB (byteAt s p) = true; rw [hb]; decide)
theorem blanks_end {s : ByteArray} {p : Nat} (h : s.size ≤ p) : blanks (s.data.toList.drop p) = 0 := by
  rw [List.drop_of_length_le (by have : s.data.toList.length = s.size := rfl
                                 omega)]; rfl

/-! ### The walks -/
set_option maxHeartbeats 2000000 in
set_option maxRecDepth 100000 in
theorem ref_part_end (s : ByteArray) (p q : Nat) (w : World) (h : s.size ≤ p) :
    Calls Tryz.prog 81 #[.string s, .int .i64 p, .int .u8 q] w (PartIs s p q w) := by
  have hp : (s.size : Int) ≤ p := by omega
  have HR := Lib.hid (part_end (q := q) h)
  go_enter Tryz.func81, Tryz.ntmps81
  go_wp2
  go_ret2
  exact part_none HR.out (Below.refl _ _)

set_option maxHeartbeats 2000000 in
set_option maxRecDepth 100000 in
theorem ref_part_bad (s : ByteArray) (p q : Nat) (w : World) (h : p < s.size) (hc : byteAt s p = q ∨ byteAt s p = 10 ∨ byteAt s p = 13) :
    Calls Tryz.prog 81 #[.string s, .int .i64 p, .int .u8 q] w (PartIs s p q w) := by
  have hp : (p : Int) < s.size := by omega
  have HR := Lib.hid (part_bad h hc)
  have hx := run_index_at (P := Tryz.prog) 9 s (p : Int) p Tryz.underlying9 h rfl
  generalize byteAt s p = c at *
  by_cases h1 : c = q
  · have t1 : ((c : Int) == (q : Int)) = true := by simp; omega
    clear hc h1
    go_enter Tryz.func81, Tryz.ntmps81
    go_wp2
    go_ret2
    exact part_none HR.out (Below.refl _ _)
  · have t1 : ((c : Int) == (q : Int)) = false := by simp; omega
    by_cases h2 : c = 10
    · have t2 : ((c : Int) == 10) = true := by simp; omega
      clear hc h1 h2
      go_enter Tryz.func81, Tryz.ntmps81
      go_wp2
      go_ret2
      exact part_none HR.out (Below.refl _ _)
    · have t2 : ((c : Int) == 10) = false := by simp; omega
      have t3 : ((c : Int) == 13) = true := by simp; omega
      clear hc h1 h2
      go_enter Tryz.func81, Tryz.ntmps81
      go_wp2
      go_ret2
      exact part_none HR.out (Below.refl _ _)

set_option maxHeartbeats 2000000 in
set_option maxRecDepth 100000 in
theorem ref_part_plain (s : ByteArray) (p q : Nat) (w : World) (hs : s.size ≤ 1000000000) (h : p < s.size) (hc : ¬ (byteAt s p = q ∨ byteAt s p = 10 ∨ byteAt s p = 13)) (h92 : byteAt s p ≠ 92) :
    Calls Tryz.prog 81 #[.string s, .int .i64 p, .int .u8 q] w (PartIs s p q w) := by
  have hp : (p : Int) < s.size := by omega
  have hx := run_index_at (P := Tryz.prog) 9 s (p : Int) p Tryz.underlying9 h rfl
  have t1 : (((byteAt s p : Nat) : Int) == (q : Int)) = false := by rw [beq_eq_false_iff_ne]; omega
  have t2 : (((byteAt s p : Nat) : Int) == 10) = false := by rw [beq_eq_false_iff_ne]; omega
  have t3 : (((byteAt s p : Nat) : Int) == 13) = false := by rw [beq_eq_false_iff_ne]; omega
  have t4 : (((byteAt s p : Nat) : Int) != 92) = true := by rw [bne_iff_ne]; omega
  have hy := run_slice_at (P := Tryz.prog) 9 s (p : Int) ((p : Int) + 1) p (p + 1) Tryz.underlying9 (by omega) (by omega) rfl (by omega)
  have HR := Lib.hid (part_plain h hc h92)
  generalize byteAt s p = c at *
  clear hc h92
  go_enter Tryz.func81, Tryz.ntmps81
  go_wp2
  go_ret2
  exact part_some HR.out rfl rfl (Below.refl _ _)

set_option maxHeartbeats 2000000 in
set_option maxRecDepth 100000 in
theorem ref_part_last (s : ByteArray) (p q : Nat) (w : World) (hs : s.size ≤ 1000000000) (h : p < s.size) (hc : ¬ (byteAt s p = q ∨ byteAt s p = 10 ∨ byteAt s p = 13)) (h92 : byteAt s p = 92) (h1 : s.size ≤ p + 1) :
    Calls Tryz.prog 81 #[.string s, .int .i64 p, .int .u8 q] w (PartIs s p q w) := by
  have hp : (p : Int) < s.size := by omega
  have hx := run_index_at (P := Tryz.prog) 9 s (p : Int) p Tryz.underlying9 h rfl
  have t1 : (((byteAt s p : Nat) : Int) == (q : Int)) = false := by rw [beq_eq_false_iff_ne]; omega
  have t2 : (((byteAt s p : Nat) : Int) == 10) = false := by rw [beq_eq_false_iff_ne]; omega
  have t3 : (((byteAt s p : Nat) : Int) == 13) = false := by rw [beq_eq_false_iff_ne]; omega
  have t4 : (((byteAt s p : Nat) : Int) != 92) = false := by rw [h92]; rfl
  have HE := part_esc h hc h92
  have hp1 : (s.size : Int) ≤ (p : Int) + 1 := by omega
  have HR := Lib.hid (HE.trans (esc_end h1))
  clear HE h92 hc
  generalize byteAt s p = c at *
  go_enter Tryz.func81, Tryz.ntmps81
  go_wp2
  go_ret2
  exact part_none HR.out (Below.refl _ _)

set_option maxHeartbeats 2000000 in
set_option maxRecDepth 100000 in
theorem ref_part_lf (s : ByteArray) (p q : Nat) (w : World) (hs : s.size ≤ 1000000000) (h : p < s.size) (hc : ¬ (byteAt s p = q ∨ byteAt s p = 10 ∨ byteAt s p = 13)) (h92 : byteAt s p = 92) (h1 : p + 1 < s.size) (hb : byteAt s (p + 1) = 10) :
    Calls Tryz.prog 81 #[.string s, .int .i64 p, .int .u8 q] w (PartIs s p q w) := by
  have hp : (p : Int) < s.size := by omega
  have hx := run_index_at (P := Tryz.prog) 9 s (p : Int) p Tryz.underlying9 h rfl
  have t1 : (((byteAt s p : Nat) : Int) == (q : Int)) = false := by rw [beq_eq_false_iff_ne]; omega
  have t2 : (((byteAt s p : Nat) : Int) == 10) = false := by rw [beq_eq_false_iff_ne]; omega
  have t3 : (((byteAt s p : Nat) : Int) == 13) = false := by rw [beq_eq_false_iff_ne]; omega
  have t4 : (((byteAt s p : Nat) : Int) != 92) = false := by rw [h92]; rfl
  have HE := part_esc h hc h92
  have hp1 : (p : Int) + 1 < s.size := by omega
  have hz := run_index_at (P := Tryz.prog) 9 s ((p : Int) + 1) (p + 1) Tryz.underlying9 h1 (by omega)
  have HR := HE.trans (esc_line h1 (by omega))
  rw [hb] at hz HR
  rw [show (((10 : Nat)) : Int) = 10 from rfl] at hz
  rw [show 23 - 10 = 13 from rfl] at HR
  have ci := fun w => ref_is s (p + 1 + 1) 13 w
  rw [show (((p + 1 + 1 : Nat)) : Int) = (p : Int) + 1 + 1 from by omega, show (((13 : Nat)) : Int) = 13 from rfl] at ci
  clear HE h92 hc hb
  generalize byteAt s p = c at *
  cases hi : isB s (p + 1 + 1) 13
  · rw [hi] at ci HR
    have HQ := Lib.hid HR
    clear HR hi
    go_enter Tryz.func81, Tryz.ntmps81
    go_wp2_with fail
    refine (ci _).mono ?_
    rintro e w1 ⟨rfl, rfl⟩
    go_wp2
    go_ret2
    exact part_some HQ.out rfl rfl (Below.refl _ _)
  · rw [hi] at ci HR
    have HQ := Lib.hid HR
    clear HR hi
    go_enter Tryz.func81, Tryz.ntmps81
    go_wp2_with fail
    refine (ci _).mono ?_
    rintro e w1 ⟨rfl, rfl⟩
    go_wp2
    go_ret2
    exact part_some HQ.out rfl rfl (Below.refl _ _)

set_option maxHeartbeats 2000000 in
set_option maxRecDepth 100000 in
theorem ref_part_cr (s : ByteArray) (p q : Nat) (w : World) (hs : s.size ≤ 1000000000) (h : p < s.size) (hc : ¬ (byteAt s p = q ∨ byteAt s p = 10 ∨ byteAt s p = 13)) (h92 : byteAt s p = 92) (h1 : p + 1 < s.size) (hb : byteAt s (p + 1) = 13) :
    Calls Tryz.prog 81 #[.string s, .int .i64 p, .int .u8 q] w (PartIs s p q w) := by
  have hp : (p : Int) < s.size := by omega
  have hx := run_index_at (P := Tryz.prog) 9 s (p : Int) p Tryz.underlying9 h rfl
  have t1 : (((byteAt s p : Nat) : Int) == (q : Int)) = false := by rw [beq_eq_false_iff_ne]; omega
  have t2 : (((byteAt s p : Nat) : Int) == 10) = false := by rw [beq_eq_false_iff_ne]; omega
  have t3 : (((byteAt s p : Nat) : Int) == 13) = false := by rw [beq_eq_false_iff_ne]; omega
  have t4 : (((byteAt s p : Nat) : Int) != 92) = false := by rw [h92]; rfl
  have HE := part_esc h hc h92
  have hp1 : (p : Int) + 1 < s.size := by omega
  have hz := run_index_at (P := Tryz.prog) 9 s ((p : Int) + 1) (p + 1) Tryz.underlying9 h1 (by omega)
  have HR := HE.trans (esc_line h1 (by omega))
  rw [hb] at hz HR
  rw [show (((13 : Nat)) : Int) = 13 from rfl] at hz
  rw [show 23 - 13 = 10 from rfl] at HR
  have ci := fun w => ref_is s (p + 1 + 1) 10 w
  rw [show (((p + 1 + 1 : Nat)) : Int) = (p : Int) + 1 + 1 from by omega, show (((10 : Nat)) : Int) = 10 from rfl] at ci
  clear HE h92 hc hb
  generalize byteAt s p = c at *
  cases hi : isB s (p + 1 + 1) 10
  · rw [hi] at ci HR
    have HQ := Lib.hid HR
    clear HR hi
    go_enter Tryz.func81, Tryz.ntmps81
    go_wp2_with fail
    refine (ci _).mono ?_
    rintro e w1 ⟨rfl, rfl⟩
    go_wp2
    go_ret2
    exact part_some HQ.out rfl rfl (Below.refl _ _)
  · rw [hi] at ci HR
    have HQ := Lib.hid HR
    clear HR hi
    go_enter Tryz.func81, Tryz.ntmps81
    go_wp2_with fail
    refine (ci _).mono ?_
    rintro e w1 ⟨rfl, rfl⟩
    go_wp2
    go_ret2
    exact part_some HQ.out rfl rfl (Below.refl _ _)

end Go.Proofs.YtajeghkmgcpgiaaGreatDoor
