/-
  strings.HasPrefix at the three bytes of the character 65533, and runes.Valid, by contracts.
-/
import Derived.Test.YtfciilkngmdlbaaRunesC
import Derived.Test.YtfciilkngmdlbaaRunesOne
namespace Go.Proofs.Ytfciilkngmdlbaa
open Go.RowKit

/-- Whether a text begins with the character 65533 as bytes. -/
def hasRep (s : ByteArray) : Bool := decide (3 ≤ s.size) && ((s.extract 0 3).toList == [239, 191, 189])

set_option maxHeartbeats 400000 in
theorem hasPrefix3 (s : ByteArray) (w : World) :
    Calls Try.prog 28 #[.string s, .string ⟨#[239, 191, 189]⟩] w fun e w' => e = .returned (.bool (hasRep s)) ∧ w = w' := by
  by_cases h : 3 ≤ s.size
  · have h3 : (3 : Int) ≤ s.size := by omega
    go_enter Try.func28, Try.ntmps28
    go_wp2
    go_ret
    refine ⟨?_, rfl⟩
    simp [hasRep, h]
  · have h3 : ¬ (3 : Int) ≤ s.size := by omega
    go_enter Try.func28, Try.ntmps28
    go_wp2
    go_ret
    refine ⟨?_, rfl⟩
    simp [hasRep, h]

theorem hasPrefix3s (s : ByteArray) (w : World) :
    Calls Try.prog 26 #[.string s, .string ⟨#[239, 191, 189]⟩] w fun e w' => e = .returned (.bool (hasRep s)) ∧ w = w' := by
  go_enter Try.func26, Try.ntmps26
  go_wp2_with (go_at_call 28; refine (hasPrefix3 _ _).mono ?_; rintro e w' ⟨rfl, rfl⟩)
  go_ret
  exact ⟨rfl, rfl⟩

theorem take3 (l : List UInt8) (i : Nat) (h : i + 3 ≤ l.length) : (l.drop i).take 3 = [l[i], l[i + 1], l[i + 2]] := by
  rw [List.drop_eq_getElem_cons (by omega), List.drop_eq_getElem_cons (by omega), List.drop_eq_getElem_cons (by omega)]
  rfl

set_option maxRecDepth 100000 in
set_option maxHeartbeats 2000000 in
theorem decodeN_rep (n b0 b1 b2 b3 : Nat) (h0 : b0 < 256) (_h1 : b1 < 256) (_h2 : b2 < 256) (_h3 : b3 < 256) (h : (Lib.decodeN n b0 b1 b2 b3).1 = 65533) :
    (3 ≤ n ∧ b0 = 239 ∧ b1 = 191 ∧ b2 = 189) ↔ ¬ (Lib.decodeN n b0 b1 b2 b3).2 = 1 := by
  unfold Lib.decodeN at h ⊢
  by_cases c1 : b0 < 128
  · rw [if_pos c1] at h ⊢; simp only at h ⊢; omega
  rw [if_neg c1] at h ⊢
  by_cases c2 : b0 / 32 = 6 ∧ 1 < n ∧ b1 / 64 = 2
  · rw [if_pos c2] at h ⊢
    split at h
    · simp only at h; omega
    · rw [if_neg (by assumption)]; exact ⟨fun _ => by omega, fun hh => absurd rfl hh⟩
  rw [if_neg c2] at h ⊢
  by_cases c3 : b0 / 16 = 14 ∧ (1 < n ∧ b1 / 64 = 2) ∧ 2 < n ∧ b2 / 64 = 2
  · rw [if_pos c3] at h ⊢
    split at h
    · rw [if_pos (by assumption)]; simp only at h ⊢; omega
    · rw [if_neg (by assumption)]; exact ⟨fun _ => by omega, fun hh => absurd rfl hh⟩
  rw [if_neg c3] at h ⊢
  by_cases c4 : b0 / 8 = 30 ∧ (1 < n ∧ b1 / 64 = 2) ∧ (2 < n ∧ b2 / 64 = 2) ∧ 3 < n ∧ b3 / 64 = 2
  · rw [if_pos c4] at h ⊢
    split at h
    · simp only at h; omega
    · rw [if_neg (by assumption)]; exact ⟨fun _ => by omega, fun hh => absurd rfl hh⟩
  rw [if_neg c4]
  exact ⟨fun _ => by omega, fun hh => absurd rfl hh⟩

/-- Whether a character 65533 that the decoder tells is one that the text has. -/
theorem hasRep_dec (s : ByteArray) (i : Nat) (h : i < s.size) (hr : (Utf8.decode s i).1 = 65533) : hasRep (s.extract i s.size) = !(decide ((Utf8.decode s i).2 = 1)) := by
  have hd := Lib.decode_at s i
  have hw := dec_width s i h
  have hz : (s.extract i s.size).size = s.size - i := by rw [ByteArray.size_extract]; omega
  by_cases h3 : i + 3 ≤ s.size
  · have hb : ((s.extract i s.size).extract 0 3).toList = [s.get! i, s.get! (i + 1), s.get! (i + 2)] := by
      obtain ⟨⟨l⟩⟩ := s
      have hl : i + 3 ≤ l.length := h3
      have e1 : (ByteArray.mk l.toArray).size = l.length := rfl
      rw [get!_mk l i (by omega), get!_mk l (i + 1) (by omega), get!_mk l (i + 2) (by omega), e1, ByteArray.extract_mk, ByteArray.extract_mk, ByteArray.toList_mk, List.drop_zero, List.take_take, ← take3 l i hl]
      congr 1
      omega
    unfold hasRep
    rw [hz, hb]
    have n0 := (s.get! i).toNat_lt
    have n1 := (s.get! (i + 1)).toNat_lt
    have n2 := (s.get! (i + 2)).toNat_lt
    have n3 := (s.get! (i + 3)).toNat_lt
    have he : ([s.get! i, s.get! (i + 1), s.get! (i + 2)] == ([239, 191, 189] : List UInt8)) = decide ((s.get! i).toNat = 239 ∧ (s.get! (i + 1)).toNat = 191 ∧ (s.get! (i + 2)).toNat = 189) := by
      rw [Bool.eq_iff_iff]
      simp [← UInt8.toNat_inj]
    rw [he]
    generalize (s.get! i).toNat = b0 at *
    generalize (s.get! (i + 1)).toNat = b1 at *
    generalize (s.get! (i + 2)).toNat = b2 at *
    generalize (s.get! (i + 3)).toNat = b3 at *
    rw [hd] at hr ⊢
    have R := decodeN_rep (s.size - i) b0 b1 b2 b3 n0 n1 n2 n3 hr
    rw [decide_eq_true (show 3 ≤ s.size - i by omega), Bool.true_and, ← decide_not, decide_eq_decide, ← R]
    exact ⟨fun h => ⟨by omega, h⟩, fun h => h.2⟩
  · have : ¬ 3 ≤ (s.extract i s.size).size := by omega
    unfold hasRep
    rw [decide_eq_false this, Bool.false_and]
    rw [hd] at hr ⊢
    have R := decodeN_rep (s.size - i) _ _ _ _ (s.get! i).toNat_lt (s.get! (i + 1)).toNat_lt (s.get! (i + 2)).toNat_lt (s.get! (i + 3)).toNat_lt hr
    rw [← decide_not, eq_comm, decide_eq_false_iff_not, ← R]
    omega

def ValidPost (s : ByteArray) (w : World) (e : Ending) (w' : World) : Prop := e = .returned (.bool (validAt s 0)) ∧ Below w.heap.size w w'

def ValidRel (s : ByteArray) (w : World) (wr : World) : Prop :=
  ∃ pos : Nat, Below w.heap.size w wr ∧ validAt s pos = validAt s 0 ∧ pos ≤ s.size ∧ wr.heap[w.heap.size]? = some (.stringIter s pos)

set_option maxHeartbeats 1000000 in
theorem runes_valid (s : ByteArray) (w : World) (hs : s.size ≤ 1000000000) :
    Calls Try.prog 19 #[.string s] w (ValidPost s w) := by
  go_enter Try.func19, Try.ntmps19
  go_wp2
  go_loopw [2] (fun _ wr => ValidRel s w wr) (fun _ wr => s.size - wr.iterPos w.heap.size)
  case atStart => exact ⟨0, (Below.refl _ _).alloc (Nat.le_refl _) _, rfl, by omega, World.iter_heap w s 0⟩
  case round =>
    obtain ⟨pos, hb, hval, hps, hit⟩ := hrel
    have hsz : w.heap.size < wr.heap.size := (Array.getElem?_eq_some_iff.1 hit).1
    by_cases hp : pos < s.size
    · have hnx : ∀ ty, (Instr.next (.pointer (some ⟨w.heap.size, 0, none⟩)) true ty).run Try.prog wr = _ := fun ty => Lib.run_next_any_at wr w.heap.size s pos ty hit hp
      have hwd := dec_width s pos hp
      have hst := validAt_step s pos hp
      have hrep := hasRep_dec s pos hp
      obtain ⟨W, hW⟩ : ∃ W, W = wr.iterAt w.heap.size s (pos + (Utf8.decode s pos).2) := ⟨_, rfl⟩
      rw [← hW] at hnx
      have hit2 := Lib.iterAt_heap wr _ s pos (pos + (Utf8.decode s pos).2) hit
      have hb2 := Lib.below_iterAt hb (Nat.le_refl w.heap.size) s (pos + (Utf8.decode s pos).2)
      rw [← hW] at hit2 hb2
      generalize (Utf8.decode s pos).2 = k at *
      obtain ⟨c, hc⟩ : ∃ c : Int, c = ((Utf8.decode s pos).1 : Int) := ⟨_, rfl⟩
      rw [← hc] at hnx
      have HW := Lib.hid hW
      have HI := Lib.hid hit
      have HV := Lib.hid hval
      have HI2 := Lib.hid hit2
      clear hW hit hb hval hit2
      by_cases h65 : (Utf8.decode s pos).1 = 65533
      · have hrep' := hrep h65
        have hc1 : (c == 65533) = true := by rw [hc, h65]; rfl
        rw [h65] at hst
        by_cases hk : k = 1
        · have hr : hasRep (s.extract pos s.size) = false := by rw [hrep']; simp [hk]
          have hf : validAt s pos = false := by rw [hst]; simp [hk]
          have HF := Lib.hid hf
          clear hst hrep hrep' hc h65 hf hk
          go_wp2_with (go_at_call 26; refine (hasPrefix3s _ _).mono ?_; rintro e w' ⟨rfl, rfl⟩)
          go_ret
          rw [HF.out] at HV
          exact ⟨by rw [← HV.out]; rfl, hb2⟩
        · have hr : hasRep (s.extract pos s.size) = true := by rw [hrep']; simp [hk]
          have hf : validAt s (pos + k) = validAt s pos := by rw [hst]; simp [hk]
          have HF := Lib.hid hf
          clear hst hrep hrep' hc h65 hf hk
          go_wp2_with (go_at_call 26; refine (hasPrefix3s _ _).mono ?_; rintro e w' ⟨rfl, rfl⟩)
          go_roundw
          case rel => exact ⟨pos + k, hb2, HF.out.trans HV.out, by omega, HI2.out⟩
          case measure =>
            have e1 := iterPos_of HI.out
            have e2 := iterPos_of HI2.out
            rw [e1, e2]
            omega
      · have hc1 : (c == 65533) = false := by rw [hc]; simp; omega
        have hf : validAt s (pos + k) = validAt s pos := by rw [hst]; simp [h65]
        have HF := Lib.hid hf
        clear hst hrep hc h65 hf
        go_wp2
        go_roundw
        case rel => exact ⟨pos + k, hb2, HF.out.trans HV.out, by omega, HI2.out⟩
        case measure =>
          have e1 := iterPos_of HI.out
          have e2 := iterPos_of HI2.out
          rw [e1, e2]
          omega
    · have hnx : ∀ ty, (Instr.next (.pointer (some ⟨w.heap.size, 0, none⟩)) true ty).run Try.prog wr = _ := fun ty => Lib.run_next_end_at wr w.heap.size s pos ty hit hp
      go_wp2
      go_ret
      rw [validAt_end s pos hp] at hval
      exact ⟨by rw [← hval]; rfl, hb⟩

end Go.Proofs.Ytfciilkngmdlbaa
