/-
  A character that is put as bytes is told back: plain arithmetic, nothing of the program.
-/
import Derived.Test.YtfciilkngmdlbaaRunesOne
namespace Go.Proofs.Ytfciilkngmdlbaa
open Go

theorem bytesOf_size (l : List Int) : (bytesOf l).size = l.length := by
  unfold bytesOf
  show (l.map _).toArray.size = _
  simp

theorem bytesOf_at (l : List Int) (b : ByteArray) (i : Nat) (h : i < l.length) (h0 : 0 ≤ l[i]) (h1 : l[i] < 256) : ((bytesOf l ++ b).get! i).toNat = l[i].toNat := by
  rw [get!_append, if_pos (by rw [bytesOf_size]; exact h)]
  unfold bytesOf
  rw [get!_mk _ i (by simpa using h)]
  simp only [List.getElem_map, UInt8.toNat_ofNat']
  omega

theorem encS_is (n : Int) (h0 : 0 ≤ n) (h1 : n ≤ 2147483647) : encS n = bytesOf (encI n) := by unfold encS; rw [if_neg (by omega)]

theorem encI_len (n : Int) : 1 ≤ (encI n).length ∧ (encI n).length ≤ 6 := by
  unfold encI
  repeat' split
  all_goals simp

/-- The decoder at the front of bytes that are known. -/
theorem dec_front (l : List Int) (b : ByteArray) (hl : ∀ x ∈ l, 0 ≤ x ∧ x < 256) : ∃ f : Nat → Nat, (∀ i (h : i < l.length), f i = l[i].toNat) ∧ Utf8.decode (bytesOf l ++ b) 0 = Lib.decodeN (l.length + b.size) (f 0) (f 1) (f 2) (f 3) := by
  refine ⟨fun i => ((bytesOf l ++ b).get! i).toNat, fun i h => ?_, ?_⟩
  · have := hl l[i] (List.getElem_mem h)
    exact bytesOf_at l b i h this.1 this.2
  · rw [Lib.decode_at]
    have hz : (bytesOf l ++ b).size = l.length + b.size := by rw [ByteArray.size_append, bytesOf_size]
    rw [hz]
    rfl

set_option maxRecDepth 100000 in
set_option maxHeartbeats 2000000 in
theorem dec_enc (n : Int) (b : ByteArray) (h0 : 0 ≤ n) (h1 : n ≤ 1114111) (hs : n < 55296 ∨ 57343 < n) : Utf8.decode (encS n ++ b) 0 = (n.toNat, (encI n).length) := by
  rw [encS_is n h0 (by omega)]
  obtain ⟨f, hf, hd⟩ := dec_front (encI n) b (encI_range n h0 (by omega))
  rw [hd]
  clear hd
  unfold encI at hf ⊢
  by_cases c1 : n < 128
  · simp only [if_pos c1, List.length_cons, List.length_nil] at hf ⊢
    have f0 := hf 0 (by omega)
    simp only [List.getElem_cons_zero] at f0
    unfold Lib.decodeN
    rw [if_pos (by omega), f0]
  by_cases c2 : n < 2048
  · simp only [if_neg c1, if_pos c2, List.length_cons, List.length_nil] at hf ⊢
    have f0 := hf 0 (by omega)
    have f1 := hf 1 (by omega)
    simp only [List.getElem_cons_zero, List.getElem_cons_succ] at f0 f1
    obtain ⟨m, rfl⟩ := Int.eq_ofNat_of_zero_le h0
    have g0 : f 0 = 192 + m / 64 := by omega
    have g1 : f 1 = 128 + m % 64 := by omega
    unfold Lib.decodeN
    rw [if_neg (by omega), if_pos (by omega), if_pos (by omega), g0, g1]
    simp only [Prod.mk.injEq, Int.toNat_natCast, and_true]
    omega
  by_cases c3 : n < 65536
  · simp only [if_neg c1, if_neg c2, if_pos c3, List.length_cons, List.length_nil] at hf ⊢
    have f0 := hf 0 (by omega)
    have f1 := hf 1 (by omega)
    have f2 := hf 2 (by omega)
    simp only [List.getElem_cons_zero, List.getElem_cons_succ] at f0 f1 f2
    obtain ⟨m, rfl⟩ := Int.eq_ofNat_of_zero_le h0
    have g0 : f 0 = 224 + m / 4096 := by omega
    have g1 : f 1 = 128 + m / 64 % 64 := by omega
    have g2 : f 2 = 128 + m % 64 := by omega
    unfold Lib.decodeN
    rw [if_neg (by omega), if_neg (by omega), if_pos (by omega), if_pos (by omega), g0, g1, g2]
    simp only [Prod.mk.injEq, Int.toNat_natCast, and_true]
    omega
  · simp only [if_neg c1, if_neg c2, if_neg c3, if_pos (show n < 2097152 by omega), List.length_cons, List.length_nil] at hf ⊢
    have f0 := hf 0 (by omega)
    have f1 := hf 1 (by omega)
    have f2 := hf 2 (by omega)
    have f3 := hf 3 (by omega)
    simp only [List.getElem_cons_zero, List.getElem_cons_succ] at f0 f1 f2 f3
    obtain ⟨m, rfl⟩ := Int.eq_ofNat_of_zero_le h0
    have g0 : f 0 = 240 + m / 262144 := by omega
    have g1 : f 1 = 128 + m / 4096 % 64 := by omega
    have g2 : f 2 = 128 + m / 64 % 64 := by omega
    have g3 : f 3 = 128 + m % 64 := by omega
    unfold Lib.decodeN
    rw [if_neg (by omega), if_neg (by omega), if_neg (by omega), if_pos (by omega), if_pos (by omega), g0, g1, g2, g3]
    simp only [Prod.mk.injEq, Int.toNat_natCast, and_true]
    omega

set_option maxRecDepth 100000 in
set_option maxHeartbeats 2000000 in
theorem dec_enc_not (n : Int) (h0 : 0 ≤ n) (h1 : n ≤ 2147483647) (hs : 1114111 < n ∨ 55296 ≤ n ∧ n ≤ 57343) : Utf8.decode (encS n ++ ⟨#[]⟩) 0 = (65533, 1) := by
  rw [encS_is n h0 (by omega)]
  obtain ⟨f, hf, hd⟩ := dec_front (encI n) ⟨#[]⟩ (encI_range n h0 (by omega))
  rw [hd]
  clear hd
  have hl := encI_len n
  have f0 := hf 0 (by omega)
  unfold encI at hf f0 hl ⊢
  by_cases c3 : n < 65536
  · simp only [if_neg (show ¬ n < 128 by omega), if_neg (show ¬ n < 2048 by omega), if_pos c3, List.length_cons, List.length_nil] at hf f0 ⊢
    have f1 := hf 1 (by omega)
    have f2 := hf 2 (by omega)
    simp only [List.getElem_cons_zero, List.getElem_cons_succ] at f0 f1 f2
    unfold Lib.decodeN
    rw [if_neg (by omega), if_neg (by omega), if_pos (by have : (ByteArray.mk #[]).size = 0 := rfl; omega), if_neg (by omega)]
  by_cases c4 : n < 2097152
  · simp only [if_neg (show ¬ n < 128 by omega), if_neg (show ¬ n < 2048 by omega), if_neg c3, if_pos c4, List.length_cons, List.length_nil] at hf f0 ⊢
    have f1 := hf 1 (by omega)
    have f2 := hf 2 (by omega)
    have f3 := hf 3 (by omega)
    simp only [List.getElem_cons_zero, List.getElem_cons_succ] at f0 f1 f2 f3
    unfold Lib.decodeN
    rw [if_neg (by omega), if_neg (by omega), if_neg (by omega)]
    split
    · rw [if_neg (by omega)]
    · rfl
  · by_cases c5 : n < 67108864
    · simp only [if_neg (show ¬ n < 128 by omega), if_neg (show ¬ n < 2048 by omega), if_neg c3, if_neg c4, if_pos c5] at f0 ⊢
      simp only [List.getElem_cons_zero] at f0
      unfold Lib.decodeN
      rw [if_neg (by omega), if_neg (by omega), if_neg (by omega), if_neg (by omega)]
    · simp only [if_neg (show ¬ n < 128 by omega), if_neg (show ¬ n < 2048 by omega), if_neg c3, if_neg c4, if_neg c5] at f0 ⊢
      simp only [List.getElem_cons_zero] at f0
      unfold Lib.decodeN
      rw [if_neg (by omega), if_neg (by omega), if_neg (by omega), if_neg (by omega)]

theorem encS_size (n : Int) (h0 : 0 ≤ n) (h1 : n ≤ 2147483647) : (encS n).size = (encI n).length := by rw [encS_is n h0 h1, bytesOf_size]

theorem append_nil (s : ByteArray) : s ++ (⟨#[]⟩ : ByteArray) = s := by
  apply ByteArray.ext
  rw [ByteArray.data_append]
  simp

/-- The first byte of a character is none that goes on. -/
theorem enc_first (n : Int) (b : ByteArray) (h0 : 0 ≤ n) (h1 : n ≤ 1114111) : ((encS n ++ b).get! 0).toNat / 64 ≠ 2 := by
  have hl := encI_len n
  have hr := encI_range n h0 (by omega)
  have hx := hr (encI n)[0] (List.getElem_mem (by omega))
  rw [encS_is n h0 (by omega), bytesOf_at (encI n) b 0 (by omega) hx.1 hx.2]
  have : (encI n)[0] < 128 ∨ 192 ≤ (encI n)[0] := by
    unfold encI
    repeat' split
    all_goals (simp only [List.getElem_cons_zero]; omega)
  omega

theorem each_enc (n : Int) (h0 : 0 ≤ n) (h1 : n ≤ 1114111) (hs : n < 55296 ∨ 57343 < n) : eachAt (encS n) 0 = [(n, 0)] := by
  have hl := encI_len n
  have hz := encS_size n h0 (by omega)
  have hd := dec_enc n ⟨#[]⟩ h0 h1 hs
  rw [append_nil] at hd
  rw [eachAt_step (encS n) 0 (by omega), hd, eachAt_end _ _ (by simp only; omega)]
  simp only [List.cons.injEq, Prod.mk.injEq, and_true]
  omega

theorem valid_enc (n : Int) (h0 : 0 ≤ n) (h1 : n ≤ 1114111) (hs : n < 55296 ∨ 57343 < n) : validAt (encS n) 0 = true := by
  have hl := encI_len n
  have hz := encS_size n h0 (by omega)
  have hd := dec_enc n ⟨#[]⟩ h0 h1 hs
  rw [append_nil] at hd
  rw [validAt_step (encS n) 0 (by omega), hd, validAt_end _ _ (by simp only; omega)]
  by_cases h : n.toNat = 65533
  · have : ¬ (encI n).length = 1 := by
      obtain rfl : n = 65533 := by omega
      decide
    simp [this]
  · simp [h]

theorem valid_enc_not (n : Int) (h0 : 0 ≤ n) (h1 : n ≤ 2147483647) (hs : 1114111 < n ∨ 55296 ≤ n ∧ n ≤ 57343) : validAt (encS n) 0 = false := by
  have hl := encI_len n
  have hz := encS_size n h0 h1
  have hd := dec_enc_not n h0 h1 hs
  rw [append_nil] at hd
  rw [validAt_step (encS n) 0 (by omega), hd]
  rfl

theorem valid_behind (a : ByteArray) (n : Int) (h0 : 0 ≤ n) (h1 : n ≤ 1114111) (ha : validAt a 0 = false) : validAt (a ++ encS n) 0 = false := by
  have hf := enc_first n ⟨#[]⟩ h0 h1
  rw [append_nil] at hf
  rw [validAt_append a (encS n) (Or.inr hf) a.size 0 (by omega) (by omega), ha]
  rfl

theorem each_around (a b : ByteArray) (n : Int) (h0 : 0 ≤ n) (h1 : n ≤ 1114111) (hs : n < 55296 ∨ 57343 < n) :
    ∃ rest, eachAt (a ++ encS n ++ b) 0 = eachAt a 0 ++ (n, (a.size : Int)) :: rest := by
  have hl := encI_len n
  have hz := encS_size n h0 (by omega)
  have hf := enc_first n b h0 h1
  have hd := dec_enc n b h0 h1 hs
  rw [show a ++ encS n ++ b = a ++ (encS n ++ b) from ByteArray.append_assoc]
  rw [eachAt_append a (encS n ++ b) (Or.inr hf) a.size 0 (by omega) (by omega)]
  have hp : a.size < (a ++ (encS n ++ b)).size := by rw [ByteArray.size_append, ByteArray.size_append]; omega
  have hb := dec_behind a (encS n ++ b) 0
  rw [Nat.add_zero] at hb
  rw [eachAt_step _ a.size hp, hb, hd]
  exact ⟨eachAt (a ++ (encS n ++ b)) (a.size + (encI n).length), by rw [show ((n.toNat : Nat) : Int) = n from by omega]⟩

end Go.Proofs.Ytfciilkngmdlbaa
