/-
  A character by the least form is what the decoder tells: plain arithmetic, nothing of the program.
-/
import Derived.Test.YtfciilkngmdlbaaRunesDec
namespace Go.Proofs.Ytfciilkngmdlbaa
open Go

/-- The number of k bytes. -/
def numK (b0 b1 b2 b3 : Int) (k : Nat) : Int :=
  if k = 1 then b0
  else if k = 2 then 64 * (b0 % 32) + b1 % 64
  else if k = 3 then 64 * (64 * (b0 % 16) + b1 % 64) + b2 % 64
  else 64 * (64 * (64 * (b0 % 8) + b1 % 64) + b2 % 64) + b3 % 64

def fitK (n : Int) (bs : List Int) : Bool := decide (encI n = bs) && (decide (n ≤ 1114111) && (decide (n < 55296) || decide (57343 < n)))

theorem fitK_iff (n : Int) (bs : List Int) : fitK n bs = true ↔ encI n = bs ∧ n ≤ 1114111 ∧ (n < 55296 ∨ 57343 < n) := by
  simp [fitK]

theorem dec1 (b0 b1 b2 b3 : Nat) :
    (fitK (numK b0 b1 b2 b3 1) [(b0 : Int)] = true ↔ b0 < 128) := by
  rw [fitK_iff]
  simp only [numK, if_true]
  unfold encI
  constructor
  · rintro ⟨h, _⟩
    by_cases h1 : (b0 : Int) < 128
    · omega
    · rw [if_neg h1] at h
      split at h
      · simp at h
      split at h
      · simp at h
      split at h
      · simp at h
      split at h
      · simp at h
      · simp at h
  · intro h
    rw [if_pos (by omega)]
    exact ⟨rfl, by omega, by omega⟩

theorem dec2 (b0 b1 b2 b3 : Nat) (h1 : b1 < 256) :
    (fitK (numK b0 b1 b2 b3 2) [(b0 : Int), (b1 : Int)] = true ↔ b0 / 32 = 6 ∧ b1 / 64 = 2 ∧ 128 ≤ b0 % 32 * 64 + b1 % 64) := by
  rw [fitK_iff]
  simp only [numK, if_true, show ¬ (2 = 1) from by decide, if_false]
  unfold encI
  constructor
  · rintro ⟨h, _⟩
    split at h
    · simp at h
    split at h
    · simp only [List.cons.injEq, and_true] at h; omega
    · omega
  · intro h
    rw [if_neg (by omega), if_pos (by omega)]
    refine ⟨?_, by omega, by omega⟩
    simp only [List.cons.injEq, and_true]
    omega

theorem dec3 (b0 b1 b2 b3 : Nat) (h1 : b1 < 256) (h2 : b2 < 256) :
    (fitK (numK b0 b1 b2 b3 3) [(b0 : Int), (b1 : Int), (b2 : Int)] = true ↔ b0 / 16 = 14 ∧ b1 / 64 = 2 ∧ b2 / 64 = 2 ∧ 2048 ≤ b0 % 16 * 4096 + b1 % 64 * 64 + b2 % 64 ∧ (b0 % 16 * 4096 + b1 % 64 * 64 + b2 % 64 < 55296 ∨ 57344 ≤ b0 % 16 * 4096 + b1 % 64 * 64 + b2 % 64)) := by
  rw [fitK_iff]
  simp only [numK, if_true, show ¬ (3 = 1) from by decide, show ¬ (3 = 2) from by decide, if_false]
  unfold encI
  constructor
  · rintro ⟨h, _⟩
    split at h
    · simp at h
    split at h
    · simp at h
    split at h
    · simp only [List.cons.injEq, and_true] at h; omega
    · omega
  · intro h
    rw [if_neg (by omega), if_neg (by omega), if_pos (by omega)]
    refine ⟨?_, by omega, by omega⟩
    simp only [List.cons.injEq, and_true]
    omega

theorem dec4 (b0 b1 b2 b3 : Nat) (h1 : b1 < 256) (h2 : b2 < 256) :
    (fitK (numK b0 b1 b2 b3 4) [(b0 : Int), (b1 : Int), (b2 : Int), (b3 : Int)] = true ↔ b0 / 8 = 30 ∧ b1 / 64 = 2 ∧ b2 / 64 = 2 ∧ b3 / 64 = 2 ∧ 65536 ≤ b0 % 8 * 262144 + b1 % 64 * 4096 + b2 % 64 * 64 + b3 % 64 ∧ b0 % 8 * 262144 + b1 % 64 * 4096 + b2 % 64 * 64 + b3 % 64 ≤ 1114111) := by
  rw [fitK_iff]
  simp only [numK, show ¬ (4 = 1) from by decide, show ¬ (4 = 2) from by decide, show ¬ (4 = 3) from by decide, if_false]
  unfold encI
  constructor
  · rintro ⟨h, _⟩
    split at h
    · simp at h
    split at h
    · simp at h
    split at h
    · simp at h
    split at h
    · simp only [List.cons.injEq, and_true] at h; omega
    · omega
  · intro h
    rw [if_neg (by omega), if_neg (by omega), if_neg (by omega), if_pos (by omega)]
    refine ⟨?_, by omega, by omega⟩
    simp only [List.cons.injEq, and_true]
    omega

def bytesK (b0 b1 b2 b3 : Nat) (k : Nat) : List Int := ([(b0 : Int), (b1 : Int), (b2 : Int), (b3 : Int)] : List Int).take k

/-- What the reference's loop comes to. -/
def oneN (n b0 b1 b2 b3 : Nat) : Int × Int :=
  if 1 ≤ n ∧ fitK (numK b0 b1 b2 b3 1) (bytesK b0 b1 b2 b3 1) = true then (numK b0 b1 b2 b3 1, 1)
  else if 2 ≤ n ∧ fitK (numK b0 b1 b2 b3 2) (bytesK b0 b1 b2 b3 2) = true then (numK b0 b1 b2 b3 2, 2)
  else if 3 ≤ n ∧ fitK (numK b0 b1 b2 b3 3) (bytesK b0 b1 b2 b3 3) = true then (numK b0 b1 b2 b3 3, 3)
  else if 4 ≤ n ∧ fitK (numK b0 b1 b2 b3 4) (bytesK b0 b1 b2 b3 4) = true then (numK b0 b1 b2 b3 4, 4)
  else (65533, 0)

set_option maxRecDepth 100000 in
set_option maxHeartbeats 2000000 in
theorem oneN_dec (n b0 b1 b2 b3 : Nat) (hn : 1 ≤ n) (h0 : b0 < 256) (h1 : b1 < 256) (h2 : b2 < 256) :
    oneN n b0 b1 b2 b3 = (((Lib.decodeN n b0 b1 b2 b3).1 : Int), if (Lib.decodeN n b0 b1 b2 b3).1 = 65533 ∧ (Lib.decodeN n b0 b1 b2 b3).2 = 1 then 0 else ((Lib.decodeN n b0 b1 b2 b3).2 : Int)) := by
  have d1 := dec1 b0 b1 b2 b3
  have d2 := dec2 b0 b1 b2 b3 h1
  have d3 := dec3 b0 b1 b2 b3 h1 h2
  have d4 := dec4 b0 b1 b2 b3 h1 h2
  unfold oneN
  rw [show bytesK b0 b1 b2 b3 1 = [(b0 : Int)] from rfl, show bytesK b0 b1 b2 b3 2 = [(b0 : Int), (b1 : Int)] from rfl, show bytesK b0 b1 b2 b3 3 = [(b0 : Int), (b1 : Int), (b2 : Int)] from rfl, show bytesK b0 b1 b2 b3 4 = [(b0 : Int), (b1 : Int), (b2 : Int), (b3 : Int)] from rfl]
  generalize fitK (numK b0 b1 b2 b3 1) [(b0 : Int)] = f1 at *
  generalize fitK (numK b0 b1 b2 b3 2) [(b0 : Int), (b1 : Int)] = f2 at *
  generalize fitK (numK b0 b1 b2 b3 3) [(b0 : Int), (b1 : Int), (b2 : Int)] = f3 at *
  generalize fitK (numK b0 b1 b2 b3 4) [(b0 : Int), (b1 : Int), (b2 : Int), (b3 : Int)] = f4 at *
  unfold Lib.decodeN
  by_cases c1 : b0 < 128
  · rw [if_pos ⟨hn, d1.2 c1⟩, if_pos c1, if_neg (fun h => by have := h.1; simp only at this; omega)]
    rfl
  rw [if_neg (fun h => c1 (d1.1 h.2)), if_neg c1]
  by_cases c2 : b0 / 32 = 6 ∧ 1 < n ∧ b1 / 64 = 2
  · rw [if_pos c2]
    by_cases e2 : b0 % 32 * 64 + b1 % 64 ≥ 128
    · rw [if_pos ⟨by omega, d2.2 ⟨c2.1, c2.2.2, e2⟩⟩, if_pos e2]
      simp only [numK, show ¬ (2 = 1) from by decide, if_false, if_true, and_false]
      simp only [Prod.mk.injEq]
      omega
    · rw [if_neg (fun h => e2 (d2.1 h.2).2.2), if_neg (fun h => by have := (d3.1 h.2).1; omega), if_neg (fun h => by have := (d4.1 h.2).1; omega), if_neg e2]
      rfl
  rw [if_neg c2, if_neg (fun h => c2 ⟨(d2.1 h.2).1, by omega, (d2.1 h.2).2.1⟩)]
  by_cases c3 : b0 / 16 = 14 ∧ (1 < n ∧ b1 / 64 = 2) ∧ 2 < n ∧ b2 / 64 = 2
  · rw [if_pos c3]
    by_cases e3 : b0 % 16 * 4096 + b1 % 64 * 64 + b2 % 64 ≥ 2048 ∧ (b0 % 16 * 4096 + b1 % 64 * 64 + b2 % 64 < 55296 ∨ (57344 ≤ b0 % 16 * 4096 + b1 % 64 * 64 + b2 % 64 ∧ b0 % 16 * 4096 + b1 % 64 * 64 + b2 % 64 ≤ 1114111))
    · rw [if_pos ⟨by omega, d3.2 ⟨c3.1, c3.2.1.2, c3.2.2.2, e3.1, by omega⟩⟩, if_pos e3]
      simp only [numK, show ¬ (3 = 1) from by decide, show ¬ (3 = 2) from by decide, if_false, if_true, and_false]
      simp only [Prod.mk.injEq]
      omega
    · rw [if_neg (fun h => e3 (by have := d3.1 h.2; omega)), if_neg (fun h => by have := (d4.1 h.2).1; omega), if_neg e3]
      rfl
  rw [if_neg c3, if_neg (fun h => c3 ⟨(d3.1 h.2).1, ⟨by omega, (d3.1 h.2).2.1⟩, by omega, (d3.1 h.2).2.2.1⟩)]
  by_cases c4 : b0 / 8 = 30 ∧ (1 < n ∧ b1 / 64 = 2) ∧ (2 < n ∧ b2 / 64 = 2) ∧ 3 < n ∧ b3 / 64 = 2
  · rw [if_pos c4]
    by_cases e4 : b0 % 8 * 262144 + b1 % 64 * 4096 + b2 % 64 * 64 + b3 % 64 ≥ 65536 ∧ (b0 % 8 * 262144 + b1 % 64 * 4096 + b2 % 64 * 64 + b3 % 64 < 55296 ∨ (57344 ≤ b0 % 8 * 262144 + b1 % 64 * 4096 + b2 % 64 * 64 + b3 % 64 ∧ b0 % 8 * 262144 + b1 % 64 * 4096 + b2 % 64 * 64 + b3 % 64 ≤ 1114111))
    · rw [if_pos ⟨by omega, d4.2 ⟨c4.1, c4.2.1.2, c4.2.2.1.2, c4.2.2.2.2, e4.1, by omega⟩⟩, if_pos e4]
      simp only [numK, show ¬ (4 = 1) from by decide, show ¬ (4 = 2) from by decide, show ¬ (4 = 3) from by decide, if_false, and_false]
      simp only [Prod.mk.injEq]
      omega
    · rw [if_neg (fun h => e4 (by have := d4.1 h.2; omega)), if_neg e4]
      rfl
  rw [if_neg c4, if_neg (fun h => c4 ⟨(d4.1 h.2).1, ⟨by omega, (d4.1 h.2).2.1⟩, ⟨by omega, (d4.1 h.2).2.2.1⟩, by omega, (d4.1 h.2).2.2.2.1⟩)]
  rfl

/-- The bytes at a place, as numbers. -/
def byteAt (s : ByteArray) (i : Nat) : Nat := (s.get! i).toNat
def oneAt (s : ByteArray) (i : Nat) : Int × Int := oneN (s.size - i) (byteAt s i) (byteAt s (i + 1)) (byteAt s (i + 2)) (byteAt s (i + 3))

theorem byteAt_lt (s : ByteArray) (i : Nat) : byteAt s i < 256 := (s.get! i).toNat_lt

theorem oneAt_dec (s : ByteArray) (i : Nat) (h : i < s.size) :
    oneAt s i = (((Utf8.decode s i).1 : Int), if (Utf8.decode s i).1 = 65533 ∧ (Utf8.decode s i).2 = 1 then 0 else ((Utf8.decode s i).2 : Int)) := by
  unfold oneAt
  rw [oneN_dec _ _ _ _ _ (by omega) (byteAt_lt _ _) (byteAt_lt _ _) (byteAt_lt _ _), Lib.decode_at]
  rfl

/-! ### Texts of bytes against lists of numbers -/

theorem encI_range (n : Int) (h0 : 0 ≤ n) (h1 : n ≤ 2147483647) : ∀ x ∈ encI n, 0 ≤ x ∧ x < 256 := by
  unfold encI
  intro x hx
  split at hx
  · simp only [List.mem_cons, List.not_mem_nil, or_false] at hx; omega
  split at hx
  · simp only [List.mem_cons, List.not_mem_nil, or_false] at hx; omega
  split at hx
  · simp only [List.mem_cons, List.not_mem_nil, or_false] at hx; omega
  split at hx
  · simp only [List.mem_cons, List.not_mem_nil, or_false] at hx; omega
  split at hx
  · simp only [List.mem_cons, List.not_mem_nil, or_false] at hx; omega
  · simp only [List.mem_cons, List.not_mem_nil, or_false] at hx; omega

theorem bytesOf_toList (l : List Int) : (bytesOf l).toList = l.map fun x => UInt8.ofNat x.toNat := by
  unfold bytesOf
  rw [ByteArray.toList_mk]

theorem bytesOf_eq (l : List Int) (hl : ∀ x ∈ l, 0 ≤ x ∧ x < 256) (bs : List UInt8) : (bytesOf l).toList = bs ↔ l = bs.map fun b => (b.toNat : Int) := by
  rw [bytesOf_toList]
  constructor
  · intro h
    subst h
    rw [List.map_map]
    symm
    conv => rhs; rw [← List.map_id l]
    apply List.map_congr_left
    intro x hx
    have := hl x hx
    simp only [Function.comp, id, UInt8.toNat_ofNat']
    omega
  · intro h
    subst h
    rw [List.map_map]
    conv => rhs; rw [← List.map_id bs]
    apply List.map_congr_left
    intro x _
    simp

theorem get!_mk (l : List UInt8) (i : Nat) (h : i < l.length) : (⟨l.toArray⟩ : ByteArray).get! i = l[i] := by
  simp only [ByteArray.get!]
  simp [h]

theorem extractK (s : ByteArray) (p k : Nat) (hk : k = 1 ∨ k = 2 ∨ k = 3 ∨ k = 4) (h : p + k ≤ s.size) :
    (s.extract p (p + k)).toList.map (fun b => (b.toNat : Int)) = bytesK (byteAt s p) (byteAt s (p + 1)) (byteAt s (p + 2)) (byteAt s (p + 3)) k := by
  obtain ⟨⟨l⟩⟩ := s
  have hl : p + k ≤ l.length := h
  rw [ByteArray.extract_mk, ByteArray.toList_mk, show p + k - p = k from by omega]
  unfold byteAt bytesK
  rcases hk with rfl | rfl | rfl | rfl
  · rw [List.drop_eq_getElem_cons (by omega), get!_mk l p (by omega)]; rfl
  · rw [List.drop_eq_getElem_cons (by omega), List.drop_eq_getElem_cons (by omega), get!_mk l p (by omega), get!_mk l (p + 1) (by omega)]; rfl
  · rw [List.drop_eq_getElem_cons (by omega), List.drop_eq_getElem_cons (by omega), List.drop_eq_getElem_cons (by omega), get!_mk l p (by omega), get!_mk l (p + 1) (by omega), get!_mk l (p + 2) (by omega)]; rfl
  · rw [List.drop_eq_getElem_cons (by omega), List.drop_eq_getElem_cons (by omega), List.drop_eq_getElem_cons (by omega), List.drop_eq_getElem_cons (by omega), get!_mk l p (by omega), get!_mk l (p + 1) (by omega), get!_mk l (p + 2) (by omega), get!_mk l (p + 3) (by omega)]; rfl

theorem encS_extract (s : ByteArray) (p k : Nat) (n : Int) (hk : k = 1 ∨ k = 2 ∨ k = 3 ∨ k = 4) (h : p + k ≤ s.size) (h0 : 0 ≤ n) (h1 : n ≤ 2147483647) :
    ((encS n).toList == (s.extract p (p + k)).toList) = decide (encI n = bytesK (byteAt s p) (byteAt s (p + 1)) (byteAt s (p + 2)) (byteAt s (p + 3)) k) := by
  have e1 : encS n = bytesOf (encI n) := by unfold encS; rw [if_neg (by omega)]
  rw [e1, ← extractK s p k hk h, Bool.eq_iff_iff, beq_iff_eq, decide_eq_true_iff]
  exact bytesOf_eq (encI n) (encI_range n h0 h1) _

end Go.Proofs.Ytfciilkngmdlbaa
