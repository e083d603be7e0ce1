/-
  What a text says, as a function of its bytes; the closure that tells what is left, by contract.
-/
import Derived.Test.YtboclbmankbngaaDoorIntsF
import Derived.OneCell
namespace Go.Proofs.YtboclbmankbngaaDoor
open Go.RowKit

/-! ### Blanks at both ends -/
def loAux (s : ByteArray) : Nat → Nat
  | 0 => s.size
  | r + 1 => if spaceB (byteAt s (s.size - (r + 1))) = true then loAux s r else s.size - (r + 1)
/-- The first place from k on that is no blank. -/
def loFrom (s : ByteArray) (k : Nat) : Nat := loAux s (s.size - k)
theorem loFrom_end (s : ByteArray) : loFrom s s.size = s.size := by unfold loFrom; rw [Nat.sub_self]; rfl
theorem loFrom_yes {s : ByteArray} {k : Nat} (h : k < s.size) (hb : spaceB (byteAt s k) = true) : loFrom s k = loFrom s (k + 1) := by
  unfold loFrom
  obtain ⟨r, hr⟩ : ∃ r, s.size - k = r + 1 := ⟨s.size - k - 1, by omega⟩
  rw [hr, loAux, show s.size - (r + 1) = k from by omega, if_pos hb, show s.size - (k + 1) = r from by omega]
theorem loFrom_no {s : ByteArray} {k : Nat} (h : k < s.size) (hb : spaceB (byteAt s k) = false) : loFrom s k = k := by
  unfold loFrom
  obtain ⟨r, hr⟩ : ∃ r, s.size - k = r + 1 := ⟨s.size - k - 1, by omega⟩
  rw [hr, loAux, show s.size - (r + 1) = k from by omega, if_neg (by rw [hb]; decide)]

/-- The place behind the last that is no blank, between lo and j. -/
def hiFrom (s : ByteArray) (lo : Nat) : Nat → Nat
  | 0 => 0
  | j + 1 => if lo ≤ j ∧ spaceB (byteAt s j) = true then hiFrom s lo j else j + 1
theorem hiFrom_at (s : ByteArray) (lo : Nat) : hiFrom s lo lo = lo := by
  cases lo with
  | zero => rfl
  | succ l => rw [hiFrom, if_neg (by omega)]
theorem hiFrom_yes {s : ByteArray} {lo j : Nat} (h : lo < j) (hb : spaceB (byteAt s (j - 1)) = true) : hiFrom s lo j = hiFrom s lo (j - 1) := by
  obtain ⟨i, rfl⟩ : ∃ i, j = i + 1 := ⟨j - 1, by omega⟩
  rw [Nat.add_sub_cancel] at hb ⊢
  rw [hiFrom, if_pos ⟨by omega, hb⟩]
theorem hiFrom_no {s : ByteArray} {lo j : Nat} (h : lo < j) (hb : spaceB (byteAt s (j - 1)) = false) : hiFrom s lo j = j := by
  obtain ⟨i, rfl⟩ : ∃ i, j = i + 1 := ⟨j - 1, by omega⟩
  rw [Nat.add_sub_cancel] at hb
  rw [hiFrom, if_neg (by rw [hb]; simp)]

/-! ### The rest -/
def negAt (s : ByteArray) (lo hi : Nat) : Bool := decide (lo < hi) && decide (byteAt s lo = 45)
def plusAt (s : ByteArray) (lo hi : Nat) : Bool := decide (lo < hi) && decide (byteAt s lo = 43)
def lowX (s : ByteArray) (p hi : Nat) : Bool := decide (p + 1 < hi) && decide (byteAt s p = 48 ∧ byteAt s (p + 1) = 120)
def bigX (s : ByteArray) (p hi : Nat) : Bool := decide (p + 1 < hi) && decide (byteAt s p = 48 ∧ byteAt s (p + 1) = 88)
/-- What the text between p and hi says, without a sign. -/
def restOf (s : ByteArray) (p hi : Nat) (neg : Bool) : Int × Bool :=
  if (lowX s p hi || bigX s p hi) = true then hexOf (s.extract (p + 2) hi).data.toList neg else decOf (s.extract p hi).data.toList neg
def coreOf (s : ByteArray) (lo hi : Nat) : Int × Bool :=
  restOf s (if (negAt s lo hi || plusAt s lo hi) = true then lo + 1 else lo) hi (negAt s lo hi)
/-- What a text says: the number, and whether it says one. -/
def parseOf (s : ByteArray) : Int × Bool := coreOf s (loFrom s 0) (hiFrom s (loFrom s 0) s.size)

/-! ### Parts of a text -/
theorem byteAt_extract {s : ByteArray} {i j k : Nat} (hj : j ≤ s.size) (h : i + k < j) : byteAt (s.extract i j) k = byteAt s (i + k) := by
  obtain ⟨⟨l⟩⟩ := s
  have hl : i + k < l.length := by have : (⟨⟨l⟩⟩ : ByteArray).size = l.length := rfl
                                   omega
  unfold byteAt
  rw [Lib.extract_eq, get!_mk _ k (by simp; omega), get!_mk l (i + k) hl]
  simp

theorem part_size {s : ByteArray} {i j : Nat} (hj : j ≤ s.size) : (s.extract i j).size = j - i := by
  rw [ByteArray.size_extract, Nat.min_eq_left hj]

theorem part_list {s : ByteArray} {i j : Nat} (hj : j ≤ s.size) (h : i < j) : ∃ c : UInt8, c.toNat = byteAt s i ∧ (s.extract i j).data.toList = c :: (s.extract (i + 1) j).data.toList := by
  obtain ⟨c, e, hd⟩ := drop_at s i (by omega)
  refine ⟨c, e, ?_⟩
  rw [Lib.extract_data, Lib.extract_data, hd]
  obtain ⟨m, hm⟩ : ∃ m, j - i = m + 1 := ⟨j - i - 1, by omega⟩
  rw [hm, List.take_succ_cons, show j - (i + 1) = m from by omega]
theorem part_nil {s : ByteArray} {i j : Nat} (h : j ≤ i) : (s.extract i j).data.toList = [] := by
  rw [Lib.extract_data, show j - i = 0 from by omega, List.take_zero]

theorem prefix1 {s : ByteArray} {i j : Nat} (hj : j ≤ s.size) (b : UInt8) : Lib.hasPrefix (s.extract i j).data.toList [b] = (decide (i < j) && decide (byteAt s i = b.toNat)) := by
  unfold Lib.hasPrefix
  by_cases h : i < j
  · obtain ⟨c, e, hd⟩ := part_list hj h
    rw [hd, decide_eq_true h, Bool.true_and, ← e]
    simp only [List.isPrefixOf, Bool.and_true]
    rw [Bool.eq_iff_iff]
    simp only [beq_iff_eq, decide_eq_true_eq]
    exact ⟨fun h => by rw [h], fun h => UInt8.toNat_inj.1 h.symm⟩
  · rw [part_nil (by omega), decide_eq_false h]; rfl

theorem prefix2 {s : ByteArray} {i j : Nat} (hj : j ≤ s.size) (b c : UInt8) :
    Lib.hasPrefix (s.extract i j).data.toList [b, c] = (decide (i + 1 < j) && decide (byteAt s i = b.toNat ∧ byteAt s (i + 1) = c.toNat)) := by
  by_cases h : i < j
  · obtain ⟨x, e, hd⟩ := part_list hj h
    have h1 := prefix1 (i := i + 1) hj c
    unfold Lib.hasPrefix at h1 ⊢
    rw [hd]
    simp only [List.isPrefixOf]
    rw [show ([c].isPrefixOf (s.extract (i + 1) j).data.toList) = _ from h1, ← e]
    rw [Bool.eq_iff_iff]
    simp only [Bool.and_eq_true, beq_iff_eq, decide_eq_true_eq]
    constructor
    · rintro ⟨h, h2, h3⟩; exact ⟨h2, by rw [h], h3⟩
    · rintro ⟨h, h2, h3⟩; exact ⟨UInt8.toNat_inj.1 h2.symm, h, h3⟩
  · unfold Lib.hasPrefix
    rw [part_nil (by omega), decide_eq_false (by omega)]; rfl

theorem part_empty {s : ByteArray} {i j : Nat} (hj : j ≤ s.size) : (s.extract i j).toList.isEmpty = decide (j ≤ i) := by
  rw [ByteArray.toList_eq]
  by_cases h : i < j
  · obtain ⟨c, _, hd⟩ := part_list hj h
    rw [hd, decide_eq_false (by omega)]; rfl
  · rw [part_nil (by omega), decide_eq_true (by omega)]; rfl

/-! ### The three variables of Parse -/
structure Boxes (s : ByteArray) (w0 : World) (g h i j : Nat) (W : World) : Prop where
  below : Below w0.heap.size w0 W
  text : W.heap[w0.heap.size]? = some (.cells #[.string s] 9 (0, 0))
  lo : W.heap[g]? = some (.cells #[.int .i64 (i : Int)] 3 (0, 0))
  hi : W.heap[h]? = some (.cells #[.int .i64 (j : Int)] 3 (0, 0))
  gl : w0.heap.size < g
  hl : w0.heap.size < h
  ne : g ≠ h

theorem Boxes.setLo {s : ByteArray} {w0 : World} {g h i j : Nat} {W : World} (b : Boxes s w0 g h i j W) (i' : Nat) (x : Value) (hx : x = .int .i64 (i' : Int)) : Boxes s w0 g h i' j (W.setCell ⟨g, 0, none⟩ x) := by
  subst hx
  exact ⟨b.below.setCell (Nat.le_of_lt b.gl) _, by rw [Below.heap_setCell _ _ _ _ (Nat.ne_of_lt b.gl)]; exact b.text, one_setCell b.lo,
    by rw [Below.heap_setCell _ _ _ _ (Ne.symm b.ne)]; exact b.hi, b.gl, b.hl, b.ne⟩
theorem Boxes.setHi {s : ByteArray} {w0 : World} {g h i j : Nat} {W : World} (b : Boxes s w0 g h i j W) (j' : Nat) (x : Value) (hx : x = .int .i64 (j' : Int)) : Boxes s w0 g h i j' (W.setCell ⟨h, 0, none⟩ x) := by
  subst hx
  exact ⟨b.below.setCell (Nat.le_of_lt b.hl) _, by rw [Below.heap_setCell _ _ _ _ (Nat.ne_of_lt b.hl)]; exact b.text,
    by rw [Below.heap_setCell _ _ _ _ b.ne]; exact b.lo, one_setCell b.hi, b.gl, b.hl, b.ne⟩

set_option maxHeartbeats 400000 in
theorem left_any (s : ByteArray) (w0 : World) (g h i j : Nat) (W : World) (b : Boxes s w0 g h i j W) (hij : i ≤ j) (hj : j ≤ s.size) :
    Calls Tryd.prog 27 #[.pointer (some ⟨w0.heap.size, 0, none⟩), .pointer (some ⟨g, 0, none⟩), .pointer (some ⟨h, 0, none⟩)] W fun e w' => e = .returned (.string (s.extract i j)) ∧ W = w' := by
  have c1 := cell_of_one b.text
  have c2 := cell_of_one b.lo
  have c3 := cell_of_one b.hi
  have hx := run_slice_at (P := Tryd.prog) 9 s (i : Int) (j : Int) i j Tryd.underlying9 hij hj rfl rfl
  clear b
  go_enter Tryd.func27, Tryd.ntmps27
  go_wp2
  go_ret
  exact ⟨rfl, rfl⟩

theorem prefix_any (s p : ByteArray) (w : World) :
    Calls Tryd.prog 29 #[.string s, .string p] w fun e w' => e = .returned (.bool (Lib.hasPrefix s.data.toList p.data.toList)) ∧ w = w' :=
  (Tryd.strings_HasPrefix s p w).mono fun _ _ ⟨h, h'⟩ => ⟨h, h'.symm⟩

end Go.Proofs.YtboclbmankbngaaDoor
