/-
  Plain mathematics for package texts: nothing of the program but how it spells an answer.
-/
import Derived.Test.YtajeghkmgcpgiaaGreatDoorTextsF
import Derived.Lib.AtoiAll
import Derived.Lib.Bytealg
namespace Go.Proofs.YtajeghkmgcpgiaaGreatDoor
open Go.RowKit

/-! ### Compare -/
theorem compare_cmpL : ∀ x y, Lib.compareBytes x y = cmpL x y
  | [], [] => rfl
  | [], _ :: _ => rfl
  | _ :: _, [] => rfl
  | a :: x, b :: y => by
    have := compare_cmpL x y
    unfold Lib.compareBytes cmpL
    simp only [UInt8.lt_iff_toNat_lt, this]

/-! ### What escape answers -/
def escT (l : List UInt8) : ByteArray := match escL l with | some (t, _) => ⟨t.toArray⟩ | none => ⟨#[]⟩
def escN (l : List UInt8) : Nat := match escL l with | some (_, k) => k - 1 | none => 0
def escO (l : List UInt8) : Bool := (escL l).isSome
def EscIs (r : ByteArray) (w : World) (e : Ending) (w' : World) : Prop :=
  e = .returned (.tuple #[.string (escT r.data.toList), .int .i64 (escN r.data.toList : Nat), .bool (escO r.data.toList)]) ∧ Below w.heap.size w w'
theorem esc_none {r : ByteArray} {w w' : World} (h : escL r.data.toList = none) (hb : Below w.heap.size w w') : EscIs r w (.returned (.tuple #[.string ⟨#[]⟩, .int .i64 0, .bool false])) w' := by
  refine ⟨?_, hb⟩
  rw [escT, escN, escO, h]
  rfl
theorem esc_some {r T : ByteArray} {k : Nat} {t : List UInt8} {x : Int} {w w' : World} (h : escL r.data.toList = some (t, k + 1)) (hT : T.data.toList = t) (hx : x = k) (hb : Below w.heap.size w w') :
    EscIs r w (.returned (.tuple #[.string T, .int .i64 x, .bool true])) w' := by
  refine ⟨?_, hb⟩
  obtain ⟨⟨l⟩⟩ := T
  subst hT hx
  rw [escT, escN, escO, h]
  rfl

/-! ### Digits -/
theorem run_yes {base m a v : Nat} {c : UInt8} {r : List UInt8} (h : hexD c.toNat = some v) (hv : v < base) : runN base (m + 1) (c :: r) a = ((runN base m r (a * base + v)).1, (runN base m r (a * base + v)).2 + 1) := by
  rw [runN, h]; exact if_pos hv
theorem run_no {base m a : Nat} {c : UInt8} {r : List UInt8} (h : hexD c.toNat = none ∨ ∃ v, hexD c.toNat = some v ∧ base ≤ v) : runN base (m + 1) (c :: r) a = (a, 0) := by
  rcases h with h | ⟨v, h, hv⟩
  · rw [runN, h]
  · rw [runN, h]; exact if_neg (by omega)
theorem run_nil {base m a : Nat} : runN base m [] a = (a, 0) := by cases m <;> rfl
theorem hexD_dig {b : Nat} (h : 48 ≤ b ∧ b ≤ 57) : hexD b = some (b - 48) := by unfold hexD; rw [if_pos h]
theorem hexD_not {b : Nat} (h : ¬ (48 ≤ b ∧ b ≤ 57)) : hexD b = none ∨ ∃ v, hexD b = some v ∧ 10 ≤ v := by
  unfold hexD
  rw [if_neg h]
  split
  · exact .inr ⟨_, rfl, by omega⟩
  · split
    · exact .inr ⟨_, rfl, by omega⟩
    · exact .inl rfl
theorem run_stop {r : ByteArray} {k m a : Nat} (hk : k ≤ r.size) (h : k = r.size ∨ digitB (byteAt r k) = false) : runN 10 m (r.data.toList.drop k) a = (a, 0) := by
  by_cases hlt : k < r.size
  · have hd : digitB (byteAt r k) = false := h.resolve_left (by omega)
    obtain ⟨c, e, hl⟩ := drop_at r k hlt
    rw [hl]
    cases m with
    | zero => rfl
    | succ m =>
      refine run_no (hexD_not ?_)
      rw [e]
      unfold digitB at hd
      simpa using hd
  · obtain rfl : k = r.size := by omega
    rw [drop_end, run_nil]
theorem pu_yes {acc : Nat} {c : UInt8} {r : List UInt8} (h : 48 ≤ c.toNat ∧ c.toNat ≤ 57) (ha : acc ≤ 1000) : Lib.parseUint10 acc (c :: r) = Lib.parseUint10 (acc * 10 + (c.toNat - 48)) r := by
  rw [Lib.parseUint10, if_pos h, if_neg (by omega), if_neg (by omega)]

theorem digit_is {b : Nat} (h : digitB b = true) : 48 ≤ b ∧ b ≤ 57 := by unfold digitB at h; simpa using h
/-- The digits at the head, one to three, as many as there are: by the reference and by the library. -/
theorem dec_run (r : ByteArray) (k : Nat) (hk1 : 1 ≤ k) (hk3 : k ≤ 3) (hks : k ≤ r.size) (hd : ∀ j, j < k → digitB (byteAt r j) = true) (hstop : k = 3 ∨ k = r.size ∨ digitB (byteAt r k) = false) :
    ∃ v, runN 10 3 r.data.toList 0 = (v, k) ∧ Lib.parseMag (r.extract 0 k).data.toList = .ok v ∧ v ≤ 999 := by
  obtain ⟨c0, e0, l0⟩ := drop_at r 0 (by omega)
  rw [List.drop_zero] at l0
  have g0 := digit_is (hd 0 (by omega))
  rw [← e0] at g0
  rw [Lib.extract_data, List.drop_zero, Nat.sub_zero]
  rcases (show k = 1 ∨ k = 2 ∨ k = 3 from by omega) with rfl | rfl | rfl
  · have s1 := run_stop (m := 2) (a := 0 * 10 + (c0.toNat - 48)) hks (hstop.resolve_left (by omega))
    refine ⟨0 * 10 + (c0.toNat - 48), ?_, ?_, by omega⟩
    · rw [l0, run_yes (hexD_dig g0) (by omega), s1]
    · rw [l0]
      show Lib.parseMag [c0] = _
      rw [Lib.parseMag, if_neg (by simp), pu_yes g0 (by omega)]; rfl
  · obtain ⟨c1, e1, l1⟩ := drop_at r (0 + 1) (by omega)
    have g1 := digit_is (hd 1 (by omega))
    rw [← e1] at g1
    have s1 := run_stop (m := 1) (a := (0 * 10 + (c0.toNat - 48)) * 10 + (c1.toNat - 48)) hks (hstop.resolve_left (by omega))
    refine ⟨(0 * 10 + (c0.toNat - 48)) * 10 + (c1.toNat - 48), ?_, ?_, by omega⟩
    · rw [l0, run_yes (hexD_dig g0) (by omega), l1, run_yes (hexD_dig g1) (by omega), s1]
    · rw [l0, l1]
      show Lib.parseMag [c0, c1] = _
      rw [Lib.parseMag, if_neg (by simp), pu_yes g0 (by omega), pu_yes g1 (by omega)]; rfl
  · obtain ⟨c1, e1, l1⟩ := drop_at r (0 + 1) (by omega)
    have g1 := digit_is (hd 1 (by omega))
    rw [← e1] at g1
    obtain ⟨c2, e2, l2⟩ := drop_at r (0 + 1 + 1) (by omega)
    have g2 := digit_is (hd 2 (by omega))
    rw [← e2] at g2
    refine ⟨((0 * 10 + (c0.toNat - 48)) * 10 + (c1.toNat - 48)) * 10 + (c2.toNat - 48), ?_, ?_, by omega⟩
    · rw [l0, run_yes (hexD_dig g0) (by omega), l1, run_yes (hexD_dig g1) (by omega), l2, run_yes (hexD_dig g2) (by omega)]; rfl
    · rw [l0, l1, l2]
      show Lib.parseMag [c0, c1, c2] = _
      rw [Lib.parseMag, if_neg (by simp), pu_yes g0 (by omega), pu_yes g1 (by omega), pu_yes g2 (by omega)]; rfl

/-- What a backslash and digits say. -/
theorem esc_digits {r : ByteArray} {v k : Nat} (h0 : 0 < r.size) (hd : digitB (byteAt r 0) = true) (hk : 1 ≤ k) (h : runN 10 3 r.data.toList 0 = (v, k)) :
    escL r.data.toList = if v ≤ 255 then some ([UInt8.ofNat v], k + 1) else none := by
  have hb := digit_is hd
  have hl : letterN (byteAt r 0) = none := by
    unfold letterN
    rw [if_neg (by omega), if_neg (by omega), if_neg (by omega), if_neg (by omega), if_neg (by omega), if_neg (by omega), if_neg (by omega), if_neg (by omega), if_neg (by omega), if_neg (by omega)]
  have := esc_num (s := r) (p := 0) h0 (by omega) hl (by omega) (by omega) (by omega)
  rw [List.drop_zero, h] at this
  rw [this]
  by_cases hv : v ≤ 255
  · rw [if_pos ⟨hk, hv⟩, if_pos hv]
  · rw [if_neg (fun g => hv g.2), if_neg hv]

/-! ### Hexadecimal digits -/
theorem hexD_at {b v : Nat} (h : hexB b = true) (hv : hexV b = v) : hexD b = some v := by rw [hexD_some h, hv]; rfl
theorem hex_at_yes {r : ByteArray} {p m a v : Nat} (h : p < r.size) (hb : hexB (byteAt r p) = true) (hv : hexV (byteAt r p) = v) (h16 : v < 16) :
    runN 16 (m + 1) (r.data.toList.drop p) a = ((runN 16 m (r.data.toList.drop (p + 1)) (a * 16 + v)).1, (runN 16 m (r.data.toList.drop (p + 1)) (a * 16 + v)).2 + 1) := by
  obtain ⟨c, e, hl⟩ := drop_at r p h
  rw [hl, run_yes (by rw [e]; exact hexD_at hb hv) h16]
theorem hex_at_no {r : ByteArray} {p m a : Nat} (h : p < r.size) (hb : hexB (byteAt r p) = false) : runN 16 m (r.data.toList.drop p) a = (a, 0) := by
  obtain ⟨c, e, hl⟩ := drop_at r p h
  cases m with
  | zero => rfl
  | succ m => rw [hl, run_no (.inl (by rw [e]; exact hexD_none hb))]
theorem hex_at_end {r : ByteArray} {p m a : Nat} (h : r.size ≤ p) : runN 16 m (r.data.toList.drop p) a = (a, 0) := by
  rw [List.drop_of_length_le (show r.data.toList.length ≤ p from h), run_nil]

theorem esc_x_no {r : ByteArray} (h0 : 0 < r.size) (hx : byteAt r 0 = 120) (h : r.size < 3 ∨ hexB (byteAt r 1) = false ∨ hexB (byteAt r 2) = false) : escL r.data.toList = none := by
  have he := esc_x (s := r) (p := 0) h0 hx
  rw [List.drop_zero] at he
  rw [he, if_neg]
  intro h2
  have hc := run_count 16 2 (r.data.toList.drop (0 + 1)) 0
  rw [List.length_drop, h2, show r.data.toList.length = r.size from rfl] at hc
  cases h1 : hexB (byteAt r (0 + 1)) with
  | false => rw [hex_at_no (by omega) h1] at h2; cases h2
  | true =>
    obtain ⟨v, hv⟩ : ∃ v : Nat, hexV (byteAt r (0 + 1)) = v := ⟨(hexV (byteAt r (0 + 1))).toNat, by have := hexV_range (byteAt r (0 + 1)); omega⟩
    have h16 := hexV_range (byteAt r (0 + 1))
    rw [hex_at_yes (by omega) h1 hv (by omega)] at h2
    have h3 : hexB (byteAt r (0 + 1 + 1)) = false := (h.resolve_left (by omega)).resolve_left (by rw [show (1 : Nat) = 0 + 1 from rfl, h1]; decide)
    rw [hex_at_no (by omega) h3] at h2
    cases h2
theorem esc_x_yes {r : ByteArray} {v u : Nat} (h3 : 3 ≤ r.size) (hx : byteAt r 0 = 120) (h1 : hexB (byteAt r 1) = true) (h2 : hexB (byteAt r 2) = true) (hv : hexV (byteAt r 1) = v) (hu : hexV (byteAt r 2) = u) :
    escL r.data.toList = some ([UInt8.ofNat (v * 16 + u)], 3 + 1) := by
  have he := esc_x (s := r) (p := 0) (by omega) hx
  have b1 := hexV_range (byteAt r 1)
  have b2 := hexV_range (byteAt r 2)
  rw [List.drop_zero] at he
  have hr : runN 16 2 (r.data.toList.drop (0 + 1)) 0 = (v * 16 + u, 2) := by
    rw [hex_at_yes (p := 0 + 1) (by omega) h1 hv (by omega), hex_at_yes (p := 0 + 1 + 1) (by omega) h2 hu (by omega), show runN 16 0 (r.data.toList.drop (0 + 1 + 1 + 1)) ((0 * 16 + v) * 16 + u) = ((0 * 16 + v) * 16 + u, 0) from rfl, Nat.zero_mul, Nat.zero_add]
  rw [he, hr, if_pos rfl]

theorem or16 (a v : Nat) (ha : a ≤ 2147483648) (hv : v ≤ 15) : bits .or .i64 ((a : Int) * 16) (v : Int) = (a : Int) * 16 + v := by
  have h1 : (BitVec.ofInt 64 ((a : Int) * 16)).toNat = a * 16 := by rw [BitVec.toNat_ofInt]; omega
  have h2 : (BitVec.ofInt 64 (v : Int)).toNat = v := by rw [BitVec.toNat_ofInt]; omega
  show IntKind.i64.wrap ((BitVec.ofInt 64 ((a : Int) * 16) ||| BitVec.ofInt 64 (v : Int)).toNat : Nat) = _
  rw [BitVec.toNat_or, h1, h2, nat_join 4 _ _ (by omega) (by omega), IntKind.wrap_i64]
  omega
/-- The number stays where it is too great. -/
theorem cap16 (a v : Nat) : min (min a 2147483648 * 16 + v) 2147483648 = min (a * 16 + v) 2147483648 := by omega

/-! ### Letters -/
def ownLetters : ByteArray := ⟨#[97, 98, 102, 110, 114, 116, 118, 92, 34, 39]⟩
def ownWorths : ByteArray := ⟨#[7, 8, 12, 10, 13, 9, 11, 92, 34, 39]⟩
theorem own_miss : ∀ b < 256, letterN b = none → Lib.indexByte ownLetters.data.toList (UInt8.ofNat b) = -1 := by decide +kernel
theorem own_hit : ∀ b < 256, ∀ v, letterN b = some v → ∃ k : Nat, k < 10 ∧ Lib.indexByte ownLetters.data.toList (UInt8.ofNat b) = k ∧ (ownWorths.extract k (k + 1)).data.toList = [UInt8.ofNat v] := by
  have h : ∀ b < 256, ((letterN b).all fun v => (List.range 10).any fun k => decide (Lib.indexByte ownLetters.data.toList (UInt8.ofNat b) = k) && decide ((ownWorths.extract k (k + 1)).data.toList = [UInt8.ofNat v])) = true := by decide +kernel
  intro b hb v hv
  have := h b hb
  rw [hv] at this
  simp only [Option.all_some, List.any_eq_true, List.mem_range, Bool.and_eq_true, decide_eq_true_eq] at this
  obtain ⟨k, h1, h2, h3⟩ := this
  exact ⟨k, h1, h2, h3⟩

/-! ### The line's end -/
def lineK (r : ByteArray) : Nat := if isB r 1 (23 - byteAt r 0) = true then 2 else 1
theorem esc_line_at {r : ByteArray} (h : 0 < r.size) (hb : byteAt r 0 = 10 ∨ byteAt r 0 = 13) : escL r.data.toList = some ([10], lineK r + 1) := by
  have := esc_line (s := r) (p := 0) h hb
  rw [List.drop_zero] at this
  rw [this, lineK, Nat.zero_add]
  split <;> rfl

end Go.Proofs.YtajeghkmgcpgiaaGreatDoor
