/-
  Characters of a text, by the model's own decoder: plain arithmetic, nothing of the program.
-/
import Derived.Test.YtfciilkngmdlbaaRunesMath
namespace Go.Proofs.Ytfciilkngmdlbaa
open Go

set_option maxRecDepth 100000 in
theorem decodeN_width (n b0 b1 b2 b3 : Nat) (hn : 1 ≤ n) : 1 ≤ (Lib.decodeN n b0 b1 b2 b3).2 ∧ (Lib.decodeN n b0 b1 b2 b3).2 ≤ n ∧ (Lib.decodeN n b0 b1 b2 b3).2 ≤ 4 ∧ (Lib.decodeN n b0 b1 b2 b3).1 ≤ 1114111 := by
  unfold Lib.decodeN
  repeat' split
  all_goals (simp only; omega)

theorem dec_width (s : ByteArray) (i : Nat) (h : i < s.size) : 1 ≤ (Utf8.decode s i).2 ∧ i + (Utf8.decode s i).2 ≤ s.size ∧ (Utf8.decode s i).2 ≤ 4 ∧ (Utf8.decode s i).1 ≤ 1114111 := by
  rw [Lib.decode_at]
  have := decodeN_width (s.size - i) (s.get! i).toNat (s.get! (i + 1)).toNat (s.get! (i + 2)).toNat (s.get! (i + 3)).toNat (by omega)
  omega

theorem ite_both {α : Type} {p q : Prop} [Decidable p] [Decidable q] {a b c d : α} (h : p ↔ q) (ha : p → a = c) (hb : b = d) : (if p then a else b) = if q then c else d := by
  by_cases hp : p
  · rw [if_pos hp, if_pos (h.1 hp), ha hp]
  · rw [if_neg hp, if_neg (fun hq => hp (h.2 hq)), hb]

set_option maxRecDepth 100000 in
set_option maxHeartbeats 2000000 in
/-- What stands behind does not count, if it begins no byte that goes on. -/
theorem decodeN_ext (n m b0 b1 b2 b3 c1 c2 c3 : Nat) (hn : 1 ≤ n) (hm : n ≤ m)
    (h1 : n = 1 → m = 1 ∨ c1 / 64 ≠ 2) (h1' : 2 ≤ n → c1 = b1) (h2 : n = 2 → m = 2 ∨ c2 / 64 ≠ 2) (h2' : 3 ≤ n → c2 = b2) (h3 : n = 3 → m = 3 ∨ c3 / 64 ≠ 2) (h3' : 4 ≤ n → c3 = b3) :
    Lib.decodeN m b0 c1 c2 c3 = Lib.decodeN n b0 b1 b2 b3 := by
  unfold Lib.decodeN
  refine ite_both Iff.rfl (fun _ => rfl) (ite_both ⟨fun _ => by omega, fun _ => by omega⟩ (fun h => ?_) (ite_both ⟨fun _ => by omega, fun _ => by omega⟩ (fun h => ?_) (ite_both ⟨fun _ => by omega, fun _ => by omega⟩ (fun h => ?_) rfl)))
  · rw [h1' (by omega)]
  · rw [h1' (by omega), h2' (by omega)]
  · rw [h1' (by omega), h2' (by omega), h3' (by omega)]

theorem get!_append (a t : ByteArray) (i : Nat) : (a ++ t).get! i = if i < a.size then a.get! i else t.get! (i - a.size) := by
  have h1 : ∀ (x : ByteArray) (j : Nat), x.get! j = (x.data[j]?).getD default := by
    intro x j
    obtain ⟨d⟩ := x
    simp only [ByteArray.get!]
    simp [getElem!_def]
    cases d[j]? <;> rfl
  rw [h1, h1, h1, ByteArray.data_append, Array.getElem?_append]
  have e : a.data.size = a.size := rfl
  rw [e]
  split <;> rfl

/-- In a text with another one behind it, each character of the first is as it was, if the other does not begin with a byte that goes on. -/
theorem dec_append (a t : ByteArray) (i : Nat) (h : i < a.size) (ht : t.size = 0 ∨ (t.get! 0).toNat / 64 ≠ 2) : Utf8.decode (a ++ t) i = Utf8.decode a i := by
  rw [Lib.decode_at, Lib.decode_at]
  have hz : (a ++ t).size = a.size + t.size := ByteArray.size_append
  have g0 : (a ++ t).get! i = a.get! i := by rw [get!_append, if_pos h]
  rw [g0, hz]
  apply decodeN_ext
  · omega
  · omega
  · intro h1
    rcases ht with ht | ht
    · omega
    · right; rw [get!_append, if_neg (by omega), show i + 1 - a.size = 0 from by omega]; exact ht
  · intro h1; rw [get!_append, if_pos (by omega)]
  · intro h1
    rcases ht with ht | ht
    · omega
    · right; rw [get!_append, if_neg (by omega), show i + 2 - a.size = 0 from by omega]; exact ht
  · intro h1; rw [get!_append, if_pos (by omega)]
  · intro h1
    rcases ht with ht | ht
    · omega
    · right; rw [get!_append, if_neg (by omega), show i + 3 - a.size = 0 from by omega]; exact ht
  · intro h1; rw [get!_append, if_pos (by omega)]

/-- Behind the first text the other one's characters are as they were. -/
theorem dec_behind (a t : ByteArray) (i : Nat) : Utf8.decode (a ++ t) (a.size + i) = Utf8.decode t i := by
  rw [Lib.decode_at, Lib.decode_at]
  have hz : (a ++ t).size = a.size + t.size := ByteArray.size_append
  have g : ∀ j, (a ++ t).get! (a.size + i + j) = t.get! (i + j) := fun j => by
    rw [get!_append, if_neg (by omega), show a.size + i + j - a.size = i + j from by omega]
  have g0 := g 0
  simp only [Nat.add_zero] at g0
  rw [g0, g 1, g 2, g 3, hz, show a.size + t.size - (a.size + i) = t.size - i from by omega]

/-! ### All characters of a text, with their places -/

def eachF (s : ByteArray) : Nat → Nat → List (Int × Int)
  | 0, _ => []
  | f + 1, pos => if pos < s.size then (((Utf8.decode s pos).1 : Int), (pos : Int)) :: eachF s f (pos + (Utf8.decode s pos).2) else []

def eachAt (s : ByteArray) (pos : Nat) : List (Int × Int) := eachF s (s.size - pos) pos

theorem eachF_end (s : ByteArray) (f pos : Nat) (h : ¬ pos < s.size) : eachF s f pos = [] := by cases f <;> simp [eachF, h]

theorem eachF_more (s : ByteArray) : ∀ (f g pos : Nat), s.size - pos ≤ f → s.size - pos ≤ g → eachF s f pos = eachF s g pos := by
  intro f
  induction f with
  | zero => intro g pos h1 h2; rw [eachF_end s g pos (by omega), eachF_end s 0 pos (by omega)]
  | succ f ih =>
    intro g pos h1 h2
    by_cases h : pos < s.size
    · cases g with
      | zero => omega
      | succ g =>
        have hw := dec_width s pos h
        unfold eachF
        rw [if_pos h, if_pos h, ih g _ (by omega) (by omega)]
    · rw [eachF_end s _ pos h, eachF_end s _ pos h]

theorem eachAt_step (s : ByteArray) (pos : Nat) (h : pos < s.size) : eachAt s pos = (((Utf8.decode s pos).1 : Int), (pos : Int)) :: eachAt s (pos + (Utf8.decode s pos).2) := by
  unfold eachAt
  have hw := dec_width s pos h
  obtain ⟨k, hk⟩ : ∃ k, s.size - pos = k + 1 := ⟨s.size - pos - 1, by omega⟩
  rw [hk]
  conv => lhs; unfold eachF
  rw [if_pos h, eachF_more s k (s.size - (pos + (Utf8.decode s pos).2)) _ (by omega) (by omega)]

theorem eachAt_end (s : ByteArray) (pos : Nat) (h : ¬ pos < s.size) : eachAt s pos = [] := eachF_end s _ pos h

theorem eachAt_length (s : ByteArray) : ∀ (f pos : Nat), s.size - pos ≤ f → (eachAt s pos).length ≤ s.size - pos := by
  intro f
  induction f with
  | zero => intro pos h; rw [eachAt_end s pos (by omega)]; simp
  | succ f ih =>
    intro pos h
    by_cases hp : pos < s.size
    · have hw := dec_width s pos hp
      have := ih (pos + (Utf8.decode s pos).2) (by omega)
      rw [eachAt_step s pos hp, List.length_cons]
      omega
    · rw [eachAt_end s pos hp]; simp

/-- Whether all bytes from a place on are parts of characters. -/
def validF (s : ByteArray) : Nat → Nat → Bool
  | 0, _ => true
  | f + 1, pos => if pos < s.size then (!(decide ((Utf8.decode s pos).1 = 65533) && decide ((Utf8.decode s pos).2 = 1))) && validF s f (pos + (Utf8.decode s pos).2) else true

def validAt (s : ByteArray) (pos : Nat) : Bool := validF s (s.size - pos) pos

theorem validF_end (s : ByteArray) (f pos : Nat) (h : ¬ pos < s.size) : validF s f pos = true := by cases f <;> simp [validF, h]

theorem validF_more (s : ByteArray) : ∀ (f g pos : Nat), s.size - pos ≤ f → s.size - pos ≤ g → validF s f pos = validF s g pos := by
  intro f
  induction f with
  | zero => intro g pos h1 h2; rw [validF_end s g pos (by omega), validF_end s 0 pos (by omega)]
  | succ f ih =>
    intro g pos h1 h2
    by_cases h : pos < s.size
    · cases g with
      | zero => omega
      | succ g =>
        have hw := dec_width s pos h
        unfold validF
        rw [if_pos h, if_pos h, ih g _ (by omega) (by omega)]
    · rw [validF_end s _ pos h, validF_end s _ pos h]

theorem validAt_step (s : ByteArray) (pos : Nat) (h : pos < s.size) : validAt s pos = ((!(decide ((Utf8.decode s pos).1 = 65533) && decide ((Utf8.decode s pos).2 = 1))) && validAt s (pos + (Utf8.decode s pos).2)) := by
  unfold validAt
  have hw := dec_width s pos h
  obtain ⟨k, hk⟩ : ∃ k, s.size - pos = k + 1 := ⟨s.size - pos - 1, by omega⟩
  rw [hk]
  conv => lhs; unfold validF
  rw [if_pos h, validF_more s k (s.size - (pos + (Utf8.decode s pos).2)) _ (by omega) (by omega)]

theorem validAt_end (s : ByteArray) (pos : Nat) (h : ¬ pos < s.size) : validAt s pos = true := validF_end s _ pos h

/-- The characters of two texts, one behind the other. -/
theorem eachAt_append (a t : ByteArray) (ht : t.size = 0 ∨ (t.get! 0).toNat / 64 ≠ 2) : ∀ (f pos : Nat), a.size - pos ≤ f → pos ≤ a.size → eachAt (a ++ t) pos = eachAt a pos ++ eachAt (a ++ t) a.size := by
  have hz : (a ++ t).size = a.size + t.size := ByteArray.size_append
  intro f
  induction f with
  | zero => intro pos h1 h2; rw [show pos = a.size from by omega, eachAt_end a a.size (by omega)]; simp
  | succ f ih =>
    intro pos h1 h2
    by_cases hp : pos < a.size
    · have hw := dec_width a pos hp
      rw [eachAt_step (a ++ t) pos (by omega), eachAt_step a pos hp, dec_append a t pos hp ht, ih _ (by omega) (by omega)]
      simp
    · rw [show pos = a.size from by omega, eachAt_end a a.size (by omega)]; simp

theorem validAt_append (a t : ByteArray) (ht : t.size = 0 ∨ (t.get! 0).toNat / 64 ≠ 2) : ∀ (f pos : Nat), a.size - pos ≤ f → pos ≤ a.size → validAt (a ++ t) pos = (validAt a pos && validAt (a ++ t) a.size) := by
  have hz : (a ++ t).size = a.size + t.size := ByteArray.size_append
  intro f
  induction f with
  | zero => intro pos h1 h2; rw [show pos = a.size from by omega, validAt_end a a.size (by omega)]; simp
  | succ f ih =>
    intro pos h1 h2
    by_cases hp : pos < a.size
    · have hw := dec_width a pos hp
      rw [validAt_step (a ++ t) pos (by omega), validAt_step a pos hp, dec_append a t pos hp ht, ih _ (by omega) (by omega), Bool.and_assoc]
    · rw [show pos = a.size from by omega, validAt_end a a.size (by omega)]; simp

end Go.Proofs.Ytfciilkngmdlbaa
