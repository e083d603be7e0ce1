/-
  LexBack's mathematics: tokens that are written, with blanks or notes behind each, are read as the same.
  LexBack's mathematics: which tokens a text has, and how each is read again.
  LexBack's mathematics: what a text's tokens are, and what is read of them when they are written.
-/
import Derived.Test.YtajeghkmgcpgiaaGreatDoorLexOa
import Derived.Test.YtajeghkmgcpgiaaGreatDoorLexOh
import Derived.Lib.ItoaLen
namespace Go.Proofs.YtajeghkmgcpgiaaGreatDoor.Lex
open Go.RowKit

def key (t : Tok) : Nat × ByteArray × Int := (t.k, t.s, t.n)
def strip (l : List UInt8) : List UInt8 := l.drop (blanks l)
/-- What a text, without blanks ahead, is read as, but for lines. -/
inductive Rd : List UInt8 → List (Nat × ByteArray × Int) → Prop
  | fin : Rd [] [(6, ⟨#[]⟩, 0)]
  | note {D : List UInt8} {k : Nat} {ks : List (Nat × ByteArray × Int)} (h0 : D ≠ []) (h : noteL D = some (k + 1)) (r : Rd (strip (D.drop (k + 1))) ks) : Rd D ks
  | one {D : List UInt8} {ks : List (Nat × ByteArray × Int)} (h0 : D ≠ []) (h : noteL D = none) (he : (oneL D).e = 0) (r : Rd (strip (D.drop (oneL D).len)) ks) : Rd D (((oneL D).k, (oneL D).s, (oneL D).n) :: ks)
theorem strip_len (l : List UInt8) : (strip l).length ≤ l.length := by unfold strip; rw [List.length_drop]; omega
theorem Rd.read {D : List UInt8} {ks : List (Nat × ByteArray × Int)} (h : Rd D ks) : ∀ (l : List UInt8) (f ln : Nat) (acc : List Tok), strip l = D → l.length < f → ∃ ts, tokF f ln l acc = (acc ++ ts, 0, 0) ∧ ts.map key = ks := by
  induction h with
  | fin =>
    intro l f ln acc hl hf
    obtain ⟨m, rfl⟩ : ∃ m, f = m + 1 := ⟨f - 1, by omega⟩
    refine ⟨[⟨6, ⟨#[]⟩, 0, ln + linesOf (l.take (blanks l))⟩], ?_, rfl⟩
    have hl : l.drop (blanks l) = [] := hl
    rw [tokF, if_pos hl]
  | @note D k ks h0 hn r ih =>
    intro l f ln acc hl hf
    obtain ⟨m, rfl⟩ : ∃ m, f = m + 1 := ⟨f - 1, by omega⟩
    have hk := note_len hn
    have hsl := strip_len l
    rw [hl] at hsl
    obtain ⟨ts, h1, h2⟩ := ih (D.drop (k + 1)) m (ln + linesOf (l.take (blanks l)) + linesOf (D.take (k + 1))) acc rfl (by rw [List.length_drop]; omega)
    refine ⟨ts, ?_, h2⟩
    have hl : l.drop (blanks l) = D := hl
    rw [tokF, hl, if_neg h0, hn]
    exact h1
  | @one D ks h0 hn he r ih =>
    intro l f ln acc hl hf
    obtain ⟨m, rfl⟩ : ∃ m, f = m + 1 := ⟨f - 1, by omega⟩
    obtain ⟨hk1, hk⟩ := one_len he
    have hsl := strip_len l
    rw [hl] at hsl
    obtain ⟨ts, h1, h2⟩ := ih (D.drop (oneL D).len) m (ln + linesOf (l.take (blanks l)) + linesOf (D.take (oneL D).len)) (acc ++ [⟨(oneL D).k, (oneL D).s, (oneL D).n, ln + linesOf (l.take (blanks l))⟩]) rfl (by rw [List.length_drop]; omega)
    refine ⟨⟨(oneL D).k, (oneL D).s, (oneL D).n, ln + linesOf (l.take (blanks l))⟩ :: ts, ?_, ?_⟩
    · have hl : l.drop (blanks l) = D := hl
      rw [tokF, hl, if_neg h0, hn]
      simp only []
      rw [if_pos he, h1, List.append_assoc, List.singleton_append]
    · rw [List.map_cons, h2]; rfl

/-! ### Gaps -/
def gapsT : List ByteArray := [⟨#[32]⟩, ⟨#[10]⟩, ⟨#[9, 32, 9]⟩, ⟨#[32, 45, 45, 120, 10]⟩, ⟨#[32, 45, 45, 91, 91, 32, 93, 93, 32]⟩, ⟨#[13, 10]⟩, ⟨#[32, 45, 45, 91, 61, 91, 10, 93, 93, 93, 61, 93]⟩, ⟨#[11, 12]⟩]
theorem strip_space {c : UInt8} (h : spaceB c.toNat = true) (X : List UInt8) : strip (c :: X) = strip X := by
  unfold strip
  rw [blanks, if_pos (show spaceL c.toNat = true from h), List.drop_succ_cons]
theorem strip_none {c : UInt8} (h : spaceB c.toNat = false) (X : List UInt8) : strip (c :: X) = c :: X := by
  unfold strip
  rw [blanks, if_neg (by rw [show spaceL c.toNat = spaceB c.toNat from rfl, h]; decide), List.drop_zero]
theorem note_a (X : List UInt8) : noteL (45 :: 45 :: 120 :: 10 :: X) = some 3 := rfl
theorem note_b (X : List UInt8) : noteL (45 :: 45 :: 91 :: 91 :: 32 :: 93 :: 93 :: 32 :: X) = some 7 := rfl
theorem note_c (X : List UInt8) : noteL (45 :: 45 :: 91 :: 61 :: 91 :: 10 :: 93 :: 93 :: 93 :: 61 :: 93 :: X) = some 11 := rfl
theorem gap_read {X : List UInt8} {ks : List (Nat × ByteArray × Int)} (h : Rd (strip X) ks) : ∀ k (hk : k < 8), ∃ c Y, (gapsT[k]'hk).data.toList ++ X = c :: Y ∧ spaceB c.toNat = true ∧ Rd (strip (c :: Y)) ks
  | 0, _ => ⟨32, X, rfl, by decide, by rw [strip_space (by decide)]; exact h⟩
  | 1, _ => ⟨10, X, rfl, by decide, by rw [strip_space (by decide)]; exact h⟩
  | 2, _ => ⟨9, 32 :: 9 :: X, rfl, by decide, by rw [strip_space (by decide), strip_space (by decide), strip_space (by decide)]; exact h⟩
  | 3, _ => ⟨32, 45 :: 45 :: 120 :: 10 :: X, rfl, by decide, by
      rw [strip_space (by decide), strip_none (by decide)]
      refine .note (by simp) (note_a X) ?_
      rw [show (45 :: 45 :: 120 :: 10 :: X : List UInt8).drop (2 + 1) = 10 :: X from rfl, strip_space (by decide)]
      exact h⟩
  | 4, _ => ⟨32, 45 :: 45 :: 91 :: 91 :: 32 :: 93 :: 93 :: 32 :: X, rfl, by decide, by
      rw [strip_space (by decide), strip_none (by decide)]
      refine .note (by simp) (note_b X) ?_
      rw [show (45 :: 45 :: 91 :: 91 :: 32 :: 93 :: 93 :: 32 :: X : List UInt8).drop (6 + 1) = 32 :: X from rfl, strip_space (by decide)]
      exact h⟩
  | 5, _ => ⟨13, 10 :: X, rfl, by decide, by rw [strip_space (by decide), strip_space (by decide)]; exact h⟩
  | 6, _ => ⟨32, 45 :: 45 :: 91 :: 61 :: 91 :: 10 :: 93 :: 93 :: 93 :: 61 :: 93 :: X, rfl, by decide, by
      rw [strip_space (by decide), strip_none (by decide)]
      refine .note (by simp) (note_c X) ?_
      rw [show (45 :: 45 :: 91 :: 61 :: 91 :: 10 :: 93 :: 93 :: 93 :: 61 :: 93 :: X : List UInt8).drop (10 + 1) = X from rfl]
      exact h⟩
  | 7, _ => ⟨11, 12 :: X, rfl, by decide, by rw [strip_space (by decide), strip_space (by decide)]; exact h⟩

/-! ### Numbers -/
theorem digit_nat {u : Nat} (h : u < 10) : (UInt8.ofNat (48 + u)).toNat = 48 + u := by
  rw [UInt8.toNat_ofNat']; omega
theorem digits_all : ∀ (u : Nat), ∀ c ∈ Lib.decDigits u, 48 ≤ c.toNat ∧ c.toNat ≤ 57 := by
  intro u
  induction u using Nat.strongRecOn with
  | _ u ih =>
    intro c hc
    by_cases h : u < 10
    · rw [Lib.decDigits_one h] at hc
      obtain rfl := List.mem_singleton.1 hc
      rw [digit_nat h]; omega
    · rw [Lib.decDigits, dif_neg h] at hc
      rcases List.mem_append.1 hc with hc | hc
      · exact ih (u / 10) (by omega) c hc
      · obtain rfl := List.mem_singleton.1 hc
        rw [digit_nat (by omega)]; omega
theorem digits_some (u : Nat) : 1 ≤ (Lib.decDigits u).length := by rw [Lib.decDigits_length]; exact Lib.nDigits_pos u
theorem uint10_one {a d : Nat} (r : List UInt8) (hd : d < 10) (h : a * 10 + d ≤ 9223372036854775808) : Lib.parseUint10 a (UInt8.ofNat (48 + d) :: r) = Lib.parseUint10 (a * 10 + d) r := by
  rw [Lib.parseUint10, digit_nat hd, if_pos (by omega), if_neg (by omega), show 48 + d - 48 = d from by omega, if_neg (by omega)]
theorem uint10_digits : ∀ (u : Nat), u ≤ 9223372036854775808 → ∀ r, Lib.parseUint10 0 (Lib.decDigits u ++ r) = Lib.parseUint10 u r := by
  intro u
  induction u using Nat.strongRecOn with
  | _ u ih =>
    intro hu r
    by_cases h : u < 10
    · rw [Lib.decDigits_one h, List.singleton_append, uint10_one r h (by omega), Nat.zero_mul, Nat.zero_add]
    · rw [Lib.decDigits, dif_neg h, List.append_assoc, List.singleton_append, ih (u / 10) (by omega) (by omega), uint10_one r (by omega) (by omega)]
      congr 1; omega
theorem mag_of (u : Nat) (hu : u ≤ 9223372036854775808) : Lib.parseMag (Lib.decDigits u) = .ok u := by
  have h := digits_some u
  rw [Lib.parseMag, if_neg (fun e => by rw [e] at h; simp at h)]
  have := uint10_digits u hu []
  rw [List.append_nil] at this
  rw [this]; rfl

def hexC (d : Nat) : UInt8 := UInt8.ofNat (if d < 10 then 48 + d else 87 + d)
theorem hexC_is : ∀ d < 16, Num.hexB (hexC d).toNat = true ∧ (Num.hexV (hexC d).toNat).toNat = d ∧ (digitB (hexC d).toNat || letterB (hexC d).toNat) = true := by decide +kernel
theorem mod_16 (n : Int) : ((n % 16).toNat) < 16 := by omega
/-- The lowest j digits of base 16, ahead of s. -/
def hexS : Nat → Int → List UInt8 → List UInt8
  | 0, _, s => s
  | j + 1, m, s => hexS j (m / 16) (hexC (m % 16).toNat :: s)
/-- Of n the lowest i digits stand in s; m is what is left. -/
structure HexAt (n : Int) (i : Nat) (m : Int) (s : List UInt8) : Prop where
  val : ∃ v : Nat, (∀ a, Num.hexN s a = some (a * 16 ^ i + v)) ∧ (v : Int) + 16 ^ i * m = n
  len : s.length = i
  all : ∀ c ∈ s, (digitB c.toNat || letterB c.toNat) = true
theorem HexAt.zero (n : Int) : HexAt n 0 n [] := ⟨⟨0, fun a => by rw [Num.hexN]; simp, by simp⟩, rfl, fun c h => by cases h⟩
theorem HexAt.step {n : Int} {i : Nat} {m : Int} {s : List UInt8} (h : HexAt n i m s) : HexAt n (i + 1) (m / 16) (hexC (m % 16).toNat :: s) := by
  obtain ⟨⟨v, h1, h2⟩, h3, h4⟩ := h
  obtain ⟨g1, g2, g3⟩ := hexC_is _ (mod_16 m)
  refine ⟨⟨v + 16 ^ i * (m % 16).toNat, fun a => ?_, ?_⟩, by rw [List.length_cons, h3], fun c hc => ?_⟩
  · rw [Num.hexN, if_pos g1, g2, h1]
    congr 1
    rw [Nat.pow_succ, Nat.add_mul, Nat.mul_comm (m % 16).toNat, Nat.mul_assoc a 16, Nat.mul_comm 16 (16 ^ i)]
    omega
  · have e : ((m % 16).toNat : Int) = m % 16 := by omega
    rw [Int.natCast_add, Int.natCast_mul, e, Int.pow_succ, Int.natCast_pow, ← h2]
    have hm : m = m % 16 + 16 * (m / 16) := by omega
    have hq : (16 : Int) ^ i * m = 16 ^ i * (m % 16) + 16 ^ i * 16 * (m / 16) := by
      conv => lhs; rw [hm]
      rw [Int.mul_add, Int.mul_assoc]
    have hc : ((16 : Nat) : Int) = 16 := rfl
    rw [hc, hq, Int.add_assoc]
  · rcases List.mem_cons.1 hc with rfl | hc
    · exact g3
    · exact h4 c hc
theorem HexAt.many {n : Int} : ∀ (j i : Nat) (m : Int) (s : List UInt8), HexAt n i m s → ∃ m', HexAt n (i + j) m' (hexS j m s)
  | 0, i, m, s, h => ⟨m, h⟩
  | j + 1, i, m, s, h => by
    obtain ⟨m', h'⟩ := HexAt.many j (i + 1) _ _ h.step
    exact ⟨m', by rw [show i + (j + 1) = i + 1 + j by omega]; exact h'⟩
def hexD (n : Int) : List UInt8 := hexS 16 n []
theorem hexD_is (n : Int) : (hexD n).length = 16 ∧ (∀ c ∈ hexD n, (digitB c.toNat || letterB c.toNat) = true) ∧ ∃ v : Nat, Num.hexN (hexD n) 0 = some v ∧ ∃ m : Int, (v : Int) + 18446744073709551616 * m = n := by
  obtain ⟨m, h⟩ := HexAt.many 16 0 n [] (HexAt.zero n)
  obtain ⟨⟨v, h1, h2⟩, h3, h4⟩ := h
  refine ⟨h3, h4, v, ?_, m, ?_⟩
  · have := h1 0
    rw [Nat.zero_mul, Nat.zero_add] at this
    exact this
  · exact h2

end Go.Proofs.YtajeghkmgcpgiaaGreatDoor.Lex

namespace Go.Proofs.YtajeghkmgcpgiaaGreatDoor.Lex
open Go.RowKit

/-- A token as LexBack writes it. -/
def wrt (t : Tok) : List UInt8 := if t.k = 4 then (if t.n < 0 then 48 :: 120 :: hexD t.n else Lib.itoa t.n) else if t.k = 5 then 34 :: (quotL t.s.data.toList ++ [34]) else t.s.data.toList
def nameOk (l : List UInt8) : Prop := letterB (hd l) = true ∧ ∀ c ∈ l, (letterB c.toNat || digitB c.toNat) = true
/-- A token that a text may have, but for its end. -/
structure Fit (t : Tok) : Prop where
  small : t.s.size ≤ 20000
  is : (t.k = (if wordB t.s = true then 2 else 1) ∧ t.n = 0 ∧ nameOk t.s.data.toList) ∨ (t.k = 3 ∧ t.n = 0 ∧ t.s ∈ signsT) ∨ (t.k = 4 ∧ t.s = ⟨#[]⟩ ∧ Num.In64 t.n) ∨ (t.k = 5 ∧ t.n = 0)

/-! ### How each is read -/
def Reads1 (W : List UInt8) (k : Nat) (s : ByteArray) (n : Int) : Prop := ∀ (sp : UInt8) (Y : List UInt8), spaceB sp.toNat = true →
  strip (W ++ sp :: Y) = W ++ sp :: Y ∧ noteL (W ++ sp :: Y) = none ∧ oneL (W ++ sp :: Y) = ⟨k, s, n, W.length, 0⟩
theorem hd_app {W X : List UInt8} (h : W ≠ []) : hd (W ++ X) = hd W := by
  cases W with
  | nil => exact absurd rfl h
  | cons c r => rfl
theorem strip_hd {D : List UInt8} (h : spaceB (hd D) = false) : strip D = D := by
  cases D with
  | nil => rfl
  | cons c r => exact strip_none h r
theorem note_hd {D : List UInt8} (h : hd D ≠ 45 ∨ hd (D.drop 1) ≠ 45) : noteL D = none := by
  refine note_no ?_
  rw [has_two _ _ _ (by decide) (by decide), show (45 : UInt8).toNat = 45 from rfl]
  rcases h with h | h
  · rw [decide_eq_false h]; rfl
  · rw [decide_eq_false h, Bool.and_false]
theorem space_is {b : Nat} (h : spaceB b = true) : 9 ≤ b ∧ b ≤ 13 ∨ b = 32 := by unfold spaceB at h; simpa using h
theorem letter_is {b : Nat} : letterB b = true ↔ (65 ≤ b ∧ b ≤ 90 ∨ 97 ≤ b ∧ b ≤ 122 ∨ b = 95) := by unfold letterB; simp
theorem digit_is {b : Nat} : digitB b = true ↔ (48 ≤ b ∧ b ≤ 57) := by unfold digitB; simp
theorem space_not {b : Nat} : spaceB b = false ↔ ¬ (9 ≤ b ∧ b ≤ 13 ∨ b = 32) := by unfold spaceB; simp
theorem nameRun_app : ∀ (W : List UInt8) (sp : UInt8) (Y : List UInt8), (∀ c ∈ W, (letterB c.toNat || digitB c.toNat) = true) → spaceB sp.toNat = true → nameRun (W ++ sp :: Y) = W.length
  | [], sp, Y, _, hs => by
    have := space_is hs
    rw [List.nil_append, nameRun, if_neg]
    · rfl
    · rw [Bool.or_eq_true, letter_is, digit_is]; omega
  | c :: r, sp, Y, h, hs => by
    rw [List.cons_append, nameRun, if_pos (h c List.mem_cons_self), nameRun_app r sp Y (fun d hd' => h d (List.mem_cons_of_mem _ hd')) hs]; rfl
theorem take_app (W X : List UInt8) : (W ++ X).take W.length = W := by rw [List.take_left]
theorem reads_name {s : ByteArray} (h : nameOk s.data.toList) : Reads1 s.data.toList (if wordB s = true then 2 else 1) s 0 := by
  intro sp Y hs
  obtain ⟨h1, h2⟩ := h
  have hne : s.data.toList ≠ [] := fun e => by rw [e] at h1; exact absurd h1 (by decide)
  have hh := hd_app (X := sp :: Y) hne
  have hl := letter_is.1 h1
  have hn := nameRun_app s.data.toList sp Y h2 hs
  have hL : nameL (s.data.toList ++ sp :: Y) = s.data.toList.length := by rw [nameL, hh, if_pos h1, hn]
  have hT : nameT (s.data.toList ++ sp :: Y) = s := by
    unfold nameT
    rw [hL, take_app]
  refine ⟨strip_hd (by rw [hh]; exact space_not.2 (by omega)), note_hd (.inl (by rw [hh]; omega)), ?_⟩
  rw [oneL, hh, if_pos h1, hT, hL]

theorem sign_facts : ∀ k (h : k < 31), (signsT[k]'h).data.toList ≠ [] ∧ letterB (hd (signsT[k]'h).data.toList) = false ∧ digitB (hd (signsT[k]'h).data.toList) = false ∧ spaceB (hd (signsT[k]'h).data.toList) = false ∧
    hd (signsT[k]'h).data.toList ≠ 34 ∧ hd (signsT[k]'h).data.toList ≠ 39 ∧
    (hd (signsT[k]'h).data.toList = 46 → (signsT[k]'h).data.toList.drop 1 = [] ∨ hd ((signsT[k]'h).data.toList.drop 1) = 46) ∧ (hd (signsT[k]'h).data.toList = 91 → (signsT[k]'h).data.toList.drop 1 = []) ∧ (hd (signsT[k]'h).data.toList = 45 → (signsT[k]'h).data.toList.drop 1 = []) ∧
    ((signsT[k]'h).data.toList.all fun c => !spaceB c.toNat) = true := by decide +kernel
theorem drop_app {W X : List UInt8} (h : W ≠ []) : (W ++ X).drop 1 = W.drop 1 ++ X := by
  cases W with
  | nil => exact absurd rfl h
  | cons c r => rfl
theorem prefix_app : ∀ (t W : List UInt8) (sp : UInt8) (Y : List UInt8), (t.all fun c => !spaceB c.toNat) = true → spaceB sp.toNat = true → t.isPrefixOf (W ++ sp :: Y) = true → t.length ≤ W.length
  | [], W, sp, Y, _, _, _ => Nat.zero_le _
  | c :: r, [], sp, Y, ht, hs, hp => by
    have h : ((c == sp) && r.isPrefixOf Y) = true := hp
    rw [Bool.and_eq_true, beq_iff_eq] at h
    rw [List.all_cons, h.1, hs] at ht
    cases ht
  | c :: r, d :: W, sp, Y, ht, hs, hp => by
    have h : ((c == d) && r.isPrefixOf (W ++ sp :: Y)) = true := hp
    rw [Bool.and_eq_true] at h
    rw [List.all_cons, Bool.and_eq_true] at ht
    have := prefix_app r W sp Y ht.2 hs h.2
    simp only [List.length_cons]; omega
theorem prefix_self (W X : List UInt8) : W.isPrefixOf (W ++ X) = true := by rw [List.isPrefixOf_iff_prefix]; exact List.prefix_append W X
theorem reads_sign {s : ByteArray} (h : s ∈ signsT) : Reads1 s.data.toList 3 s 0 := by
  intro sp Y hs
  obtain ⟨k, hk, rfl⟩ := List.getElem_of_mem h
  have hk31 : k < 31 := hk
  obtain ⟨h1, h2, h3, h4, h5, h6, h7, h8, h9, h10⟩ := sign_facts k hk31
  have hsp := space_is hs
  have hsz := signs_least k hk31
  generalize hW : signsT[k]'hk = s at *
  have hh := hd_app (X := sp :: Y) h1
  have hd1 := drop_app (X := sp :: Y) h1
  have hz : ∀ Z : List UInt8, Z = [] → hd (Z ++ sp :: Y) = sp.toNat := fun Z e => by rw [e]; rfl
  have hn0 : numL (s.data.toList ++ sp :: Y) = 0 := by
    unfold numL
    rw [hh, hd1, h3, Bool.false_or]
    rw [if_neg]
    rw [Bool.and_eq_true, decide_eq_true_eq]
    rintro ⟨e, g⟩
    rcases h7 e with e2 | e2
    · rw [hz _ e2] at g
      have := digit_is.1 g
      omega
    · have hne : s.data.toList.drop 1 ≠ [] := fun e3 => by rw [e3] at e2; cases e2
      rw [hd_app hne, e2] at g
      exact absurd g (by decide)
  have hb : brkB (s.data.toList ++ sp :: Y) = false := by
    unfold brkB
    rw [hh]
    by_cases e : hd s.data.toList = 91
    · rw [hd1, h8 e, List.nil_append, eqsL, if_neg (by omega), show (s.data.toList ++ sp :: Y).drop (0 + 1) = (s.data.toList ++ sp :: Y).drop 1 from rfl, hd1, h8 e, decide_eq_false (show ¬ hd ([] ++ sp :: Y) = 91 from fun g => by have g' : sp.toNat = 91 := g; omega), Bool.and_false]
    · rw [decide_eq_false e]; rfl
  have hL : longL (s.data.toList ++ sp :: Y) = none := by rw [long_brk, if_neg (by rw [hb]; decide)]
  have hp2 : ([91, 61] : List UInt8).isPrefixOf (s.data.toList ++ sp :: Y) = false := by
    rw [has_two _ _ _ (by decide) (by decide), show (91 : UInt8).toNat = 91 from rfl, show (61 : UInt8).toNat = 61 from rfl, hh]
    by_cases e : hd s.data.toList = 91
    · rw [hd1, hz _ (h8 e), decide_eq_false (show ¬ sp.toNat = 61 by omega), Bool.and_false]
    · rw [decide_eq_false e]; rfl
  have hT : signT (s.data.toList ++ sp :: Y) = s := by
    have hg := (best_ge (s.data.toList ++ sp :: Y) signsT ⟨#[]⟩).2 s h (prefix_self _ _)
    rcases best_in (s.data.toList ++ sp :: Y) signsT ⟨#[]⟩ with e | ⟨hm, hp⟩
    · rw [e] at hg
      have : (⟨#[]⟩ : ByteArray).size = 0 := rfl
      omega
    · obtain ⟨j, hj, e⟩ := List.getElem_of_mem hm
      have ha := (sign_facts j hj).2.2.2.2.2.2.2.2.2
      rw [e] at ha
      have hle := prefix_app _ s.data.toList sp Y ha hs hp
      have := prefix_same hp (prefix_self s.data.toList (sp :: Y)) (Nat.le_antisymm hle hg)
      apply ByteArray.ext
      apply Array.ext'
      exact this
  refine ⟨strip_hd (by rw [hh]; exact h4), note_hd ?_, ?_⟩
  · by_cases e : hd s.data.toList = 45
    · right
      rw [hd1, hz _ (h9 e)]; omega
    · left; rw [hh]; exact e
  · rw [oneL, hh, if_neg (by rw [h2]; decide), if_neg (by rw [hn0]; decide), hL]
    simp only []
    rw [if_neg (by omega), if_neg (by rw [hp2]; decide), signO, hT, if_neg (by omega)]
    rfl
theorem reads_text (s : ByteArray) : Reads1 (34 :: (quotL s.data.toList ++ [34])) 5 s 0 := by
  intro sp Y hs
  have hu := unquote_quote s.data.toList
  have hq : quoteK 34 0 (quotL s.data.toList ++ [34]) = some (quotL s.data.toList ++ [34]).length := by
    have hu2 := hu
    rw [unquotL, if_pos (.inl rfl)] at hu2
    exact quote_parts (.inl rfl) _ _ _ hu2
  have hq2 : quoteK 34 0 ((quotL s.data.toList ++ [34]) ++ sp :: Y) = some (quotL s.data.toList ++ [34]).length :=
    quote_take 34 _ 0 (quotL s.data.toList ++ [34]).length _ (by rw [take_app]; exact hq)
  generalize hB : quotL s.data.toList ++ [34] = B at *
  have hH : hd ((34 :: B) ++ sp :: Y) = 34 := rfl
  have hD : ((34 :: B) ++ sp :: Y).drop 1 = B ++ sp :: Y := rfl
  have hN : quoteN 34 (B ++ sp :: Y) = (34 :: B : List UInt8).length := by
    unfold quoteN
    rw [hq2]; rfl
  have hT : quoteT' ((34 :: B) ++ sp :: Y) = 34 :: B := by
    unfold quoteT'
    rw [hH, hD, hN, take_app]
  have hL : longL ((34 :: B) ++ sp :: Y) = none := by
    rw [long_brk, if_neg]
    unfold brkB
    rw [hH, decide_eq_false (show ¬ 34 = 91 by decide), Bool.false_and]
    decide
  have hM : numL ((34 :: B) ++ sp :: Y) = 0 := by
    unfold numL
    rw [hH, if_neg (by simp [digitB])]
  refine ⟨strip_hd (by rw [hH]; decide), note_hd (.inl (by rw [hH]; decide)), ?_⟩
  rw [oneL, hH, if_neg (by decide), if_neg (by rw [hM]; decide), hL]
  simp only []
  rw [if_pos (by decide), hT, hD, hN]
  unfold unqT unqE
  rw [hu]
  rfl

/-! ### Numbers, read again -/
theorem parse_plain {T : ByteArray} (h : NumT T) : Num.parseOf T = Num.restOf T 0 T.size false := by
  have hs0 := (ch_small (h.ch 0 h.pos)).2
  have hs1 := (ch_small (h.ch (T.size - 1) (by have := h.pos; omega))).2
  have e1 : Num.loFrom T 0 = 0 := Num.loFrom_no h.pos hs0
  have e2 : Num.hiFrom T 0 T.size = T.size := Num.hiFrom_no h.pos hs1
  have f : byteAt T 0 ≠ 45 ∧ byteAt T 0 ≠ 43 := by
    rcases h.first with g | g
    · have := digit_is.1 g; omega
    · omega
  have e3 : Num.negAt T 0 T.size = false := by
    unfold Num.negAt
    rw [show Num.byteAt T 0 = byteAt T 0 from rfl, decide_eq_false f.1, Bool.and_false]
  have e4 : Num.plusAt T 0 T.size = false := by
    unfold Num.plusAt
    rw [show Num.byteAt T 0 = byteAt T 0 from rfl, decide_eq_false f.2, Bool.and_false]
  unfold Num.parseOf
  rw [e1, e2, Num.coreOf, e3, e4]; rfl
theorem byte_mk (l : List UInt8) (i : Nat) (h : i < l.length) : byteAt ⟨l.toArray⟩ i = (l[i]'h).toNat := by
  unfold byteAt
  rw [Num.get!_mk l i h]
theorem numRun_app (hex : Bool) : ∀ (W : List UInt8) (L : Nat) (sp : UInt8) (Y : List UInt8), (∀ c ∈ W, (digitB c.toNat || letterB c.toNat) = true) → spaceB sp.toNat = true → numRun hex L (W ++ sp :: Y) = W.length
  | [], L, sp, Y, _, hs => by
    have := space_is hs
    rw [List.nil_append, numRun, if_neg]
    · rfl
    · unfold numC
      rw [Bool.or_eq_true, Bool.or_eq_true, Bool.or_eq_true, Bool.and_eq_true, letter_is, digit_is, decide_eq_true_eq, decide_eq_true_eq]
      omega
  | c :: r, L, sp, Y, h, hs => by
    rw [List.cons_append, numRun, if_pos (by unfold numC; rw [h c List.mem_cons_self]; rfl), numRun_app hex r c.toNat sp Y (fun d hd' => h d (List.mem_cons_of_mem _ hd')) hs]; rfl
theorem reads_num {W : List UInt8} {n : Int} (hd0 : digitB (hd W) = true) (ha : ∀ c ∈ W, (digitB c.toNat || letterB c.toNat) = true) (hp : Num.parseOf ⟨W.toArray⟩ = (n, true)) : Reads1 W 4 ⟨#[]⟩ n := by
  intro sp Y hs
  have hne : W ≠ [] := fun e => by rw [e] at hd0; exact absurd hd0 (by decide)
  have hh := hd_app (X := sp :: Y) hne
  have hdg := digit_is.1 hd0
  have hpos : 0 < W.length := List.length_pos_iff.2 hne
  have hL : numL (W ++ sp :: Y) = W.length := by
    unfold numL
    rw [hh, hd0, Bool.true_or, if_pos rfl, numRun_app _ W 0 sp Y ha hs]
  have hT : numT (W ++ sp :: Y) = ⟨W.toArray⟩ := by
    unfold numT
    rw [hL, take_app]
  have hN : NumT ⟨W.toArray⟩ := by
    refine ⟨hpos, fun i hi => ?_, .inl ?_⟩
    · have hi' : i < W.length := hi
      rw [byte_mk W i hi']
      have := ha _ (List.getElem_mem hi')
      unfold numCh
      rw [this]; rfl
    · rw [byte_mk W 0 hpos]
      cases W with
      | nil => exact absurd rfl hne
      | cons c r => exact hd0
  have hOk : numOk ⟨W.toArray⟩ = true := by rw [numOk_is hN, hp]
  refine ⟨strip_hd (by rw [hh]; exact space_not.2 (by omega)), note_hd (.inl (by rw [hh]; omega)), ?_⟩
  rw [oneL, hh, if_neg (by rw [letter_is]; omega), if_pos (by rw [hL]; omega), hL, hT]
  unfold numberN numberE
  rw [hOk, if_pos rfl, if_pos rfl, hp]
theorem itoa_plain {n : Int} (h : 0 ≤ n) : Lib.itoa n = Lib.decDigits n.toNat := by
  rw [Lib.itoa, if_neg (by omega)]
theorem reads_dec {n : Int} (h : 0 ≤ n) (hn : Num.In64 n) : Reads1 (Lib.itoa n) 4 ⟨#[]⟩ n := by
  obtain ⟨_, hn2⟩ := hn
  have hall := digits_all n.toNat
  have hsome := digits_some n.toNat
  rw [itoa_plain h]
  have hmag := mag_of n.toNat (by omega)
  generalize Lib.decDigits n.toNat = W at *
  have hne : W ≠ [] := fun e => by rw [e] at hsome; exact absurd hsome (by decide)
  have hd0 : digitB (hd W) = true := by
    cases W with
    | nil => exact absurd rfl hne
    | cons c r => exact digit_is.2 (hall c List.mem_cons_self)
  have ha : ∀ c ∈ W, (digitB c.toNat || letterB c.toNat) = true := fun c hc => by rw [digit_is.2 (hall c hc)]; rfl
  refine reads_num hd0 ha ?_
  have hN : NumT ⟨W.toArray⟩ := by
    refine ⟨hsome, fun i hi => ?_, .inl ?_⟩
    · have hi' : i < W.length := hi
      rw [byte_mk W i hi']
      unfold numCh
      rw [ha _ (List.getElem_mem hi')]; rfl
    · rw [byte_mk W 0 hsome]
      exact digit_is.2 (hall _ (List.getElem_mem _))
  rw [parse_plain hN, Num.restOf, if_neg, whole]
  · rw [show (⟨W.toArray⟩ : ByteArray).data.toList = W from rfl, Num.decOf_ok _ hmag, if_neg (by show ¬ 9223372036854775807 < n.toNat; omega)]
    unfold Num.signN
    rw [if_neg (by decide), IntWalk.wrap64_in _ (by omega)]
    congr 1
    omega
  · unfold Num.lowX Num.bigX
    rw [show Num.byteAt ⟨W.toArray⟩ (0 + 1) = byteAt ⟨W.toArray⟩ 1 from rfl]
    simp only [Bool.or_eq_true, Bool.and_eq_true, decide_eq_true_eq]
    intro g
    have h1 : 1 < W.length := by
      have hz : (⟨W.toArray⟩ : ByteArray).size = W.length := rfl
      omega
    have hb := byte_mk W 1 h1
    have := hall _ (List.getElem_mem h1)
    omega
theorem reads_hex {n : Int} (hn : Num.In64 n) : Reads1 (48 :: 120 :: hexD n) 4 ⟨#[]⟩ n := by
  obtain ⟨h16, hall, v, hv, m, hm⟩ := hexD_is n
  generalize hexD n = H at *
  have ha : ∀ c ∈ (48 :: 120 :: H : List UInt8), (digitB c.toNat || letterB c.toNat) = true := fun c hc => by
    rcases List.mem_cons.1 hc with rfl | hc
    · decide
    · rcases List.mem_cons.1 hc with rfl | hc
      · decide
      · exact hall c hc
  refine reads_num (show digitB 48 = true by decide) ha ?_
  have hz : (⟨(48 :: 120 :: H : List UInt8).toArray⟩ : ByteArray).size = 18 := by show (48 :: 120 :: H : List UInt8).length = 18; rw [List.length_cons, List.length_cons, h16]
  have b0 := byte_mk (48 :: 120 :: H) 0 (by rw [List.length_cons]; omega)
  have b1 := byte_mk (48 :: 120 :: H) 1 (by rw [List.length_cons, List.length_cons]; omega)
  have hN : NumT ⟨(48 :: 120 :: H : List UInt8).toArray⟩ := by
    refine ⟨by omega, fun i hi => ?_, .inl ?_⟩
    · have hi' : i < (48 :: 120 :: H : List UInt8).length := hi
      rw [byte_mk _ i hi']
      unfold numCh
      rw [ha _ (List.getElem_mem hi')]; rfl
    · rw [b0]; show digitB 48 = true; decide
  rw [parse_plain hN, Num.restOf, if_pos]
  · have he : ((⟨(48 :: 120 :: H : List UInt8).toArray⟩ : ByteArray).extract (0 + 2) (⟨(48 :: 120 :: H : List UInt8).toArray⟩ : ByteArray).size).data.toList = H := by
      rw [behind_list]; rfl
    rw [he]
    unfold Num.hexOf
    rw [hv]
    simp only []
    have hne : H.isEmpty = false := by cases H with
      | nil => cases h16
      | cons c r => rfl
    rw [hne]
    unfold Num.signN
    rw [if_neg (by decide)]
    unfold Num.In64 at hn
    congr 1
    unfold wrap64
    omega
  · unfold Num.lowX
    rw [show Num.byteAt ⟨(48 :: 120 :: H : List UInt8).toArray⟩ 0 = byteAt ⟨(48 :: 120 :: H : List UInt8).toArray⟩ 0 from rfl, show Num.byteAt ⟨(48 :: 120 :: H : List UInt8).toArray⟩ (0 + 1) = byteAt ⟨(48 :: 120 :: H : List UInt8).toArray⟩ 1 from rfl, b0, b1, hz]
    rfl
theorem Fit.reads {t : Tok} (h : Fit t) : Reads1 (wrt t) t.k t.s t.n := by
  unfold wrt
  rcases h.is with ⟨h1, h2, h3⟩ | ⟨h1, h2, h3⟩ | ⟨h1, h2, h3⟩ | ⟨h1, h2⟩
  · rw [if_neg (by rw [h1]; split <;> decide), if_neg (by rw [h1]; split <;> decide), h1, h2]
    exact reads_name h3
  · rw [h1, if_neg (by decide), if_neg (by decide), h2]
    exact reads_sign h3
  · rw [h1, if_pos rfl, h2]
    split
    · exact reads_hex h3
    · exact reads_dec (by omega) h3
  · rw [h1, if_neg (by decide), if_pos rfl, h2]
    exact reads_text t.s

end Go.Proofs.YtajeghkmgcpgiaaGreatDoor.Lex

namespace Go.Proofs.YtajeghkmgcpgiaaGreatDoor.Lex
open Go.RowKit

theorem wrap_in (n : Int) : Num.In64 (wrap64 n) := by unfold Num.In64 wrap64; omega
theorem sign_in (b : Bool) (n : Nat) : Num.In64 (Num.signN b n) := by
  unfold Num.signN
  split <;> exact wrap_in _
theorem zero_in : Num.In64 0 := by unfold Num.In64; omega
theorem hexOf_in (l : List UInt8) (b : Bool) : Num.In64 (Num.hexOf l b).1 := by
  unfold Num.hexOf
  split
  · exact zero_in
  · exact sign_in _ _
theorem decOf_in (l : List UInt8) (b : Bool) : Num.In64 (Num.decOf l b).1 := by
  unfold Num.decOf
  split
  · split
    · exact zero_in
    · exact sign_in _ _
  · exact zero_in
theorem rest_in (s : ByteArray) (p hi : Nat) (b : Bool) : Num.In64 (Num.restOf s p hi b).1 := by
  unfold Num.restOf
  split
  · exact hexOf_in _ _
  · exact decOf_in _ _
theorem parse_in (s : ByteArray) : Num.In64 (Num.parseOf s).1 := by
  unfold Num.parseOf Num.coreOf
  exact rest_in _ _ _ _
theorem trim_le (b : Bool) (t : List UInt8) : (trimT b t).length ≤ t.length := by
  unfold trimT Lib.trimPrefix
  split
  · split
    · rw [List.length_drop]; omega
    · exact Nat.le_refl _
  · exact Nat.le_refl _
theorem long_small {l t : List UInt8} {n : Nat} (h : longL l = some (some (t, n))) : t.length ≤ l.length := by
  rw [long_brk] at h
  split at h
  · injection h with h
    have hne : closeL (eqsL (l.drop 1)) ≠ [] := by unfold closeL; simp
    rcases index_ge (l.drop (eqsL (l.drop 1) + 2)) (closeL (eqsL (l.drop 1))) with e | ⟨i, e⟩
    · rw [(body_index hne _ true 0 (fun _ => rfl)).1 e] at h; cases h
    · rw [(body_index hne _ true 0 (fun _ => rfl)).2 i e] at h
      rw [Option.map_some] at h
      injection h with h
      injection h with h1 h2
      rw [← h1]
      have g1 := trim_le true (plainF 0 ((l.drop (eqsL (l.drop 1) + 2)).take i))
      have g2 := plain_le ((l.drop (eqsL (l.drop 1) + 2)).take i) 0
      rw [List.length_take, List.length_drop] at g2
      show (trimT true (plainF 0 ((l.drop (eqsL (l.drop 1) + 2)).take i))).length ≤ l.length
      omega
  · cases h
theorem parts_small (q : Nat) : ∀ (f : Nat) (l t : List UInt8), partsL q f l = some t → t.length ≤ 6 * l.length
  | 0, l, t, h => by cases h
  | f + 1, l, t, h => by
    rw [partsL] at h
    cases hp : partL q l with
    | none =>
      rw [hp] at h
      simp only [] at h
      split at h
      · injection h with h; rw [← h]; exact Nat.zero_le _
      · cases h
    | some x =>
      obtain ⟨u, k⟩ := x
      rw [hp] at h
      simp only [] at h
      cases hr : partsL q f (l.drop k) with
      | none => rw [hr] at h; cases h
      | some v =>
        have ih := parts_small q f (l.drop k) v hr
        obtain ⟨h1, h2, h3⟩ := part_size hp
        rw [hr, Option.map_some] at h
        injection h with h
        rw [List.length_drop] at ih
        rw [← h, List.length_append]
        omega
theorem unq_small {l t : List UInt8} (h : unquotL l = some t) : t.length ≤ 6 * l.length := by
  cases l with
  | nil => cases h
  | cons c r =>
    rw [unquotL] at h
    split at h
    · have := parts_small _ _ _ _ h
      rw [List.length_cons]; omega
    · cases h
theorem nameRun_all : ∀ (l : List UInt8), ∀ c ∈ l.take (nameRun l), (letterB c.toNat || digitB c.toNat) = true
  | [], c, h => by rw [List.take_nil] at h; cases h
  | d :: r, c, h => by
    rw [nameRun] at h
    split at h
    · rename_i hd'
      rw [List.take_succ_cons] at h
      rcases List.mem_cons.1 h with rfl | h
      · exact hd'
      · exact nameRun_all r c h
    · rw [List.take_zero] at h; cases h
theorem mk_size (l : List UInt8) : (⟨l.toArray⟩ : ByteArray).size = l.length := rfl
theorem sign_fit {l : List UInt8} (h : (signT l).size ≠ 0) : signT l ∈ signsT := by
  rcases best_in l signsT ⟨#[]⟩ with e | ⟨hm, _⟩
  · rw [signT, e] at h; exact absurd rfl h
  · exact hm
theorem one_fit {l : List UInt8} (he : (oneL l).e = 0) (hl : l.length ≤ 3000) (line : Nat) : Fit ⟨(oneL l).k, (oneL l).s, (oneL l).n, line⟩ := by
  by_cases hn : letterB (hd l) = true
  · have ho : oneL l = ⟨if wordB (nameT l) = true then 2 else 1, nameT l, 0, nameL l, 0⟩ := by rw [oneL, if_pos hn]
    rw [ho]
    have hL : nameL l = nameRun l := by rw [nameL, if_pos hn]
    have hT : (nameT l).data.toList = l.take (nameRun l) := by unfold nameT; rw [hL]
    refine ⟨?_, .inl ⟨rfl, rfl, ?_, ?_⟩⟩
    · show (nameT l).data.toList.length ≤ 20000
      rw [hT, List.length_take]; omega
    · show letterB (hd (nameT l).data.toList) = true
      rw [hT]
      cases l with
      | nil => exact absurd hn (by decide)
      | cons c r =>
        have hc : letterB c.toNat = true := hn
        rw [nameRun, if_pos (by rw [hc]; rfl), List.take_succ_cons]
        exact hn
    · intro c hc
      have hc : c ∈ (nameT l).data.toList := hc
      rw [hT] at hc
      exact nameRun_all l c hc
  · by_cases hm : numL l = 0
    · cases hg : longL l with
      | none =>
        by_cases hq : hd l = 34 ∨ hd l = 39
        · have ho : oneL l = ⟨5, unqT (quoteT' l), 0, quoteN (hd l) (l.drop 1), (unqE (quoteT' l)).toNat⟩ := by
            rw [oneL, if_neg hn, if_neg (by rw [hm]; decide), hg]
            simp only []
            rw [if_pos hq]
          rw [ho]
          refine ⟨?_, .inr (.inr (.inr ⟨rfl, rfl⟩))⟩
          show (unqT (quoteT' l)).size ≤ 20000
          unfold unqT
          cases hu : unquotL (quoteT' l) with
          | none => exact Nat.zero_le _
          | some t =>
            show (⟨t.toArray⟩ : ByteArray).size ≤ 20000
            rw [mk_size]
            have := unq_small hu
            have h2 : (quoteT' l).length ≤ l.length := by unfold quoteT'; rw [List.length_take]; omega
            omega
        · have ho : oneL l = (if ([91, 61] : List UInt8).isPrefixOf l = true then ⟨0, ⟨#[]⟩, 0, 0, 30⟩ else signO l) := by
            rw [oneL, if_neg hn, if_neg (by rw [hm]; decide), hg]
            simp only []
            rw [if_neg hq]
          rw [ho] at he ⊢
          split at he
          · cases he
          · rename_i hp
            rw [if_neg hp]
            unfold signO at he ⊢
            split at he
            · split at he <;> cases he
            · rename_i hz
              rw [if_neg hz]
              refine ⟨?_, .inr (.inl ⟨rfl, rfl, sign_fit hz⟩)⟩
              obtain ⟨j, hj, e⟩ := List.getElem_of_mem (sign_fit hz)
              have := signs_small j hj
              rw [e] at this
              show (signT l).size ≤ 20000
              omega
      | some x =>
        cases x with
        | none =>
          rw [oneL, if_neg hn, if_neg (by rw [hm]; decide), hg] at he
          cases he
        | some x =>
          obtain ⟨t, n⟩ := x
          have ho : oneL l = ⟨5, ⟨t.toArray⟩, 0, n, 0⟩ := by rw [oneL, if_neg hn, if_neg (by rw [hm]; decide), hg]
          rw [ho]
          refine ⟨?_, .inr (.inr (.inr ⟨rfl, rfl⟩))⟩
          have := long_small hg
          show (⟨t.toArray⟩ : ByteArray).size ≤ 20000
          rw [mk_size]; omega
    · have ho : oneL l = ⟨4, ⟨#[]⟩, numberN (numT l), numL l, numberE (numT l)⟩ := by rw [oneL, if_neg hn, if_pos hm]
      rw [ho]
      refine ⟨Nat.zero_le _, .inr (.inr (.inl ⟨rfl, rfl, ?_⟩))⟩
      show Num.In64 (numberN (numT l))
      unfold numberN
      split
      · exact parse_in _
      · exact zero_in

/-- A text's tokens: each as it may be, and the end; or a fault alone. -/
theorem tok_parts : ∀ (f ln : Nat) (l : List UInt8) (acc : List Tok), l.length < f → l.length ≤ 3000 →
    (∃ ts ln', tokF f ln l acc = (acc ++ (ts ++ [⟨6, ⟨#[]⟩, 0, ln'⟩]), 0, 0) ∧ (∀ t ∈ ts, Fit t) ∧ ts.length ≤ l.length) ∨ (∃ e n, tokF f ln l acc = ([], e, n) ∧ e ≠ 0)
  | 0, ln, l, acc, h, _ => absurd h (Nat.not_lt_zero _)
  | f + 1, ln, l, acc, h, h3 => by
    have hsl := strip_len l
    unfold strip at hsl
    rw [tokF]
    split
    · exact .inl ⟨[], ln + linesOf (l.take (blanks l)), (by rw [List.nil_append]), (fun t ht => by cases ht), Nat.zero_le _⟩
    · split
      · exact .inr ⟨30, _, rfl, by decide⟩
      · rename_i k hn
        have hk := note_len hn
        rcases tok_parts f (ln + linesOf (l.take (blanks l)) + linesOf ((l.drop (blanks l)).take (k + 1))) ((l.drop (blanks l)).drop (k + 1)) acc (by rw [List.length_drop]; omega) (by rw [List.length_drop]; omega) with ⟨ts, ln', h1, h2, h4⟩ | h1
        · rw [List.length_drop] at h4
          exact .inl ⟨ts, ln', h1, h2, by omega⟩
        · exact .inr h1
      · split
        · rename_i he
          obtain ⟨hk1, hk⟩ := one_len he
          rcases tok_parts f (ln + linesOf (l.take (blanks l)) + linesOf ((l.drop (blanks l)).take (oneL (l.drop (blanks l))).len)) ((l.drop (blanks l)).drop (oneL (l.drop (blanks l))).len)
            (acc ++ [⟨(oneL (l.drop (blanks l))).k, (oneL (l.drop (blanks l))).s, (oneL (l.drop (blanks l))).n, ln + linesOf (l.take (blanks l))⟩]) (by rw [List.length_drop]; omega) (by rw [List.length_drop]; omega) with ⟨ts, ln', h1, h2, h4⟩ | h1
          · rw [List.length_drop] at h4
            refine .inl ⟨⟨(oneL (l.drop (blanks l))).k, (oneL (l.drop (blanks l))).s, (oneL (l.drop (blanks l))).n, ln + linesOf (l.take (blanks l))⟩ :: ts, ln', ?_, ?_, ?_⟩
            · rw [h1, List.append_assoc]; rfl
            · intro t ht
              rcases List.mem_cons.1 ht with rfl | ht
              · exact one_fit he (by omega) _
              · exact h2 t ht
            · rw [List.length_cons]; omega
          · exact .inr h1
        · rename_i he
          exact .inr ⟨_, _, rfl, he⟩
theorem tokens_parts (l : List UInt8) (h3 : l.length ≤ 3000) :
    (∃ ts ln', tokensL l = (ts ++ [⟨6, ⟨#[]⟩, 0, ln'⟩], 0, 0) ∧ (∀ t ∈ ts, Fit t) ∧ ts.length ≤ l.length) ∨ (∃ e n, tokensL l = ([], e, n) ∧ e ≠ 0) := by
  rw [tokensL, if_neg (by omega)]
  rcases tok_parts (l.length + 1) 1 l [] (by omega) h3 with ⟨ts, ln', h1, h2, h4⟩ | h1
  · exact .inl ⟨ts, ln', by rw [h1, List.nil_append], h2, h4⟩
  · exact .inr h1

/-! ### Written, and read -/
def gapOf (k : Nat) : List UInt8 := (gapsT.getD k ⟨#[]⟩).data.toList
def bld (g : Nat → Nat) : Nat → List Tok → List UInt8
  | _, [] => []
  | i, t :: r => wrt t ++ (gapOf (g i) ++ bld g (i + 1) r)
theorem gap_of {X : List UInt8} {ks : List (Nat × ByteArray × Int)} (h : Rd (strip X) ks) {k : Nat} (hk : k < 8) : ∃ c Y, gapOf k ++ X = c :: Y ∧ spaceB c.toNat = true ∧ Rd (strip (c :: Y)) ks := by
  have := gap_read h k hk
  have e : gapOf k = (gapsT[k]'hk).data.toList := by
    unfold gapOf
    rw [List.getD_eq_getElem?_getD, List.getElem?_eq_getElem (show k < gapsT.length from hk)]; rfl
  rw [e]; exact this
theorem bld_read (g : Nat → Nat) (hg : ∀ i, g i < 8) (ln : Nat) : ∀ (ts : List Tok) (i : Nat), (∀ t ∈ ts, Fit t) → Rd (strip (bld g i (ts ++ [⟨6, ⟨#[]⟩, 0, ln⟩]))) (ts.map key ++ [(6, ⟨#[]⟩, 0)])
  | [], i, _ => by
    obtain ⟨c, Y, h1, _, h3⟩ := gap_of (X := []) (ks := [(6, ⟨#[]⟩, 0)]) Rd.fin (hg i)
    rw [List.nil_append, bld, bld, h1, show wrt ⟨6, ⟨#[]⟩, 0, ln⟩ = [] from rfl, List.nil_append]
    exact h3
  | t :: ts, i, h => by
    have ih := bld_read g hg ln ts (i + 1) (fun u hu => h u (List.mem_cons_of_mem _ hu))
    obtain ⟨c, Y, h1, h2, h3⟩ := gap_of ih (hg i)
    obtain ⟨r1, r2, r3⟩ := (h t List.mem_cons_self).reads c Y h2
    rw [List.cons_append, bld, h1, r1, List.map_cons, List.cons_append]
    have e : key t = ((oneL (wrt t ++ c :: Y)).k, (oneL (wrt t ++ c :: Y)).s, (oneL (wrt t ++ c :: Y)).n) := by rw [r3]; rfl
    rw [e]
    refine .one (by simp) r2 (by rw [r3]) ?_
    rw [r3, List.drop_left]
    exact h3
theorem back_read (g : Nat → Nat) (hg : ∀ i, g i < 8) (ln : Nat) (ts : List Tok) (h : ∀ t ∈ ts, Fit t) (hs : (bld g 0 (ts ++ [⟨6, ⟨#[]⟩, 0, ln⟩])).length ≤ 65535) :
    ∃ m, tokensL (bld g 0 (ts ++ [⟨6, ⟨#[]⟩, 0, ln⟩])) = (m, 0, 0) ∧ m.map key = (ts ++ [(⟨6, ⟨#[]⟩, 0, ln⟩ : Tok)]).map key := by
  obtain ⟨m, h1, h2⟩ := (bld_read g hg ln ts 0 h).read (bld g 0 (ts ++ [⟨6, ⟨#[]⟩, 0, ln⟩])) ((bld g 0 (ts ++ [⟨6, ⟨#[]⟩, 0, ln⟩])).length + 1) 1 [] rfl (by omega)
  refine ⟨m, ?_, ?_⟩
  · rw [tokensL, if_neg (by omega), h1, List.nil_append]
  · rw [h2, List.map_append]
    rfl
theorem wrt_small {t : Tok} (h : t.s.size ≤ 20000) (hn : Num.In64 t.n) : (wrt t).length ≤ 80010 := by
  unfold wrt
  split
  · split
    · rw [List.length_cons, List.length_cons, (hexD_is t.n).1]; omega
    · rw [itoa_plain (by omega), Lib.decDigits_length]
      have := Lib.nDigits_le20 t.n.toNat (by unfold Num.In64 at hn; omega)
      omega
  · split
    · have := quotL_size t.s.data.toList
      have hz : t.s.data.toList.length = t.s.size := rfl
      simp only [List.length_cons, List.length_append, List.length_nil]
      omega
    · show t.s.size ≤ _; omega
def pl (t : Tok) : Tok := ⟨t.k, t.s, t.n, 0⟩
theorem pl_same : ∀ {a b : List Tok}, a.map key = b.map key → a.map pl = b.map pl
  | [], [], _ => rfl
  | [], _ :: _, h => by cases h
  | _ :: _, [], h => by cases h
  | t :: a, u :: b, h => by
    rw [List.map_cons, List.map_cons] at h
    injection h with h1 h2
    rw [List.map_cons, List.map_cons, pl_same h2]
    unfold key at h1
    injection h1 with h3 h4
    injection h4 with h5 h6
    unfold pl
    rw [h3, h5, h6]

end Go.Proofs.YtajeghkmgcpgiaaGreatDoor.Lex
