/-
  A part of the proof.
-/
import Derived.Test.YtnkejjlidgnkkaaGreatDoorRows
import Derived.IntWalk
import Derived.Laws.BitsAllLaws
import Derived.Laws.Entries
import Derived.Laws.Bits64
import Derived.WalkKit
import Derived.WalkSpells
import Derived.WalkLawsBesides
import Derived.Lib.Hide
import Derived.Lib.Strings
import Derived.Lib.AtoiAll
import Derived.RegionTactic
import Derived.ChangeAlike
import Derived.Deep.DeepCutAuto
import Derived.Deep.CutBlock
import Derived.Deep.LoopGhost
import Derived.Laws.Rows
import Derived.Lib.SmallJoins
import Derived.SizedLaws
import Derived.Test.YtnkejjlidgnkkaaGreatDoorClRA
set_option maxRecDepth 100000
set_option maxHeartbeats 40000000
namespace Go.Proofs.YtnkejjlidgnkkaaGreatDoor.Num

open Go.Lib renaming hid → qh
open Go.RowKit
def In64 (n : Int) : Prop := -9223372036854775808 <= n /\ n <= 9223372036854775807
theorem wrap64_of_in {n : Int} (h : In64 n) : wrap64 n = n := IntWalk.wrap64_in n h
theorem ret_bool {a b : Bool} (h : a = b) : Ending.returned (.bool a) = .returned (.bool b) := by rw [h]
theorem ret_i64 {a b : Int} (h : a = b) : Ending.returned (.int .i64 a) = .returned (.int .i64 b) := by rw [h]
def byteAt (s : ByteArray) (i : Nat) : Nat := (s.get! i).toNat
theorem byteAt_lt (s : ByteArray) (i : Nat) : byteAt s i < 256 := (s.get! i).toNat_lt
theorem get!_mk (l : List UInt8) (i : Nat) (h : i < l.length) : (⟨l.toArray⟩ : ByteArray).get! i = l[i] := by
 simp only [ByteArray.get!];simp [h]
theorem run_index_at {P : Program} (t : TypeId) (s : ByteArray) (x : Int) (j : Nat) (h : P.underlying t = some .string) (hj : j < s.size) (hx : x = j) (w : World) :
  (Instr.index t (.string s) (.int .i64 x)).run P w = .ok (.int .u8 (byteAt s j)) w := by
 subst hx;rw [run_index_string w t s .i64 j h, dif_pos (by omega)];obtain ⟨⟨l⟩⟩ := s;have hl : j < l.length := hj;unfold byteAt;rw [get!_mk l j hl]
 rfl
theorem run_slice_at {P : Program} (t : TypeId) (s : ByteArray) (x y : Int) (i j : Nat) (h : P.underlying t = some .string) (hij : i <= j) (hj : j <= s.size) (hx : x = i) (hy : y = j) (w : World) :
  (Instr.slice t (.string s) (some (.int .i64 x)) (some (.int .i64 y)) none).run P w = .ok (.string (s.extract i j)) w := by
 subst hx hy;exact run_slice_string w t s .i64 .i64 i j h (by omega) (by omega) (by omega)
def digitB (b : Nat) : Bool := decide (48 <= b /\ b <= 57)
def spaceB (b : Nat) : Bool := decide (9 <= b /\ b <= 13 \/ b = 32)
def hexV (b : Nat) : Int := if 48 <= b /\ b <= 57 then (b : Int) - 48 else if 97 <= b /\ b <= 102 then (b : Int) - 87 else if 65 <= b /\ b <= 70 then (b : Int) - 55 else 0
def hexB (b : Nat) : Bool := decide (48 <= b /\ b <= 57 \/ 97 <= b /\ b <= 102 \/ 65 <= b /\ b <= 70)
theorem ret_ib {a b : Int} {c d : Bool} (h : a = b) (h' : c = d) : Ending.returned (.tuple #[.int .i64 a, .bool c]) = .returned (.tuple #[.int .i64 b, .bool d]) := by rw [h, h']
theorem drop_at (s : ByteArray) (k : Nat) (h : k < s.size) : ∃ c : UInt8, c.toNat = byteAt s k /\ s.data.toList.drop k = c :: s.data.toList.drop (k + 1) := by
 obtain ⟨⟨l⟩⟩ := s;have hl : k < l.length := h;refine ⟨l[k], ?_, List.drop_eq_getElem_cons hl⟩;unfold byteAt; rw [get!_mk l k hl]
theorem drop_end (s : ByteArray) : s.data.toList.drop s.size = [] := List.drop_of_length_le (Nat.le_refl _)
theorem empty_iff (s : ByteArray) : (!s.data.toList.isEmpty) = decide (0 < s.size) := by
 have : s.data.toList.length = s.size := rfl;cases h : s.data.toList with
 | nil => rw [h] at this; simp at this; simp [<- this]
 | cons c r => rw [h] at this; simp at this; simp; omega
def hexN : List UInt8 -> Nat -> Option Nat
 | [], a => some a
 | c :: r, a => if hexB c.toNat = true then hexN r (a * 16 + (hexV c.toNat).toNat) else none
def signN (neg : Bool) (n : Nat) : Int := if neg then wrap64 (-(n : Int)) else wrap64 n
def hexOf (l : List UInt8) (neg : Bool) : Int × Bool :=
 match hexN l 0 with
 | none => (0, false)
 | some n => (signN neg n, !l.isEmpty)
theorem hexOf_some {l : List UInt8} {a : Nat} (neg : Bool) (h : some a = hexN l 0) : hexOf l neg = (signN neg a, !l.isEmpty) := by rw [hexOf, <- h]
theorem hexOf_none {l : List UInt8} (neg : Bool) (h : none = hexN l 0) : hexOf l neg = (0, false) := by rw [hexOf, <- h]
theorem hexN_yes {s : ByteArray} {k a : Nat} (h : k < s.size) (hb : hexB (byteAt s k) = true) : hexN (s.data.toList.drop k) a = hexN (s.data.toList.drop (k + 1)) (a * 16 + (hexV (byteAt s k)).toNat) := by
 obtain ⟨c, e, hd⟩ := drop_at s k h;rw [hd, hexN, e, if_pos hb]
theorem hexN_no {s : ByteArray} {k a : Nat} (h : k < s.size) (hb : hexB (byteAt s k) = false) : hexN (s.data.toList.drop k) a = none := by
 obtain ⟨c, e, hd⟩ := drop_at s k h;rw [hd, hexN, e, if_neg (by rw [hb]; decide)]
theorem hexN_end (s : ByteArray) (a : Nat) : hexN (s.data.toList.drop s.size) a = some a := by rw [drop_end]; rfl
theorem hexV_range (b : Nat) : 0 ≤ hexV b ∧ hexV b ≤ 15 := by unfold hexV; split; · omega
                                                              split; · omega
                                                              split <;> omega
theorem or_hex (a v : Nat) (hv : v <= 15) : bits .or .u64 (IntKind.u64.wrap ((a : Int) % 18446744073709551616 * 16)) (v : Int) = ((a * 16 + v : Nat) : Int) % 18446744073709551616 := by
 have e : IntKind.u64.wrap ((a : Int) % 18446744073709551616 * 16) = ((a * 16 % 18446744073709551616 : Nat) : Int) := by rw [IntKind.wrap_u64]; omega
 rw [e, u64_or_nat _ _ (by omega) (by omega), nat_join 4 _ _ (by omega) (by omega)];omega
def decMost (neg : Bool) : Nat := if neg then 9223372036854775808 else 9223372036854775807
def decOf (l : List UInt8) (neg : Bool) : Int × Bool :=
 match Lib.parseMag l with
 | .ok u => if decMost neg < u then (0, false) else (signN neg u, true)
 | _ => (0, false)
theorem decOf_ok {l : List UInt8} {u : Nat} (neg : Bool) (h : Lib.parseMag l = .ok u) : decOf l neg = if decMost neg < u then (0, false) else (signN neg u, true) := by rw [decOf, h]
theorem decOf_no {l : List UInt8} (neg : Bool) (h : ∀ u, Lib.parseMag l ≠ .ok u) : decOf l neg = (0, false) := by
 unfold decOf
 split
 ·rename_i u hu; exact absurd hu (h u)
 ·rfl
def loAux (s : ByteArray) : Nat -> Nat
 | 0 => s.size
 | r + 1 => if spaceB (byteAt s (s.size - (r + 1))) = true then loAux s r else s.size - (r + 1)
def loFrom (s : ByteArray) (k : Nat) : Nat := loAux s (s.size - k)
theorem loFrom_end (s : ByteArray) : loFrom s s.size = s.size := by unfold loFrom; rw [Nat.sub_self]; rfl
theorem loFrom_yes {s : ByteArray} {k : Nat} (h : k < s.size) (hb : spaceB (byteAt s k) = true) : loFrom s k = loFrom s (k + 1) := by
 unfold loFrom;obtain ⟨r, hr⟩ : ∃ r, s.size - k = r + 1 := ⟨s.size - k - 1, by omega⟩;rw [hr, loAux, show s.size - (r + 1) = k from by omega, if_pos hb, show s.size - (k + 1) = r from by omega]
theorem loFrom_no {s : ByteArray} {k : Nat} (h : k < s.size) (hb : spaceB (byteAt s k) = false) : loFrom s k = k := by
 unfold loFrom;obtain ⟨r, hr⟩ : ∃ r, s.size - k = r + 1 := ⟨s.size - k - 1, by omega⟩;rw [hr, loAux, show s.size - (r + 1) = k from by omega, if_neg (by rw [hb]; decide)]
def hiFrom (s : ByteArray) (lo : Nat) : Nat -> Nat
 | 0 => 0
 | j + 1 => if lo <= j /\ spaceB (byteAt s j) = true then hiFrom s lo j else j + 1
theorem hiFrom_at (s : ByteArray) (lo : Nat) : hiFrom s lo lo = lo := by
 cases lo with
 | zero => rfl
 | succ l => rw [hiFrom, if_neg (by omega)]
theorem hiFrom_yes {s : ByteArray} {lo j : Nat} (h : lo < j) (hb : spaceB (byteAt s (j - 1)) = true) : hiFrom s lo j = hiFrom s lo (j - 1) := by
 obtain ⟨i, rfl⟩ : ∃ i, j = i + 1 := ⟨j - 1, by omega⟩;rw [Nat.add_sub_cancel] at hb ⊢;rw [hiFrom, if_pos ⟨by omega, hb⟩]
theorem hiFrom_no {s : ByteArray} {lo j : Nat} (h : lo < j) (hb : spaceB (byteAt s (j - 1)) = false) : hiFrom s lo j = j := by
 obtain ⟨i, rfl⟩ : ∃ i, j = i + 1 := ⟨j - 1, by omega⟩;rw [Nat.add_sub_cancel] at hb;rw [hiFrom, if_neg (by rw [hb]; simp)]
def negAt (s : ByteArray) (lo hi : Nat) : Bool := decide (lo < hi) && decide (byteAt s lo = 45)
def plusAt (s : ByteArray) (lo hi : Nat) : Bool := decide (lo < hi) && decide (byteAt s lo = 43)
def lowX (s : ByteArray) (p hi : Nat) : Bool := decide (p + 1 < hi) && decide (byteAt s p = 48 /\ byteAt s (p + 1) = 120)
def bigX (s : ByteArray) (p hi : Nat) : Bool := decide (p + 1 < hi) && decide (byteAt s p = 48 /\ byteAt s (p + 1) = 88)
def restOf (s : ByteArray) (p hi : Nat) (neg : Bool) : Int × Bool :=
 if (lowX s p hi || bigX s p hi) = true then hexOf (s.extract (p + 2) hi).data.toList neg else decOf (s.extract p hi).data.toList neg
def coreOf (s : ByteArray) (lo hi : Nat) : Int × Bool :=
 restOf s (if (negAt s lo hi || plusAt s lo hi) = true then lo + 1 else lo) hi (negAt s lo hi)
def parseOf (s : ByteArray) : Int × Bool := coreOf s (loFrom s 0) (hiFrom s (loFrom s 0) s.size)
theorem byteAt_extract {s : ByteArray} {i j k : Nat} (hj : j ≤ s.size) (h : i + k < j) : byteAt (s.extract i j) k = byteAt s (i + k) := by
  obtain ⟨⟨l⟩⟩ := s
  have hl : i + k < l.length := by have : (⟨⟨l⟩⟩ : ByteArray).size = l.length := rfl
                                   omega
  unfold byteAt
  rw [Lib.extract_eq, get!_mk _ k (by simp; omega), get!_mk l (i + k) hl]
  simp
theorem part_size {s : ByteArray} {i j : Nat} (hj : j <= s.size) : (s.extract i j).size = j - i := by
 rw [ByteArray.size_extract, Nat.min_eq_left hj]
theorem part_list {s : ByteArray} {i j : Nat} (hj : j <= s.size) (h : i < j) : ∃ c : UInt8, c.toNat = byteAt s i /\ (s.extract i j).data.toList = c :: (s.extract (i + 1) j).data.toList := by
 obtain ⟨c, e, hd⟩ := drop_at s i (by omega);refine ⟨c, e, ?_⟩;rw [Lib.extract_data, Lib.extract_data, hd];obtain ⟨m, hm⟩ : ∃ m, j - i = m + 1 := ⟨j - i - 1, by omega⟩;rw [hm, List.take_succ_cons, show j - (i + 1) = m from by omega]
theorem part_nil {s : ByteArray} {i j : Nat} (h : j <= i) : (s.extract i j).data.toList = [] := by
 rw [Lib.extract_data, show j - i = 0 from by omega, List.take_zero]
theorem prefix1 {s : ByteArray} {i j : Nat} (hj : j <= s.size) (b : UInt8) : Lib.hasPrefix (s.extract i j).data.toList [b] = (decide (i < j) && decide (byteAt s i = b.toNat)) := by
 unfold Lib.hasPrefix;by_cases h : i < j
 ·obtain ⟨c, e, hd⟩ := part_list hj h;rw [hd, decide_eq_true h, Bool.true_and, <- e];simp only [List.isPrefixOf, Bool.and_true];rw [Bool.eq_iff_iff];simp only [beq_iff_eq, decide_eq_true_eq];exact ⟨fun h => by rw [h], fun h => UInt8.toNat_inj.1 h.symm⟩
 ·rw [part_nil (by omega), decide_eq_false h]; rfl
theorem prefix2 {s : ByteArray} {i j : Nat} (hj : j <= s.size) (b c : UInt8) :
  Lib.hasPrefix (s.extract i j).data.toList [b, c] = (decide (i + 1 < j) && decide (byteAt s i = b.toNat /\ byteAt s (i + 1) = c.toNat)) := by
 by_cases h : i < j
 ·obtain ⟨x, e, hd⟩ := part_list hj h;have h1 := prefix1 (i := i + 1) hj c;unfold Lib.hasPrefix at h1 ⊢;rw [hd];simp only [List.isPrefixOf];rw [show ([c].isPrefixOf (s.extract (i + 1) j).data.toList) = _ from h1, <- e];rw [Bool.eq_iff_iff];simp only [Bool.and_eq_true, beq_iff_eq, decide_eq_true_eq]
  constructor
  ·rintro ⟨h, h2, h3⟩; exact ⟨h2, by rw [h], h3⟩
  ·rintro ⟨h, h2, h3⟩; exact ⟨UInt8.toNat_inj.1 h2.symm, h, h3⟩
 ·unfold Lib.hasPrefix;rw [part_nil (by omega), decide_eq_false (by omega)]; rfl
theorem part_empty {s : ByteArray} {i j : Nat} (hj : j <= s.size) : (s.extract i j).toList.isEmpty = decide (j <= i) := by
 rw [ByteArray.toList_eq];by_cases h : i < j
 ·obtain ⟨c, _, hd⟩ := part_list hj h;rw [hd, decide_eq_false (by omega)]; rfl
 ·rw [part_nil (by omega), decide_eq_true (by omega)]; rfl
end Go.Proofs.YtnkejjlidgnkkaaGreatDoor.Num
namespace Go.Proofs.YtnkejjlidgnkkaaGreatDoor.Lex

open Go.Lib renaming hid → qh
open Go.RowKit
def dotB (hex : Bool) (b : Nat) : Bool := decide (b = 46) || power hex b
def digsL (l : List UInt8) : Bool := l.all fun c => digitB c.toNat
def dotsL (hex : Bool) (l : List UInt8) : Bool := l.any fun c => dotB hex c.toNat
def numOk (s : ByteArray) : Bool := (Num.parseOf s).2 && (hexP s.data.toList || digsL s.data.toList)
def numberN (s : ByteArray) : Int := if numOk s = true then (Num.parseOf s).1 else 0
def numberE (s : ByteArray) : Nat := if numOk s = true then 0 else if (digsL s.data.toList || dotsL (hexP s.data.toList) s.data.toList) = true then 31 else 30
def noteL (l : List UInt8) : Option Nat :=
 if ([45, 45] : List UInt8).isPrefixOf l = true then
  match longL (l.drop 2) with
  | some (some (_, n)) => some (n + 2)
  | some none => some 0
  | none => some (lineRun l)
 else none
theorem long_pos {l t : List UInt8} {n : Nat} (h : longL l = some (some (t, n))) : 2 <= n := by
 cases l with
 | nil => cases h
 | cons c r =>
  rw [longL] at h
  split at h
  ·injection h with h
   cases hb : bodyL (closeL (eqsL r)) true 0 (r.drop (eqsL r + 1)) with
   | none => rw [hb] at h; cases h
   | some x =>
    rw [hb] at h
    injection h with h
    injection h with h1 h2
    omega
  ·cases h
theorem prefix_le {a b : List UInt8} (h : a.isPrefixOf b = true) : a.length <= b.length := by
 have := List.isPrefixOf_iff_prefix.1 h;exact this.length_le
theorem body_le {cl : List UInt8} : ∀ (l : List UInt8) (f : Bool) (p : Nat) (t : List UInt8) (n : Nat), bodyL cl f p l = some (t, n) -> n <= l.length /\ t.length <= n
 | [], _, _, _, _, h => by cases h
 | c :: r, f, p, t, n, h => by
  rw [body_cons] at h;have ih := fun f p => body_le (cl := cl) r f p
  split at h
  ·rename_i hp
   injection h with h
   injection h with h1 h2
   subst h1 h2;exact ⟨prefix_le hp, Nat.zero_le _⟩
  ·split at h
   ·split at h
    ·cases hb : bodyL cl false 0 r with
     | none => rw [hb] at h; cases h
     | some x =>
      rw [hb] at h
      injection h with h
      injection h with h1 h2
      have := ih false 0 x.1 x.2 hb;subst h1 h2;simp only [List.length_cons]; omega
    ·cases hb : bodyL cl false c.toNat r with
     | none => rw [hb] at h; cases h
     | some x =>
      rw [hb] at h
      injection h with h
      injection h with h1 h2
      have := ih false c.toNat x.1 x.2 hb;subst h1 h2;cases f
      ·simp only [Bool.false_eq_true, if_false, List.length_cons]; omega
      ·simp only [if_true, List.length_cons]; omega
   ·cases hb : bodyL cl false 0 r with
    | none => rw [hb] at h; cases h
    | some x =>
     rw [hb] at h
     injection h with h
     injection h with h1 h2
     have := ih false 0 x.1 x.2 hb;subst h1 h2;simp only [List.length_cons]; omega
theorem eqs_le : ∀ l : List UInt8, eqsL l <= l.length
 | [] => Nat.le_refl 0
 | c :: r => by
  have := eqs_le r;rw [eqsL]
  split
  ·simp only [List.length_cons]; omega
  ·exact Nat.zero_le _
theorem long_le {l t : List UInt8} {n : Nat} (h : longL l = some (some (t, n))) : n <= l.length := by
 cases l with
 | nil => cases h
 | cons c r =>
  rw [longL] at h
  split at h
  ·rename_i hc
   injection h with h
   cases hb : bodyL (closeL (eqsL r)) true 0 (r.drop (eqsL r + 1)) with
   | none => rw [hb] at h; cases h
   | some x =>
    rw [hb] at h
    injection h with h
    injection h with h1 h2
    have h3 := (body_le _ _ _ x.1 x.2 hb).1;rw [List.length_drop] at h3;have h4 := eqs_le r;simp only [List.length_cons];by_cases h5 : eqsL r = r.length
    ·rw [h5, List.drop_length] at hc;exact absurd hc.2 (by decide)
    ·omega
  ·cases h

open Go.Lib renaming hid → qh
open Go.RowKit
def nameT (l : List UInt8) : ByteArray := ⟨(l.take (nameL l)).toArray⟩
def numT (l : List UInt8) : ByteArray := ⟨(l.take (numL l)).toArray⟩
def quoteT' (l : List UInt8) : List UInt8 := l.take (quoteN (hd l) (l.drop 1))
def oneL (l : List UInt8) : One :=
 if letterB (hd l) = true then ⟨if wordB (nameT l) = true then 2 else 1, nameT l, 0, nameL l, 0⟩
 else if numL l ≠ 0 then ⟨4, ⟨#[]⟩, numberN (numT l), numL l, numberE (numT l)⟩
 else match longL l with
  | some (some (t, n)) => ⟨5, ⟨t.toArray⟩, 0, n, 0⟩
  | some none => ⟨0, ⟨#[]⟩, 0, 0, 30⟩
  | none =>
   if hd l = 34 \/ hd l = 39 then ⟨5, unqT (quoteT' l), 0, quoteN (hd l) (l.drop 1), (unqE (quoteT' l)).toNat⟩
   else if ([91, 61] : List UInt8).isPrefixOf l = true then ⟨0, ⟨#[]⟩, 0, 0, 30⟩
   else signO l
theorem name_le : ∀ l : List UInt8, nameRun l <= l.length
 | [] => Nat.le_refl 0
 | c :: r => by
  have := name_le r;rw [nameRun]
  split
  ·simp only [List.length_cons]; omega
  ·exact Nat.zero_le _
theorem take_extract {s : ByteArray} {i n : Nat} : s.extract i (i + n) = ⟨((s.data.toList.drop i).take n).toArray⟩ := by
 apply ByteArray.ext
 apply Array.ext'
 rw [Lib.extract_data, show i + n - i = n from by omega]

open Go.Lib renaming hid → qh
open Go.RowKit
theorem numRun_le (hex : Bool) : ∀ (l : List UInt8) (L : Nat), numRun hex L l <= l.length
 | [], _ => Nat.le_refl 0
 | c :: r, L => by
  have := numRun_le hex r c.toNat;rw [numRun]
  split
  ·simp only [List.length_cons]; omega
  ·exact Nat.zero_le _
theorem numL_le (l : List UInt8) : numL l <= l.length := by
 unfold numL
 split
 ·exact numRun_le _ _ _
 ·exact Nat.zero_le _
theorem quoteK_le (q : Nat) : ∀ (l : List UInt8) (st n : Nat), quoteK q st l = some n -> n <= l.length
 | [], _, _, h => by cases h
 | c :: r, st, n, h => by
  have ih := fun st n => quoteK_le q r st n
  have key : ∀ st', (quoteK q st' r).map (· + 1) = some n -> n <= (c :: r).length := by
   intro st' h';cases hb : quoteK q st' r with
   | none => rw [hb] at h'; cases h'
   | some m =>
    rw [hb] at h'
    injection h' with h'
    have h2 : m + 1 = n := h';have := ih st' m hb;simp only [List.length_cons]; omega
  rw [quote_cons] at h
  split at h
  ·split at h
   ·exact key _ h
   ·split at h
    ·exact key _ h
    ·exact key _ h
  ·split at h
   ·exact key _ h
   ·split at h
    ·exact key _ h
    ·split at h
     ·injection h with h; simp only [List.length_cons]; omega
     ·split at h
      ·cases h
      ·split at h
       ·exact key _ h
       ·exact key _ h
theorem quoteN_le (q : Nat) (l : List UInt8) : quoteN q l <= l.length + 1 := by
 unfold quoteN;cases h : quoteK q 0 l with
 | none => exact Nat.zero_le _
 | some n => have := quoteK_le q l 0 n h; simp only []; omega

open Go.Lib renaming hid → qh
open Go.RowKit
theorem best_prefix (l : List UInt8) : ∀ (ts : List ByteArray) (b : ByteArray), b.data.toList.isPrefixOf l = true -> (bestL l ts b).data.toList.isPrefixOf l = true
 | [], b, h => h
 | t :: ts, b, h => by
  rw [bestL];refine best_prefix l ts _ ?_
  split
  ·rename_i hc;exact ((Bool.and_eq_true _ _).mp hc).1
  ·exact h
theorem sign_len (l : List UInt8) : (signT l).size <= l.length := by
 have h := best_prefix l signsT ⟨#[]⟩ (by cases l <;> rfl);exact prefix_le h
theorem one_len {l : List UInt8} (he : (oneL l).e = 0) : 1 <= (oneL l).len /\ (oneL l).len <= l.length := by
 unfold oneL at he ⊢
 split at he
 ·rename_i h;rw [if_pos h];refine ⟨?_, ?_⟩
  ·show 1 <= nameL l;cases l with
   | nil => cases h
   | cons c r =>
    rw [nameL, if_pos h, nameRun, if_pos (by rw [show letterB c.toNat = true from h]; rfl)]; omega
  ·show nameL l <= l.length;rw [nameL, if_pos h];exact name_le l
 ·rename_i h;rw [if_neg h]
  split at he
  ·rename_i hm;rw [if_pos hm];exact ⟨Nat.pos_of_ne_zero hm, numL_le l⟩
  ·rename_i hm;rw [if_neg hm];cases hl : longL l with
   | none =>
    rw [hl] at he;simp only [] at he ⊢
    split at he
    ·rename_i hq;rw [if_pos hq];have hle := quoteN_le (hd l) (l.drop 1);refine ⟨?_, ?_⟩
     ·refine Nat.pos_of_ne_zero fun h0 => ?_
      have h0' : quoteN (hd l) (l.drop 1) = 0 := h0;have he' : (unqE (quoteT' l)).toNat = 0 := he;rw [quoteT', h0', List.take_zero] at he';exact absurd he' (by decide)
     ·show quoteN (hd l) (l.drop 1) <= l.length;cases l with
      | nil => simp [hd] at hq
      | cons c r => rw [List.drop_one, List.tail_cons] at hle ⊢; simpa using hle
    ·rename_i hq;rw [if_neg hq]
     split at he
     ·cases he
     ·rename_i hp;rw [if_neg hp];unfold signO at he ⊢
      split at he
      ·split at he <;> cases he
      ·rename_i hz;rw [if_neg hz];exact ⟨Nat.pos_of_ne_zero hz, sign_len l⟩
   | some x =>
    rw [hl] at he;cases x with
    | none => cases he
    | some x =>
     have h1 := long_pos (l := l) (t := x.1) (n := x.2) hl;have h2 := long_le (l := l) (t := x.1) (n := x.2) hl;exact ⟨by show 1 <= x.2; omega, h2⟩
theorem lineRun_le : ∀ l : List UInt8, lineRun l <= l.length
 | [] => Nat.le_refl 0
 | c :: r => by
  have := lineRun_le r;rw [lineRun]
  split
  ·exact Nat.zero_le _
  ·simp only [List.length_cons]; omega
theorem note_len {l : List UInt8} {k : Nat} (h : noteL l = some k) : k <= l.length := by
 unfold noteL at h
 split at h
 ·rename_i hp;have h2 := prefix_le hp;have hl2 : 2 <= l.length := h2
  split at h
  ·rename_i n hl
   injection h with h
   have := long_le hl;rw [List.length_drop] at this;omega
  ·injection h with h; omega
  ·injection h with h
   subst h;exact lineRun_le l
 ·cases h
structure Tok where
 k : Nat
 s : ByteArray
 n : Int
 line : Nat
def tokF : Nat -> Nat -> List UInt8 -> List Tok -> List Tok × Nat × Nat
 | 0, _, _, _ => ([], 0, 0)
 | f + 1, line, l, acc =>
  if l.drop (blanks l) = [] then (acc ++ [⟨6, ⟨#[]⟩, 0, line + linesOf (l.take (blanks l))⟩], 0, 0)
  else match noteL (l.drop (blanks l)) with
   | some 0 => ([], 30, line + linesOf (l.take (blanks l)))
   | some (k + 1) => tokF f (line + linesOf (l.take (blanks l)) + linesOf ((l.drop (blanks l)).take (k + 1))) ((l.drop (blanks l)).drop (k + 1)) acc
   | none =>
    if (oneL (l.drop (blanks l))).e = 0 then
     tokF f (line + linesOf (l.take (blanks l)) + linesOf ((l.drop (blanks l)).take (oneL (l.drop (blanks l))).len)) ((l.drop (blanks l)).drop (oneL (l.drop (blanks l))).len)
      (acc ++ [⟨(oneL (l.drop (blanks l))).k, (oneL (l.drop (blanks l))).s, (oneL (l.drop (blanks l))).n, line + linesOf (l.take (blanks l))⟩])
    else ([], (oneL (l.drop (blanks l))).e, line + linesOf (l.take (blanks l)))
def tokensL (l : List UInt8) : List Tok × Nat × Nat := if 65535 < l.length then ([], 3, 0) else tokF (l.length + 1) 1 l []
end Go.Proofs.YtnkejjlidgnkkaaGreatDoor.Lex
namespace Go.Proofs.YtnkejjlidgnkkaaGreatDoor.Ps

open Go.Lib renaming hid → qh
open Go.Proofs.YtnkejjlidgnkkaaGreatDoor.Nd (Nd)
open Go.Proofs.YtnkejjlidgnkkaaGreatDoor.Lex (Tok tokensL)
structure St where
 at' : Nat
 l : List Nd
inductive R (α : Type) where
 | ok (a : α) (s : St)
 | no (e line : Nat)
def M (α : Type) : Type := St -> R α
def M.pure {α : Type} (a : α) : M α := fun s => .ok a s
def M.bind {α β : Type} (x : M α) (f : α -> M β) : M β := fun s => match x s with
 | .ok a s' => f a s'
 | .no e l => .no e l
instance : Monad M where
 pure := M.pure
 bind := M.bind
def wSemi : ByteArray := ⟨#[59]⟩
def wReturn : ByteArray := ⟨#[114, 101, 116, 117, 114, 110]⟩
def wEnd : ByteArray := ⟨#[101, 110, 100]⟩
def wElse : ByteArray := ⟨#[101, 108, 115, 101]⟩
def wElseif : ByteArray := ⟨#[101, 108, 115, 101, 105, 102]⟩
def wUntil : ByteArray := ⟨#[117, 110, 116, 105, 108]⟩
def wComma : ByteArray := ⟨#[44]⟩
def wDot : ByteArray := ⟨#[46]⟩
def wColon : ByteArray := ⟨#[58]⟩
def wColons : ByteArray := ⟨#[58, 58]⟩
def wOpen : ByteArray := ⟨#[40]⟩
def wShut : ByteArray := ⟨#[41]⟩
def wOpenB : ByteArray := ⟨#[91]⟩
def wShutB : ByteArray := ⟨#[93]⟩
def wOpenC : ByteArray := ⟨#[123]⟩
def wShutC : ByteArray := ⟨#[125]⟩
def wEq : ByteArray := ⟨#[61]⟩
def wDots : ByteArray := ⟨#[46, 46, 46]⟩
def wNil : ByteArray := ⟨#[110, 105, 108]⟩
def wTrue : ByteArray := ⟨#[116, 114, 117, 101]⟩
def wFalse : ByteArray := ⟨#[102, 97, 108, 115, 101]⟩
def wFunction : ByteArray := ⟨#[102, 117, 110, 99, 116, 105, 111, 110]⟩
def wWhile : ByteArray := ⟨#[119, 104, 105, 108, 101]⟩
def wDo : ByteArray := ⟨#[100, 111]⟩
def wRepeat : ByteArray := ⟨#[114, 101, 112, 101, 97, 116]⟩
def wIf : ByteArray := ⟨#[105, 102]⟩
def wThen : ByteArray := ⟨#[116, 104, 101, 110]⟩
def wFor : ByteArray := ⟨#[102, 111, 114]⟩
def wIn : ByteArray := ⟨#[105, 110]⟩
def wLocal : ByteArray := ⟨#[108, 111, 99, 97, 108]⟩
def wGoto : ByteArray := ⟨#[103, 111, 116, 111]⟩
def wBreak : ByteArray := ⟨#[98, 114, 101, 97, 107]⟩
def wMinus : ByteArray := ⟨#[45]⟩
def wNot : ByteArray := ⟨#[110, 111, 116]⟩
def wLen : ByteArray := ⟨#[35]⟩
def wTilde : ByteArray := ⟨#[126]⟩
def wSelf : ByteArray := ⟨#[115, 101, 108, 102]⟩
structure Oper where
 kind : Nat
 op : Nat
 binds : Nat
def operators : List (ByteArray × Oper) :=
 [(⟨#[111, 114]⟩, ⟨33, 0, 1⟩), (⟨#[97, 110, 100]⟩, ⟨32, 0, 2⟩),
 (⟨#[61, 61]⟩, ⟨31, 12, 3⟩), (⟨#[126, 61]⟩, ⟨31, 13, 3⟩), (⟨#[60]⟩, ⟨31, 14, 3⟩),
 (⟨#[60, 61]⟩, ⟨31, 15, 3⟩), (⟨#[62]⟩, ⟨31, 16, 3⟩), (⟨#[62, 61]⟩, ⟨31, 17, 3⟩),
 (⟨#[124]⟩, ⟨31, 7, 4⟩), (⟨#[126]⟩, ⟨31, 8, 5⟩), (⟨#[38]⟩, ⟨31, 6, 6⟩),
 (⟨#[60, 60]⟩, ⟨31, 9, 7⟩), (⟨#[62, 62]⟩, ⟨31, 10, 7⟩), (⟨#[46, 46]⟩, ⟨31, 11, 8⟩),
 (⟨#[43]⟩, ⟨31, 1, 9⟩), (⟨#[45]⟩, ⟨31, 2, 9⟩),
 (⟨#[42]⟩, ⟨31, 3, 10⟩), (⟨#[47, 47]⟩, ⟨31, 4, 10⟩), (⟨#[37]⟩, ⟨31, 5, 10⟩)]
def operFind : List (ByteArray × Oper) -> ByteArray -> Oper
 | [], _ => ⟨0, 0, 0⟩
 | (m, o) :: r, s => if m = s then o else operFind r s
def operOf (m : ByteArray) : Oper := operFind operators m
def unOf (m : ByteArray) : Nat := if m = wMinus then 18 else if m = wNot then 19 else if m = wLen then 20 else if m = wTilde then 21 else 0
section
variable (T : List Tok)
def tk (s : St) : Tok := T.getD s.at' ⟨6, ⟨#[]⟩, 0, 0⟩
def markOf (t : Tok) : ByteArray := if t.k = 2 \/ t.k = 3 then t.s else ⟨#[]⟩
def fail {α : Type} (e : Nat) : M α := fun s => .no e (tk T s).line
def tokM : M Tok := fun s => .ok (tk T s) s
def markM : M ByteArray := fun s => .ok (markOf (tk T s)) s
def lineM : M Nat := fun s => .ok (tk T s).line s
def nextM : M Unit := fun s => .ok () { s with at' := s.at' + 1 }
def add (n : Nd) : M Int := fun s => if s.l.length = 4096 then .no 3 (tk T s).line else .ok (s.l.length : Int) { s with l := s.l ++ [n] }
def room (c : Nat) : M Unit := if c = 200 then fail T 3 else pure ()
def accept (m : ByteArray) : M Bool := fun s => if markOf (tk T s) = m then .ok true { s with at' := s.at' + 1 } else .ok false s
def expect (m : ByteArray) : M Unit := do if <- accept T m then pure () else fail T 40
def endsB (t : Tok) : Bool := markOf t = wEnd || markOf t = wElse || markOf t = wElseif || markOf t = wUntil || t.k == 6
def endsM : M Bool := fun s => .ok (endsB (tk T s)) s
def peekName : M ByteArray := fun s => if (tk T s).k = 1 then .ok (tk T s).s s else .no 40 (tk T s).line
def nextName : M ByteArray := do
 let n <- peekName T
 if n.size > 60 then fail T 3 else
 nextM
 pure n
def oneMore (ns : List ByteArray) : M (List ByteArray) := do
 let _ <- peekName T
 room T ns.length
 let n <- nextName T
 pure (ns ++ [n])
def namesGo : Nat -> List ByteArray -> M (List ByteArray)
 | 0, _ => fail T 0
 | f + 1, ns => do if <- accept T wComma then namesGo f (<- oneMore T ns) else pure ns
def names : M (List ByteArray) := do namesGo T (T.length + 1) (<- oneMore T [])
def lineAt (i : Int) : M Int := fun s => .ok (Nd.at' s.l i).line s
def kindAt (i : Int) : M Nat := fun s => .ok (Nd.at' s.l i).k s
structure Fns where
 beg : M Unit
 beg1 : M Unit
 operand : M Int
 expr : Nat -> M Int
 exprs : M (List Int)
 block : M Int
 pre : M Int
 body : List ByteArray -> Nat -> M Int
def startsE (t : Tok) : Bool := t.k == 1 || t.k == 4 || t.k == 5 || markOf t = wNil || markOf t = wTrue || markOf t = wFalse || markOf t = wDots || markOf t = wOpenC || markOf t = wFunction || markOf t = wOpen || unOf (markOf t) != 0
def startExpr : M Unit := fun s => if startsE (tk T s) then .ok () s else .no 40 (tk T s).line
def startsArgs (t : Tok) : Bool := markOf t = wOpen || markOf t = wOpenC || t.k == 5
def variableM : M Int := do
 let line <- lineM T
 let n <- nextName T
 add T ⟨27, 0, n, [], [], line⟩
def indexM (left key : Int) : M Int := do add T ⟨28, 0, ⟨#[]⟩, [], [left, key], <- lineAt left⟩
def keyM (beg : M Unit) : M Int := do
 beg
 let line <- lineM T
 let n <- peekName T
 nextM
 add T ⟨24, 0, n, [], [], line⟩
def fieldM (beg1 : M Unit) (left : Int) : M Int := do indexM T left (<- keyM T beg1)
def literal (t : Tok) : Nd :=
 if t.k = 4 then ⟨23, t.n, ⟨#[]⟩, [], [], t.line⟩ else if t.k = 5 then ⟨24, 0, t.s, [], [], t.line⟩ else
 ⟨if t.s = wNil then 20 else if t.s = wTrue then 21 else if t.s = wFalse then 22 else if t.s = wDots then 25 else 0, 0, ⟨#[]⟩, [], [], t.line⟩
section
variable (d : Fns)
def argsM : M (List Int) := do
 if startsArgs (<- tokM T) then
  if <- accept T wOpen then
   let ks <- (do if (<- markM T) = wShut then pure [] else d.exprs)
   expect T wShut
   pure ks
  else
   d.beg
   pure [<- d.operand]
 else fail T 40
def callM (k : Nat) (name : ByteArray) (left : Int) : M Int := do
 let line <- lineAt left
 let ks <- argsM T d
 add T ⟨k, 0, name, [], left :: ks, line⟩
def firstPre : M Int := do
 let line <- lineM T
 if <- accept T wOpen then
  let kid <- d.expr 0
  expect T wShut
  add T ⟨38, 0, ⟨#[]⟩, [], [kid], line⟩
 else variableM T
def preGo : Nat -> Int -> M Int
 | 0, _ => fail T 0
 | f + 1, left => do
  let t <- tokM T
  if markOf t = wOpenB then
   nextM
   let key <- d.expr 0
   expect T wShutB
   preGo f (<- indexM T left key)
  else if markOf t = wDot then
   nextM
   preGo f (<- fieldM T d.beg left)
  else if markOf t = wColon then
   nextM
   let n <- nextName T
   preGo f (<- callM T d 30 n left)
  else if startsArgs t then preGo f (<- callM T d 29 ⟨#[]⟩ left)
  else pure left
def preM : M Int := do preGo T d (T.length + 1) (<- firstPre T d)
def behindM : M Tok := fun s => .ok (T.getD (s.at' + 1) ⟨6, ⟨#[]⟩, 0, 0⟩) s
def itemM : M Int := do
 let line <- lineM T
 let t <- tokM T
 if <- accept T wOpenB then
  let k <- d.expr 0
  expect T wShutB
  expect T wEq
  let v <- d.expr 0
  add T ⟨37, 0, ⟨#[]⟩, [], [k, v], line⟩
 else if t.k = 1 /\ (<- behindM T).k = 3 /\ (<- behindM T).s = wEq then
  let k <- keyM T d.beg
  expect T wEq
  let v <- d.expr 0
  add T ⟨37, 0, ⟨#[]⟩, [], [k, v], line⟩
 else
  let v <- d.expr 0
  add T ⟨36, 0, ⟨#[]⟩, [], [v], line⟩
def tableGo : Nat -> List Int -> M (List Int)
 | 0, _ => fail T 0
 | f + 1, ks => do
  if (<- markM T) = wShutC then pure ks else
  let k <- itemM T d
  if <- accept T wComma then tableGo f (ks ++ [k]) else
  if <- accept T wSemi then tableGo f (ks ++ [k]) else pure (ks ++ [k])
def tableM : M Int := do
 let line <- lineM T
 expect T wOpenC
 let ks <- tableGo T d (T.length + 1) []
 expect T wShutC
 add T ⟨35, 0, ⟨#[]⟩, [], ks, line⟩
def paramsGo : Nat -> List ByteArray -> M (List ByteArray × Nat)
 | 0, _ => fail T 0
 | f + 1, ns => do
  if <- accept T wDots then pure (ns, 1) else
  let ns' <- oneMore T ns
  if <- accept T wComma then paramsGo f ns' else pure (ns', 0)
def params (ns : List ByteArray) : M (List ByteArray × Nat) := do
 expect T wOpen
 let r <- (do if (<- markM T) = wShut then pure (ns, 0) else paramsGo T (T.length + 1) ns)
 expect T wShut
 pure r
def bodyM (ns : List ByteArray) (line : Nat) : M Int := do
 let r <- params T ns
 let b <- d.block
 expect T wEnd
 add T ⟨26, r.2, ⟨#[]⟩, r.1, [b], line⟩
def operandM : M Int := do
 let t <- tokM T
 let m := markOf t
 if unOf m ≠ 0 then
  nextM
  let kid <- d.expr 11
  add T ⟨34, unOf m, ⟨#[]⟩, [], [kid], t.line⟩
 else if t.k = 1 \/ m = wOpen then preM T d
 else if m = wOpenC then tableM T d
 else if m = wFunction then
  nextM
  bodyM T d [] t.line
 else
  nextM
  add T (literal t)
def exprGo (binds : Nat) : Nat -> Int -> M Int
 | 0, _ => fail T 0
 | f + 1, left => do
  let o := operOf (<- markM T)
  if o.binds > binds then
   nextM
   let right <- d.expr (if o.op = 11 then o.binds - 1 else o.binds)
   exprGo binds f (<- add T ⟨o.kind, o.op, ⟨#[]⟩, [], [left, right], <- lineAt left⟩)
  else pure left
def exprM (binds : Nat) : M Int := do
 startExpr T
 exprGo T d binds (T.length + 1) (<- operandM T d)
def exprsGo : Nat -> List Int -> M (List Int)
 | 0, _ => fail T 0
 | f + 1, ks => do
  startExpr T
  room T ks.length
  let k <- exprM T d 0
  if <- accept T wComma then exprsGo f (ks ++ [k]) else pure (ks ++ [k])
def exprsM : M (List Int) := exprsGo T d (T.length + 1) []
def doBlock : M Int := do
 expect T wDo
 let b <- d.block
 expect T wEnd
 pure b
def pairM : M (List Int) := do
 nextM
 let c <- d.expr 0
 expect T wThen
 pure [c, <- d.block]
def ifGo : Nat -> List Int -> M (List Int)
 | 0, _ => fail T 0
 | f + 1, ks => do if (<- markM T) = wElseif then ifGo f (ks ++ (<- pairM T d)) else pure ks
def ifStat : M Int := do
 let line <- lineM T
 let ks <- ifGo T d (T.length + 1) (<- pairM T d)
 let ks <- (do if <- accept T wElse then pure (ks ++ [<- d.block]) else pure ks)
 expect T wEnd
 add T ⟨8, 0, ⟨#[]⟩, [], ks, line⟩
def bounds : M (List Int) := do
 let a <- d.expr 0
 expect T wComma
 let b <- d.expr 0
 if <- accept T wComma then pure [a, b, <- d.expr 0] else pure [a, b]
def forStat : M Int := do
 let line <- lineM T
 nextM
 let ns <- names T
 if ns.length = 1 then
  if <- accept T wEq then
   let ks <- bounds T d
   let b <- doBlock T d
   add T ⟨9, 0, ⟨#[]⟩, ns, ks ++ [b], line⟩
  else
   expect T wIn
   let ks <- d.exprs
   let b <- doBlock T d
   add T ⟨10, 0, ⟨#[]⟩, ns, ks ++ [b], line⟩
 else
  expect T wIn
  let ks <- d.exprs
  let b <- doBlock T d
  add T ⟨10, 0, ⟨#[]⟩, ns, ks ++ [b], line⟩
def fieldsGo : Nat -> Int -> M Int
 | 0, _ => fail T 0
 | f + 1, t => do if <- accept T wDot then fieldsGo f (<- fieldM T d.beg1 t) else pure t
def functionStat : M Int := do
 d.beg
 let line <- lineM T
 nextM
 let t <- fieldsGo T d (T.length + 1) (<- variableM T)
 if <- accept T wColon then
  let t <- fieldM T d.beg1 t
  let v <- d.body [wSelf] line
  add T ⟨3, 1, ⟨#[]⟩, [], [t, v], line⟩
 else
  let v <- d.body [] line
  add T ⟨3, 1, ⟨#[]⟩, [], [t, v], line⟩
def localStat : M Int := do
 let line <- lineM T
 nextM
 if (<- markM T) = wFunction then
  d.beg
  let fr <- lineM T
  nextM
  let n <- nextName T
  let v <- d.body [] fr
  add T ⟨11, 0, ⟨#[]⟩, [n], [v], line⟩
 else
  let ns <- names T
  let ks <- (do if <- accept T wEq then d.exprs else pure [])
  add T ⟨2, 0, ⟨#[]⟩, ns, ks, line⟩
def jumpStat : M Int := do
 let t <- tokM T
 nextM
 if markOf t = wGoto then
  let n <- nextName T
  add T ⟨14, 0, n, [], [], t.line⟩
 else if markOf t = wColons then
  let n <- nextName T
  expect T wColons
  add T ⟨15, 0, n, [], [], t.line⟩
 else add T ⟨13, 0, ⟨#[]⟩, [], [], t.line⟩
def startPre : M Unit := fun s => if (tk T s).k = 1 \/ markOf (tk T s) = wOpen then .ok () s else .no 40 (tk T s).line
def isCall (k : Nat) : Bool := k == 29 || k == 30
def targetM (i : Int) : M Int := do
 let k <- kindAt i
 if isCall k \/ k = 38 then fail T 40 else pure i
def targetsGo : Nat -> List Int -> M (List Int)
 | 0, _ => fail T 0
 | f + 1, ks => do
  if <- accept T wComma then
   startPre T
   room T ks.length
   let t <- targetM T (<- d.pre)
   targetsGo f (ks ++ [t])
  else pure ks
def prefixStat : M Int := do
 startPre T
 d.beg
 let line <- lineM T
 let p <- d.pre
 if isCall (<- kindAt p) then add T ⟨4, 0, ⟨#[]⟩, [], [p], line⟩ else
 let t <- targetM T p
 let ks <- targetsGo T d (T.length + 1) [t]
 expect T wEq
 let es <- d.exprs
 add T ⟨3, ks.length, ⟨#[]⟩, [], ks ++ es, line⟩
def statM : M Int := do
 let t <- tokM T
 let m := markOf t
 if m = wWhile then
  nextM
  let c <- d.expr 0
  let b <- doBlock T d
  add T ⟨6, 0, ⟨#[]⟩, [], [c, b], t.line⟩
 else if m = wDo then
  let b <- doBlock T d
  add T ⟨5, 0, ⟨#[]⟩, [], [b], t.line⟩
 else if m = wRepeat then
  nextM
  let b <- d.block
  expect T wUntil
  let c <- d.expr 0
  add T ⟨7, 0, ⟨#[]⟩, [], [b, c], t.line⟩
 else if m = wIf then ifStat T d
 else if m = wFor then forStat T d
 else if m = wFunction then functionStat T d
 else if m = wLocal then localStat T d
 else if m = wColons \/ m = wGoto \/ m = wBreak then jumpStat T
 else prefixStat T d
def lastStat : M Int := do
 let line <- lineM T
 nextM
 let t <- tokM T
 let ks <- (if markOf t = wSemi \/ endsB t then pure [] else d.exprs)
 let r <- add T ⟨12, 0, ⟨#[]⟩, [], ks, line⟩
 let _ <- accept T wSemi
 if <- endsM T then pure r else fail T 40
def blockGo : Nat -> List Int -> M (List Int)
 | 0, _ => fail T 0
 | f + 1, ks => do
  let t <- tokM T
  if endsB t then pure ks else
  if markOf t = wSemi then
   nextM
   blockGo f ks
  else if markOf t = wReturn then blockGo f (ks ++ [<- lastStat T d])
  else blockGo f (ks ++ [<- statM T d])
def blockM : M Int := do
 let line <- lineM T
 let ks <- blockGo T d (T.length + 1) []
 add T ⟨1, 0, ⟨#[]⟩, [], ks, line⟩
end
def fns : Nat -> Fns
 | 0 => ⟨fail T 3, fail T 3, fail T 3, fun _ => fail T 3, fail T 3, fail T 3, fail T 3, fun _ _ => fail T 3⟩
 | k + 1 => ⟨pure (), (fns k).beg, operandM T (fns k), exprM T (fns k), exprsM T (fns k), blockM T (fns k), preM T (fns k), bodyM T (fns k)⟩
def textM : M Int := do
 let b <- (fns T 100).block
 if (<- tokM T).k = 6 then add T ⟨26, 1, ⟨#[]⟩, [], [b], 1⟩ else fail T 40
end
def parseL (s : ByteArray) : List Nd × Int × Nat × Nat :=
 if (tokensL s.data.toList).2.1 ≠ 0 then ([], 0, (tokensL s.data.toList).2.1, (tokensL s.data.toList).2.2) else
 match textM (tokensL s.data.toList).1 ⟨0, []⟩ with
 | .ok r st => (st.l, r, 0, 0)
 | .no e line => ([], 0, e, line)
end Go.Proofs.YtnkejjlidgnkkaaGreatDoor.Ps
namespace Go.Proofs.YtnkejjlidgnkkaaGreatDoor.Nd

open Go.Lib renaming hid → qh
open Go.ChangeShapes Go.WideShapes Go.RowKit Go.Deep Go.Joins
def Lst (w : World) (v : Value) (vs : List Value) : Prop :=
 ∃ ao cap, v = .slice ao vs.length cap /\ vs.length <= 9223372036854775807 /\ (vs ≠ [] -> ∃ g off, g < w.heap.size /\ ao = some ⟨g, off, none⟩ /\ ∀ (j : Nat) (h : j < vs.length), w.cell? ⟨g, off + j, none⟩ = some vs[j])
def In64 (n : Int) : Prop := -9223372036854775808 <= n /\ n <= 9223372036854775807
def NdAt (w : World) (g o : Nat) (n : Nd) : Prop :=
 ∃ vn vk, w.cell? ⟨g, o, none⟩ = some (.int .u8 n.k) /\ w.cell? ⟨g, o + 1, none⟩ = some (.int .i64 n.n) /\ w.cell? ⟨g, o + 2, none⟩ = some (.string n.name) /\ w.cell? ⟨g, o + 3, none⟩ = some vn /\ w.cell? ⟨g, o + 4, none⟩ = some vk /\ w.cell? ⟨g, o + 5, none⟩ = some (.int .i64 n.line) /\
  Lst w vn (n.names.map .string) /\ Lst w vk (n.kids.map (.int .i64)) /\ n.k < 256 /\ In64 n.n /\ In64 n.line /\ (∀ c ∈ n.kids, In64 c) /\ n.name.size <= 140737488351232 /\ n.names.length * 16 <= 140737488351232 /\ n.kids.length * 8 <= 140737488351232 /\ ∀ s ∈ n.names, s.size <= 140737488351232
def NodesAt (w : World) (v : Value) (l : List Nd) : Prop :=
 ∃ ao cap, v = .slice ao l.length cap /\ l.length <= 9223372036854775807 /\ (l ≠ [] -> ∃ g off, g < w.heap.size /\ ao = some ⟨g, off, none⟩ /\ ∀ (i : Nat) (h : i < l.length), NdAt w g (off + i * 6) l[i])
def SynAt (w : World) (v : Value) (l : List Nd) (root : Int) : Prop := ∃ v0, v = .agg #[v0, .int .i64 root] /\ NodesAt w v0 l /\ In64 root
theorem Lst.below {w w' : World} {v : Value} {vs : List Value} (h : Lst w v vs) (hb : Below w.heap.size w w') : Lst w' v vs := by
 obtain ⟨ao, cap, rfl, hl, hc⟩ := h;refine ⟨ao, cap, rfl, hl, fun hne => ?_⟩;obtain ⟨g, off, hg, rfl, hx⟩ := hc hne;exact ⟨g, off, Nat.lt_of_lt_of_le hg hb.size, rfl, fun j h => by rw [hb.cell (p := ⟨g, off + j, none⟩) hg]; exact hx j h⟩
theorem lt_cell {w : World} {g j : Nat} {v : Value} (h : w.cell? ⟨g, j, none⟩ = some v) : g < w.heap.size := by
 rcases Nat.lt_or_ge g w.heap.size with h' | h'
 ·exact h'
 ·unfold World.cell? at h;rw [Array.getElem?_eq_none h'] at h;cases h
theorem NdAt.below {w w' : World} {g o : Nat} {n : Nd} (h : NdAt w g o n) (hb : Below w.heap.size w w') : NdAt w' g o n := by
 obtain ⟨vn, vk, c0, c1, c2, c3, c4, c5, hn, hk, hrest⟩ := h;have hg := lt_cell c0;refine ⟨vn, vk, ?_, ?_, ?_, ?_, ?_, ?_, hn.below hb, hk.below hb, hrest⟩
 ·rw [hb.cell (p := ⟨g, _, none⟩) hg]; exact c0
 ·rw [hb.cell (p := ⟨g, _, none⟩) hg]; exact c1
 ·rw [hb.cell (p := ⟨g, _, none⟩) hg]; exact c2
 ·rw [hb.cell (p := ⟨g, _, none⟩) hg]; exact c3
 ·rw [hb.cell (p := ⟨g, _, none⟩) hg]; exact c4
 ·rw [hb.cell (p := ⟨g, _, none⟩) hg]; exact c5
theorem NodesAt.below {w w' : World} {v : Value} {l : List Nd} (h : NodesAt w v l) (hb : Below w.heap.size w w') : NodesAt w' v l := by
 obtain ⟨ao, cap, rfl, hl, hc⟩ := h;refine ⟨ao, cap, rfl, hl, fun hne => ?_⟩;obtain ⟨g, off, hg, rfl, hx⟩ := hc hne;exact ⟨g, off, Nat.lt_of_lt_of_le hg hb.size, rfl, fun i h => (hx i h).below hb⟩
theorem SynAt.below {w w' : World} {v : Value} {l : List Nd} {r : Int} (h : SynAt w v l r) (hb : Below w.heap.size w w') : SynAt w' v l r := by
 obtain ⟨v0, rfl, h0, hr⟩ := h;exact ⟨v0, rfl, h0.below hb, hr⟩
section
variable {H : Type} {enc : TypeId × Value -> H} {w : World} {base : Nat} {spare : Nat -> Bool} {held : Bool}
end
end Go.Proofs.YtnkejjlidgnkkaaGreatDoor.Nd
