/-
  A part of the proof.
-/
import Derived.KernelRfl
import Derived.Lib.Hide
import Derived.Test.YtnkejjlidgnkkaaGreatDoorClRE
import Derived.Test.YtnkejjlidgnkkaaGreatDoorClRR
set_option maxRecDepth 100000
set_option maxHeartbeats 40000000
namespace Go.Proofs.YtnkejjlidgnkkaaGreatDoor.Ps

open Go.Lib renaming hid → qh
open Go Go.RowKit
open Go.Proofs.YtnkejjlidgnkkaaGreatDoor.Lex
theorem runN_zero (b : Nat) : ∀ (m : Nat) (l : List UInt8) (a : Nat), (runN b m l a).2 = 0 -> (runN b m l a).1 = a
 | 0, _, _, _ => rfl
 | _ + 1, [], _, _ => rfl
 | m + 1, c :: r, a, h => by
  rw [runN] at h ⊢;cases hd : hexD c.toNat with
  | none => rfl
  | some d =>
   rw [hd] at h;simp only [] at h ⊢
   split
   ·rename_i hb;rw [if_pos hb] at h;simp at h
   ·rfl
theorem runN_one : ∀ (m : Nat) (l : List UInt8), (runN 16 m l 0).2 = 1 -> (runN 16 m l 0).1 < 16
 | 0, _, h => by cases h
 | _ + 1, [], h => by cases h
 | m + 1, c :: r, h => by
  rw [runN] at h ⊢;cases hd : hexD c.toNat with
  | none => show 0 < 16; decide
  | some d =>
   rw [hd] at h;simp only [] at h ⊢
   split
   ·rename_i hb;rw [if_pos hb] at h;have h0 := runN_zero 16 m r (0 * 16 + d) (by simpa using h)
    show (runN 16 m r (0 * 16 + d)).1 < 16;omega
   ·show 0 < 16; decide
theorem esc_few {r t : List UInt8} {k : Nat} (h : escL r = some (t, k)) : t.length <= k := by
 cases r with
 | nil => cases h
 | cons b r =>
  rw [escL] at h
  split at h
  ·injection h with h; injection h with h1 h2
   subst h1 h2
   split <;> simp
  ·split at h
   ·injection h with h; injection h with h1 h2; subst h1 h2; simp
   ·split at h
    ·split at h
     ·injection h with h; injection h with h1 h2; subst h1 h2; simp
     ·cases h
    ·split at h
     ·injection h with h; injection h with h1 h2; subst h1 h2; simp
     ·split at h
      ·split at h
       ·rename_i hc
        injection h with h; injection h with h1 h2
        rw [<- h1, <- h2, bytesOf_list];have h6 := encI_short ((runN 16 r.length (r.drop 1) 0).1 : Int);by_cases hone : (runN 16 r.length (r.drop 1) 0).2 = 1
        ·have := runN_one _ _ hone;rw [hone];rw [encI, if_pos (by omega)];simp
        ·have := hc.1;omega
       ·cases h
      ·split at h
       ·rename_i hc
        injection h with h; injection h with h1 h2; subst h1 h2
        have := hc.1;simp
       ·cases h
theorem part_few {q : Nat} {l t : List UInt8} {k : Nat} (h : partL q l = some (t, k)) : t.length <= k := by
 cases l with
 | nil => cases h
 | cons c r =>
  rw [partL] at h
  split at h
  ·cases h
  ·split at h
   ·exact esc_few h
   ·injection h with h; injection h with h1 h2; subst h1 h2; exact Nat.le_refl _
theorem parts_few {q : Nat} : ∀ (m : Nat) (l t : List UInt8), partsL q m l = some t -> t.length <= l.length
 | 0, _, _, h => by cases h
 | m + 1, l, t, h => by
  rw [partsL] at h;cases hp : partL q l with
  | none =>
   rw [hp] at h;simp only [] at h
   split at h
   ·injection h with h; subst h; exact Nat.zero_le _
   ·cases h
  | some x =>
   obtain ⟨t1, k⟩ := x;rw [hp] at h;simp only [] at h;cases hr : partsL q m (l.drop k) with
   | none => rw [hr] at h; cases h
   | some t2 =>
    rw [hr] at h
    injection h with h
    have h1 := part_few hp;have h2 := parts_few m _ _ hr;rw [List.length_drop] at h2;rcases Nat.lt_or_ge l.length k with hk | hk
    ·rw [List.drop_eq_nil_of_le (Nat.le_of_lt hk)] at hr;cases m with
     | zero => cases hr
     | succ m => rw [partsL] at hr; cases hr
    ·rw [<- h, List.length_append]; omega
theorem unq_few (l : List UInt8) : (unqT l).size <= l.length := by
 unfold unqT;cases h : unquotL l with
 | none => exact Nat.zero_le _
 | some t =>
  show t.length <= l.length;cases l with
  | nil => cases h
  | cons c r =>
   rw [unquotL] at h
   split at h
   ·have := parts_few _ _ _ h;rw [List.length_cons]; omega
   ·cases h
theorem long_few {l t : List UInt8} {n : Nat} (h : Lex.longL l = some (some (t, n))) : t.length <= l.length := by
 have hle := long_le h;cases l with
 | nil => cases h
 | cons c r =>
  rw [Lex.longL] at h
  split at h
  ·injection h with h
   cases hb : bodyL (closeL (eqsL r)) true 0 (r.drop (eqsL r + 1)) with
   | none => rw [hb] at h; cases h
   | some x =>
    rw [hb] at h
    injection h with h
    injection h with h1 h2
    have h3 := (body_le _ _ _ x.1 x.2 hb).2;rw [<- h1]; omega
  ·cases h
theorem tok_few (l : List UInt8) (he : (oneL l).e = 0) : (oneL l).s.size <= l.length := by
 unfold oneL at he ⊢
 split at he
 ·rename_i h;rw [if_pos h]
  show (l.take (nameL l)).length <= l.length;rw [List.length_take]; omega
 ·rename_i h;rw [if_neg h]
  split at he
  ·rename_i h2;rw [if_pos h2]; exact Nat.zero_le _
  ·rename_i h2;rw [if_neg h2];cases hl : Lex.longL l with
   | none =>
    rw [hl] at he;simp only [] at he ⊢
    split at he
    ·rename_i h3;rw [if_pos h3];have h4 := unq_few (quoteT' l)
     show (unqT (quoteT' l)).size <= l.length;have h5 : (quoteT' l).length <= l.length := by rw [quoteT', List.length_take]; omega
     omega
    ·rename_i h3;rw [if_neg h3]
     split at he
     ·cases he
     ·rename_i h4;rw [if_neg h4];unfold signO at he ⊢
      split at he
      ·split at he <;> cases he
      ·rename_i hz;rw [if_neg hz];exact sign_len l
   | some x =>
    rw [hl] at he;cases x with
    | none => cases he
    | some x =>
     obtain ⟨t, n⟩ := x
     show t.length <= l.length;exact long_few hl
theorem name_chars : ∀ (l : List UInt8) (i : Nat), i < nameRun l -> ∃ c, l[i]? = some c /\ (letterB c.toNat || Num.digitB c.toNat) = true
 | [], _, h => by cases h
 | c :: r, i, h => by
  rw [nameRun] at h
  split at h
  ·rename_i hc;cases i with
   | zero => exact ⟨c, rfl, hc⟩
   | succ i => exact name_chars r i (Nat.lt_of_succ_lt_succ h)
  ·cases h
theorem byteAt_of {s : ByteArray} {i : Nat} {c : UInt8} (h : s.data.toList[i]? = some c) : Num.byteAt s i = c.toNat := by
 unfold Num.byteAt;have h2 : s.data[i]? = some c := by simpa using h
 have h3 : s.get! i = c := by
  show s.data[i]! = c;rw [getElem!_def, h2]
 rw [h3]
theorem tok_name (l : List UInt8) (he : (oneL l).e = 0) (hk : (oneL l).k = 1) (h60 : (oneL l).s.size <= 60) : Nd.nmD (oneL l).s = true := by
 by_cases h : letterB (hd l) = true
 ·have ho : oneL l = ⟨if Lex.wordB (nameT l) = true then 2 else 1, nameT l, 0, nameL l, 0⟩ := by rw [oneL, if_pos h]
  rw [ho] at hk h60 ⊢;have hw : Lex.wordB (nameT l) = false := by
   by_cases hw : Lex.wordB (nameT l) = true
   ·rw [if_pos hw] at hk; cases hk
   ·simpa using hw
  have hw2 : Nd.wordB (nameT l) = false := hw;have hn : nameL l = nameRun l := by rw [nameL, if_pos h]
  have hle := name_le l;have hsz : (nameT l).size = nameRun l := by
   show (l.take (nameL l)).length = _;rw [List.length_take, hn]; omega
  have hat : ∀ i, i < nameRun l -> ∃ c : UInt8, Num.byteAt (nameT l) i = c.toNat /\ l[i]? = some c /\ (letterB c.toNat || Num.digitB c.toNat) = true := fun i hi => by
   obtain ⟨c, h1, h2⟩ := name_chars l i hi;refine ⟨c, byteAt_of ?_, h1, h2⟩
   show ((l.take (nameL l)).toArray.toList)[i]? = some c;rw [List.getElem?_take, hn, if_pos hi, h1]
  have hpos : 0 < nameRun l := by
   cases l with
   | nil => cases h
   | cons c r => rw [nameRun, if_pos (by rw [show letterB c.toNat = true from h]; rfl)]; omega
  show Nd.nmD (nameT l) = true;unfold Nd.nmD;rw [Bool.and_eq_true]
  constructor
  ·rw [hw2];have hne : ¬ (nameT l).toList = [] := by
    rw [ByteArray.toList_eq];intro e;have : (nameT l).size = 0 := by show (nameT l).data.toList.length = 0; rw [e]; rfl
    omega
   have hd0 : Nd.digB (Num.byteAt (nameT l) 0) = false := by
    obtain ⟨c, h1, h2, _⟩ := hat 0 hpos;rw [h1];cases l with
    | nil => cases h
    | cons b r =>
     injection h2 with h2
     subst h2;have h' : letterB b.toNat = true := h;unfold letterB at h';unfold Nd.digB;have := of_decide_eq_true h';exact decide_eq_false (by omega)
   rw [hd0, decide_eq_false hne, decide_eq_false (by show ¬ 60 < (nameT l).size; have : (nameT l).size <= 60 := h60; omega)]
   rfl
  ·unfold Nd.charsB;rw [List.all_eq_true];intro i hi;rw [List.mem_range'_1] at hi;obtain ⟨c, h1, _, h3⟩ := hat i (by omega);rw [h1];exact h3
 ·exfalso
  unfold oneL at he hk;rw [if_neg h] at he hk
  split at he
  ·rename_i h2;rw [if_pos h2] at hk; cases hk
  ·rename_i h2;rw [if_neg h2] at hk;cases hl : Lex.longL l with
   | none =>
    rw [hl] at he hk;simp only [] at he hk
    split at he
    ·rename_i h3;rw [if_pos h3] at hk; cases hk
    ·rename_i h3;rw [if_neg h3] at hk
     split at he
     ·cases he
     ·rename_i h4;rw [if_neg h4] at hk;unfold signO at he hk
      split at he
      ·split at he <;> cases he
      ·rename_i hz;rw [if_neg hz] at hk;cases hk
   | some x =>
    rw [hl] at he hk;cases x with
    | none => cases he
    | some x => cases hk
theorem tokens_ok (l : List UInt8) (h : (tokensL l).2.1 = 0) : TOk Nd.nmD (tokensL l).1 := by
 rcases tokens_ended (fun t => 1 <= t.line /\ (t.k = 1 -> t.s.size <= 60 -> Nd.nmD t.s = true) /\ t.s.size <= 65535) (fun l line h6 h1 he => ⟨h1, fun hk h60 => tok_name l he hk h60, Nat.le_trans (tok_few l he) h6⟩) l with h2 | ⟨_, _, A, t, e3, e4, _, hA, hl, hs⟩
 ·exact absurd h h2
 ·rw [e3];have hall : ∀ i, i < (A ++ [t]).length -> 1 <= ((A ++ [t]).getD i endT).line /\ (((A ++ [t]).getD i endT).k = 1 -> ((A ++ [t]).getD i endT).s.size <= 60 -> Nd.nmD ((A ++ [t]).getD i endT).s = true) /\ ((A ++ [t]).getD i endT).s.size <= 65535 := fun i hi => by
   rw [List.getD_eq_getElem?_getD, List.getElem?_eq_getElem hi, Option.getD_some];rcases List.mem_append.1 (List.getElem_mem hi) with hm | hm
   ·exact hA _ hm
   ·rw [List.mem_singleton] at hm;rw [hm];exact ⟨hl, (fun hk => absurd (e4.symm.trans hk) (by decide)), (by rw [hs]; exact Nat.zero_le _)⟩
  exact ⟨end_of_snoc e4 _, fun i hi => (hall i hi).1, fun i hi => (hall i hi).2.1, fun i hi => (hall i hi).2.2⟩
end Go.Proofs.YtnkejjlidgnkkaaGreatDoor.Ps
namespace Go.Proofs.YtnkejjlidgnkkaaGreatDoor.Ps

open Go.Lib renaming hid → qh
open Go.Proofs.YtnkejjlidgnkkaaGreatDoor.Nd
open Go.Proofs.YtnkejjlidgnkkaaGreatDoor.Lex (Tok tokensL)
section
variable {nm : ByteArray -> Bool}
theorem nm_nil : decide ((⟨#[]⟩ : ByteArray).toList = []) = true := by kernel_rfl
theorem row_of {n : Nd} {ks : List (Nat × Int)} (h1 : 1 <= n.line) (h2 : ownB nm n = true) (h3 : kidsB n.k n.n (ks.map (·.1)) = true) (h4 : fitsD n ks = true) : rowD nm n ks = true := by
 unfold rowD;rw [decide_eq_true h1, h2, h3, h4]
 rfl
theorem own_plain {k : Nat} {n line : Int} (hc : cntB k = (0, 0)) (hn : nameB nm k ⟨#[]⟩ = true) (h : numB k n = true) : ownB nm ⟨k, n, ⟨#[]⟩, [], [], line⟩ = true := by
 unfold ownB;rw [hc, hn, h]
 rfl
theorem own_names {k : Nat} {n line : Int} {ns : List ByteArray} (h1 : (cntB k).1 <= ns.length) (h2 : ns.length <= (cntB k).2) (ha : ns.all nm = true) (hn : nameB nm k ⟨#[]⟩ = true) (h : numB k n = true) : ownB nm ⟨k, n, ⟨#[]⟩, ns, [], line⟩ = true := by
 unfold ownB;rw [hn, h];simp [h1, h2]
 simpa using ha
theorem are_all {ks : List Nat} {p : Nat -> Bool} (h : ks.all p = true) : areB ks 0 ks.length p = true := by
 unfold areB;rw [Int.toNat_natCast, Int.toNat_zero, List.drop_zero, Nat.sub_zero, List.take_of_length_le (Nat.le_refl _), h, Bool.and_true, decide_eq_true_iff];omega
theorem list_all {ks : List Nat} {least : Nat} (h : ks.all exprK = true) (h1 : least <= ks.length) (h2 : ks.length <= 200) : listB ks 0 ks.length least = true := by
 unfold listB;rw [are_all h, Bool.and_true, decide_eq_true_iff];omega
theorem are_mid {xs ys zs : List Nat} {p : Nat -> Bool} (h : ys.all p = true) : areB (xs ++ ys ++ zs) xs.length (xs.length + ys.length : Nat) p = true := by
 unfold areB;rw [Int.toNat_natCast, Int.toNat_natCast, List.append_assoc, List.drop_left, Nat.add_sub_cancel_left, List.take_left, h, Bool.and_true, decide_eq_true_iff];rw [List.length_append, List.length_append];omega
theorem are_head {xs ys : List Nat} {p : Nat -> Bool} (h : xs.all p = true) : areB (xs ++ ys) 0 xs.length p = true := by
 have := are_mid (xs := []) (ys := xs) (zs := ys) h
 simpa using this
theorem are_tail {xs ys : List Nat} {p : Nat -> Bool} (h : ys.all p = true) : areB (xs ++ ys) xs.length (xs ++ ys).length p = true := by
 have := are_mid (xs := xs) (ys := ys) (zs := []) h;rw [List.length_append]
 simpa using this
theorem list_tail {xs ys : List Nat} {least : Nat} (h : ys.all exprK = true) (h1 : least <= ys.length) (h2 : ys.length <= 200) : listB (xs ++ ys) xs.length (xs ++ ys).length least = true := by
 unfold listB;rw [are_tail h, Bool.and_true, decide_eq_true_iff, List.length_append];omega
theorem list_head {xs ys : List Nat} {least : Nat} (h : xs.all exprK = true) (h1 : least <= xs.length) (h2 : xs.length <= 200) : listB (xs ++ ys) 0 xs.length least = true := by
 unfold listB;rw [are_head h, Bool.and_true, decide_eq_true_iff];omega
theorem oper_mem (m : ByteArray) : operOf m = ⟨0, 0, 0⟩ \/ operOf m ∈ operators.map (·.2) := by
 have key : ∀ l : List (ByteArray × Oper), operFind l m = ⟨0, 0, 0⟩ \/ operFind l m ∈ l.map (·.2) := by
  intro l
  induction l with
  | nil => exact .inl rfl
  | cons x l ih =>
   unfold operFind;by_cases h : x.1 = m
   ·rw [if_pos h]; exact .inr (List.mem_cons_self ..)
   ·rw [if_neg h];rcases ih with h1 | h1
    ·exact .inl h1
    ·exact .inr (List.mem_cons_of_mem _ h1)
 exact key _
structure OpOk (o : Oper) : Prop where
 kind : o.kind = 31 \/ o.kind = 32 \/ o.kind = 33
 num : numB o.kind o.op = true
 bind : bindD o.kind o.op = o.binds
 most : o.binds <= 10
 least : 1 <= o.binds
 eight : o.binds = 8 ↔ o.op = 11
 concat : o.op = 11 -> o.kind = 31
instance (o : Oper) : Decidable (OpOk o) :=
 decidable_of_iff ((o.kind = 31 \/ o.kind = 32 \/ o.kind = 33) /\ numB o.kind o.op = true /\ bindD o.kind o.op = o.binds /\ o.binds <= 10 /\ 1 <= o.binds /\ (o.binds = 8 ↔ o.op = 11) /\ (o.op = 11 -> o.kind = 31))
  ⟨fun ⟨a, b, c, d, e, f, g⟩ => ⟨a, b, c, d, e, f, g⟩, fun ⟨a, b, c, d, e, f, g⟩ => ⟨a, b, c, d, e, f, g⟩⟩
theorem ops_ok : ∀ o ∈ operators.map (·.2), OpOk o := by decide
theorem oper_ok {m : ByteArray} (h : 0 < (operOf m).binds) : OpOk (operOf m) := by
 rcases oper_mem m with h1 | h1
 ·rw [h1] at h; exact absurd h (Nat.lt_irrefl 0)
 ·exact ops_ok _ h1
theorem oper_none : operOf ⟨#[]⟩ = ⟨0, 0, 0⟩ := by kernel_rfl
theorem un_none : unOf ⟨#[]⟩ = 0 := by kernel_rfl
theorem un_ok (m : ByteArray) : unOf m = 0 \/ (18 <= unOf m /\ unOf m <= 21) := by
 unfold unOf;by_cases h1 : m = wMinus
 ·rw [if_pos h1]; omega
 ·rw [if_neg h1];by_cases h2 : m = wNot
  ·rw [if_pos h2]; omega
  ·rw [if_neg h2];by_cases h3 : m = wLen
   ·rw [if_pos h3]; omega
   ·rw [if_neg h3];by_cases h4 : m = wTilde
    ·rw [if_pos h4]; omega
    ·rw [if_neg h4]; omega
def pB (b : Nat) (k : Nat) (n : Int) : Prop := exprK k = true /\ min (b + 1) 11 <= bindD k n
def pE (k : Nat) (_ : Int) : Prop := exprK k = true
def pP (k : Nat) (_ : Int) : Prop := prefP k = true
theorem pref_expr {k : Nat} (h : prefP k = true) : exprK k = true := by
 have : k ∈ [27, 28, 29, 30, 38] := List.contains_iff_mem.1 h;simp only [List.mem_cons, List.not_mem_nil, or_false] at this;rcases this with rfl | rfl | rfl | rfl | rfl <;> decide
def pO (k : Nat) (_ : Int) : Prop := exprK k = true /\ k ≠ 31 /\ k ≠ 32 /\ k ≠ 33
theorem pO_bind {k : Nat} {n : Int} (h : pO k n) : 11 <= bindD k n := by
 obtain ⟨_, h1, h2, h3⟩ := h;unfold bindD;rw [if_neg h3, if_neg h2, if_neg h1]
 split <;> omega
theorem pO_pB {b k : Nat} {n : Int} (h : pO k n) : pB b k n := ⟨h.1, by have := pO_bind h; omega⟩
theorem pref_pO {k : Nat} {n : Int} (h : pP k n) : pO k n := by
 have : k ∈ [27, 28, 29, 30, 38] := List.contains_iff_mem.1 h;simp only [List.mem_cons, List.not_mem_nil, or_false] at this;rcases this with rfl | rfl | rfl | rfl | rfl <;> exact ⟨by decide, by decide, by decide, by decide⟩
theorem row_bin {o : Oper} (ho : OpOk o) {line : Int} (hl : 1 <= line) {k1 k2 : Nat} {n1 n2 : Int} (h1 : exprK k1 = true) (h2 : exprK k2 = true)
  (hb1 : o.binds <= bindD k1 n1 /\ (o.op = 11 -> o.binds < bindD k1 n1)) (hb2 : (if o.op = 11 then o.binds - 1 else o.binds) < bindD k2 n2) :
  rowD nm ⟨o.kind, o.op, ⟨#[]⟩, [], [], line⟩ [(k1, n1), (k2, n2)] = true := by
 have hk := ho.kind;have hlea := ho.least;refine row_of hl (own_plain ?_ ?_ ho.num) ?_ ?_
 ·rcases hk with e | e | e <;> rw [e] <;> rfl
 ·rcases hk with e | e | e <;> rw [e] <;> exact nm_nil
 ·have : kidsB o.kind o.op [k1, k2] = rowL [k1, k2] [exprK, exprK] := by rcases hk with e | e | e <;> rw [e] <;> rfl
  show kidsB o.kind o.op [k1, k2] = true;rw [this];unfold rowL rowL rowL;rw [h1, h2]
  rfl
 ·unfold fitsD
  show (if o.kind = 34 then _ else _) = true;rw [if_neg (by rcases hk with e | e | e <;> rw [e] <;> decide), if_pos hk]
  show (if o.kind = 31 /\ (o.op : Int) = 11 then decide (bindD o.kind o.op < bindD k1 n1 /\ bindD o.kind o.op <= bindD k2 n2) else decide (bindD o.kind o.op <= bindD k1 n1 /\ bindD o.kind o.op < bindD k2 n2)) = true;rw [ho.bind];by_cases h11 : o.op = 11
  ·rw [if_pos ⟨ho.concat h11, by rw [h11]; rfl⟩, decide_eq_true_iff];rw [if_pos h11] at hb2;exact ⟨hb1.2 h11, by omega⟩
  ·rw [if_neg (fun h => h11 (by have := h.2; omega)), decide_eq_true_iff];rw [if_neg h11] at hb2;exact ⟨hb1.1, hb2⟩
theorem row_un {m : ByteArray} (hm : unOf m ≠ 0) {line : Int} (hl : 1 <= line) {k : Nat} {n : Int} (h : pB 11 k n) : rowD nm ⟨34, unOf m, ⟨#[]⟩, [], [], line⟩ [(k, n)] = true := by
 have hu := un_ok m;refine row_of hl (own_plain rfl nm_nil ?_) ?_ ?_
 ·show decide (18 <= (unOf m : Int) /\ (unOf m : Int) <= 21) = true;rw [decide_eq_true_iff]; omega
 ·show rowL [k] [exprK] = true;unfold rowL rowL;rw [h.1]; rfl
 ·unfold fitsD
  show decide (11 <= bindD k n) = true;rw [decide_eq_true_iff];have := h.2;omega
theorem fits_other {n : Nd} {ks : List (Nat × Int)} (h1 : n.k ≠ 34) (h2 : n.k ≠ 31) (h3 : n.k ≠ 32) (h4 : n.k ≠ 33) : fitsD n ks = true := by
 unfold fitsD;rw [if_neg h1, if_neg (by omega)]
theorem row_name {s : ByteArray} {line : Int} (hl : 1 <= line) (hs : nm s = true) : rowD nm ⟨27, 0, s, [], [], line⟩ [] = true :=
 row_of hl (by show (_ && (nm s && _)) = true; rw [hs]; rfl) rfl (fits_other (by show 27 ≠ 34; decide) (by show 27 ≠ 31; decide) (by show 27 ≠ 32; decide) (by show 27 ≠ 33; decide))
theorem row_str {s : ByteArray} {line : Int} (hl : 1 <= line) (hs : s.size <= 65535) : rowD nm ⟨24, 0, s, [], [], line⟩ [] = true :=
 row_of hl (by show (_ && (decide (s.size <= 65535) && _)) = true; rw [decide_eq_true hs]; rfl) rfl (fits_other (by show 24 ≠ 34; decide) (by show 24 ≠ 31; decide) (by show 24 ≠ 32; decide) (by show 24 ≠ 33; decide))
theorem row_int {n line : Int} (hl : 1 <= line) : rowD nm ⟨23, n, ⟨#[]⟩, [], [], line⟩ [] = true :=
 row_of hl (own_plain rfl nm_nil rfl) rfl (fits_other (by show 23 ≠ 34; decide) (by show 23 ≠ 31; decide) (by show 23 ≠ 32; decide) (by show 23 ≠ 33; decide))
theorem row_word {k : Nat} (hk : k = 20 \/ k = 21 \/ k = 22 \/ k = 25 \/ k = 13) {line : Int} (hl : 1 <= line) : rowD nm ⟨k, 0, ⟨#[]⟩, [], [], line⟩ [] = true := by
 rcases hk with rfl | rfl | rfl | rfl | rfl
 all_goals exact row_of hl (own_plain rfl nm_nil rfl) rfl (fits_other (by dsimp only; decide) (by dsimp only; decide) (by dsimp only; decide) (by dsimp only; decide))
theorem row_jump {k : Nat} (hk : k = 14 \/ k = 15) {s : ByteArray} {line : Int} (hl : 1 <= line) (hs : nm s = true) : rowD nm ⟨k, 0, s, [], [], line⟩ [] = true := by
 rcases hk with rfl | rfl
 all_goals exact row_of hl (by show (_ && (nm s && _)) = true; rw [hs]; rfl) rfl (fits_other (by dsimp only; decide) (by dsimp only; decide) (by dsimp only; decide) (by dsimp only; decide))
theorem row_kids {k : Nat} {line : Int} {ks : List (Nat × Int)} (hl : 1 <= line) (hc : cntB k = (0, 0)) (hn : nameB nm k ⟨#[]⟩ = true) (h0 : numB k 0 = true) (hk : kidsB k 0 (ks.map (·.1)) = true) (hf : k < 31 \/ 34 < k) : rowD nm ⟨k, 0, ⟨#[]⟩, [], [], line⟩ ks = true :=
 row_of hl (own_plain hc hn h0) hk (fits_other (by dsimp only; omega) (by dsimp only; omega) (by dsimp only; omega) (by dsimp only; omega))
theorem row_index {k1 k2 : Nat} {n1 n2 line : Int} (hl : 1 <= line) (h1 : prefP k1 = true) (h2 : exprK k2 = true) : rowD nm ⟨28, 0, ⟨#[]⟩, [], [], line⟩ [(k1, n1), (k2, n2)] = true :=
 row_kids hl rfl nm_nil rfl (by show rowL [k1, k2] [prefP, exprK] = true; unfold rowL rowL rowL; rw [h1, h2]; rfl) (by omega)
theorem row_call {k1 : Nat} {n1 line : Int} {ks : List (Nat × Int)} (hl : 1 <= line) (h1 : prefP k1 = true) (h2 : (ks.map (·.1)).all exprK = true) (h3 : ks.length <= 200) : rowD nm ⟨29, 0, ⟨#[]⟩, [], [], line⟩ ((k1, n1) :: ks) = true := by
 refine row_kids hl rfl nm_nil rfl ?_ (by omega)
 show (areB (k1 :: ks.map (·.1)) 0 1 prefP && listB (k1 :: ks.map (·.1)) 1 (k1 :: ks.map (·.1)).length 0) = true;have e1 := are_head (xs := [k1]) (ys := ks.map (·.1)) (p := prefP) (by simp [h1]);have e2 := list_tail (xs := [k1]) (ys := ks.map (·.1)) (least := 0) h2 (Nat.zero_le _) (by rw [List.length_map]; exact h3);have e1' : areB (k1 :: ks.map (·.1)) 0 1 prefP = true := e1;have e2' : listB (k1 :: ks.map (·.1)) 1 (k1 :: ks.map (·.1)).length 0 = true := e2;rw [e1', e2']
 rfl
theorem row_method {s : ByteArray} {k1 : Nat} {n1 line : Int} {ks : List (Nat × Int)} (hl : 1 <= line) (hs : nm s = true) (h1 : prefP k1 = true) (h2 : (ks.map (·.1)).all exprK = true) (h3 : ks.length <= 200) : rowD nm ⟨30, 0, s, [], [], line⟩ ((k1, n1) :: ks) = true := by
 refine row_of hl (by show (_ && (nm s && _)) = true; rw [hs]; rfl) ?_ (fits_other (by dsimp only; decide) (by dsimp only; decide) (by dsimp only; decide) (by dsimp only; decide))
 show (areB (k1 :: ks.map (·.1)) 0 1 prefP && listB (k1 :: ks.map (·.1)) 1 (k1 :: ks.map (·.1)).length 0) = true;have e1 := are_head (xs := [k1]) (ys := ks.map (·.1)) (p := prefP) (by simp [h1]);have e2 := list_tail (xs := [k1]) (ys := ks.map (·.1)) (least := 0) h2 (Nat.zero_le _) (by rw [List.length_map]; exact h3);have e1' : areB (k1 :: ks.map (·.1)) 0 1 prefP = true := e1;have e2' : listB (k1 :: ks.map (·.1)) 1 (k1 :: ks.map (·.1)).length 0 = true := e2;rw [e1', e2']
 rfl
theorem row_paren {k1 : Nat} {n1 line : Int} (hl : 1 <= line) (h1 : exprK k1 = true) : rowD nm ⟨38, 0, ⟨#[]⟩, [], [], line⟩ [(k1, n1)] = true :=
 row_kids hl rfl nm_nil rfl (by show rowL [k1] [exprK] = true; unfold rowL rowL; rw [h1]; rfl) (by omega)
theorem row_item {k1 : Nat} {n1 line : Int} (hl : 1 <= line) (h1 : exprK k1 = true) : rowD nm ⟨36, 0, ⟨#[]⟩, [], [], line⟩ [(k1, n1)] = true :=
 row_kids hl rfl nm_nil rfl (by show rowL [k1] [exprK] = true; unfold rowL rowL; rw [h1]; rfl) (by omega)
theorem row_named {k1 k2 : Nat} {n1 n2 line : Int} (hl : 1 <= line) (h1 : exprK k1 = true) (h2 : exprK k2 = true) : rowD nm ⟨37, 0, ⟨#[]⟩, [], [], line⟩ [(k1, n1), (k2, n2)] = true :=
 row_kids hl rfl nm_nil rfl (by show rowL [k1, k2] [exprK, exprK] = true; unfold rowL rowL rowL; rw [h1, h2]; rfl) (by omega)
theorem row_tab {ks : List (Nat × Int)} {line : Int} (hl : 1 <= line) (h : (ks.map (·.1)).all (Nd.isB [36, 37]) = true) : rowD nm ⟨35, 0, ⟨#[]⟩, [], [], line⟩ ks = true :=
 row_kids hl rfl nm_nil rfl (are_all h) (by omega)
theorem row_func {ns : List ByteArray} {n : Nat} {n1 line : Int} (hl : 1 <= line) (hn : n <= 1) (h2 : ns.length <= 200) (ha : ns.all nm = true) : rowD nm ⟨26, n, ⟨#[]⟩, ns, [], line⟩ [(1, n1)] = true :=
 row_of hl (own_names (Nat.zero_le _) h2 ha nm_nil (by show decide (0 <= (n : Int) /\ (n : Int) <= 1) = true; rw [decide_eq_true_iff]; omega)) rfl (fits_other (by dsimp only; decide) (by dsimp only; decide) (by dsimp only; decide) (by dsimp only; decide))
theorem row_block {ks : List (Nat × Int)} {line : Int} (hl : 1 <= line) (h : (ks.map (·.1)).all statK = true) (h12 : ((ks.map (·.1)).take ((ks.map (·.1)).length - 1)).all (fun k => k != 12) = true) : rowD nm ⟨1, 0, ⟨#[]⟩, [], [], line⟩ ks = true := by
 refine row_kids hl rfl nm_nil rfl ?_ (by omega)
 show (areB (ks.map (·.1)) 0 (ks.map (·.1)).length statK && !Nd.isB ((ks.map (·.1)).take ((ks.map (·.1)).length - 1)) 12) = true;rw [are_all h, Bool.true_and];cases hx : Nd.isB ((ks.map (·.1)).take ((ks.map (·.1)).length - 1)) 12 with
 | false => rfl
 | true =>
  have hm : 12 ∈ (ks.map (·.1)).take ((ks.map (·.1)).length - 1) := List.contains_iff_mem.1 hx;have := List.all_eq_true.1 h12 _ hm;simp at this
end
end Go.Proofs.YtnkejjlidgnkkaaGreatDoor.Ps
namespace Go.Proofs.YtnkejjlidgnkkaaGreatDoor.Ps

open Go.Lib renaming hid → qh
open Go.Proofs.YtnkejjlidgnkkaaGreatDoor.Nd
open Go.Proofs.YtnkejjlidgnkkaaGreatDoor.Lex (Tok tokensL)
section
variable {T : List Tok} {nm : ByteArray -> Bool}
def One (T : List Tok) (nm : ByteArray -> Bool) (S : List (Int × Nat)) (H : Nat) (s : St) (p : Nat -> Int -> Prop) (i : Int) (s' : St) : Prop :=
 ∃ h, h + 1 = H /\ J T nm s' (S ++ [(i, h)]) /\ Ext s.l s'.l /\ s.at' < s'.at' /\ Has s'.l i p
theorem One.mono {S : List (Int × Nat)} {H : Nat} {s : St} {p q : Nat -> Int -> Prop} {i : Int} {s' : St} (h : One T nm S H s p i s') (k : ∀ a b, p a b -> q a b) : One T nm S H s q i s' := by
 obtain ⟨x, h1, h2, h3, h4, h5⟩ := h;exact ⟨x, h1, h2, h3, h4, h5.mono k⟩
theorem One.from {S : List (Int × Nat)} {H : Nat} {s s0 : St} {p : Nat -> Int -> Prop} {i : Int} {s' : St} (h : One T nm S H s p i s') (e : Ext s0.l s.l) (l : s0.at' <= s.at') : One T nm S H s0 p i s' := by
 obtain ⟨x, h1, h2, h3, h4, h5⟩ := h;exact ⟨x, h1, h2, e.trans h3, by omega, h5⟩
def Many (T : List Tok) (nm : ByteArray -> Bool) (S : List (Int × Nat)) (H : Nat) (s : St) (p : Nat -> Int -> Prop) (ks : List Int) (s' : St) : Prop :=
 ∃ h, (ks ≠ [] -> h + 1 = H) /\ J T nm s' (S ++ ks.map fun i => (i, h)) /\ Ext s.l s'.l /\ s.at' <= s'.at' /\ ∀ i ∈ ks, Has s'.l i p
theorem J.assoc {s : St} {S K L : List (Int × Nat)} (h : J T nm s (S ++ K ++ L)) : J T nm s (S ++ (K ++ L)) := by rw [<- List.append_assoc]; exact h
theorem hts1 {i : Int} {a k h : Nat} (h0 : a + up k 0 <= h) : ∀ (p : Nat) (x : Int × Nat), [(i, a)][p]? = some x -> x.2 + up k p <= h
 | 0, _, hx => by cases hx; exact h0
 | _ + 1, _, hx => by cases hx
theorem hts2 {i j : Int} {a b k h : Nat} (h0 : a + up k 0 <= h) (h1 : b + up k 1 <= h) : ∀ (p : Nat) (x : Int × Nat), [(i, a), (j, b)][p]? = some x -> x.2 + up k p <= h
 | 0, _, hx => by cases hx; exact h0
 | 1, _, hx => by cases hx; exact h1
 | _ + 2, _, hx => by cases hx
theorem up1 (k p : Nat) : up k p <= 1 := by unfold up; split <;> omega
theorem hts {K : List (Int × Nat)} {k h : Nat} (h0 : ∀ x ∈ K, x.2 + 1 <= h) (p : Nat) (x : Int × Nat) (hx : K[p]? = some x) : x.2 + up k p <= h := by
 have := h0 x (List.mem_of_getElem? hx);have := up1 k p;omega
theorem hts0 {k h : Nat} (p : Nat) (x : Int × Nat) (hx : ([] : List (Int × Nat))[p]? = some x) : x.2 + up k p <= h := by cases hx
theorem sat_leaf (hT : TOk nm T) {s : St} {S : List (Int × Nat)} {nd : Nd} {H : Nat} (hJ : J T nm s S) (hk : nd.kids = []) (hr : rowD nm (bare nd) [] = true) {Q : Int -> St -> Prop}
  (h1 : ∀ i s', J T nm s' (S ++ [(i, H)]) -> s'.at' = s.at' -> Ext s.l s'.l -> Nd.inR s'.l i -> Nd.at' s'.l i = nd -> Q i s') : Sat (add T nd) s Q := by
 have hJ' : J T nm s (S ++ []) := by rw [List.append_nil]; exact hJ
 refine sat_add hT (K := []) (h := H) hJ' hk hts0 ?_ h1;unfold kinds;rw [hk];exact hr
structure DOk (T : List Tok) (nm : ByteArray -> Bool) (d : Fns) (H : Nat) : Prop where
 beg : ∀ s Q, s.at' < T.length -> (1 <= H -> Q () s) -> Sat d.beg s Q
 beg1 : ∀ s Q, s.at' < T.length -> (2 <= H -> Q () s) -> Sat d.beg1 s Q
 expr : ∀ b s S, J T nm s S -> Sat (d.expr b) s fun i s' => One T nm S H s (pB b) i s' /\ (operOf (markOf (tk T s'))).binds <= b
 operand : ∀ s S, J T nm s S -> startsE (tk T s) = true -> Sat d.operand s (One T nm S H s pO)
 exprs : ∀ s S, J T nm s S -> Sat d.exprs s fun ks s' => Many T nm S H s pE ks s' /\ 1 <= ks.length /\ ks.length <= 200 /\ s.at' < s'.at'
 block : ∀ s S, J T nm s S -> Sat d.block s fun i s' => ∃ h, h + 1 = H /\ J T nm s' (S ++ [(i, h)]) /\ Ext s.l s'.l /\ s.at' <= s'.at' /\ Has s'.l i fun k _ => k = 1
 pre : ∀ s S, J T nm s S -> ((tk T s).k = 1 \/ markOf (tk T s) = wOpen) -> Sat d.pre s (One T nm S H s pP)
 body : ∀ ns line s S, J T nm s S -> 1 <= line -> ns.length <= 200 -> ns.all nm = true -> Sat (d.body ns line) s (One T nm S H s fun k _ => k = 26)
theorem starts_kE {t : Tok} (h : startsE t = true) : t.k ≠ 6 := by
 intro e;have hm : markOf t = ⟨#[]⟩ := by unfold markOf; rw [if_neg (by omega)]
 unfold startsE at h;rw [hm, e, un_none] at h;have n1 : ∀ {m : ByteArray}, m.size ≠ 0 -> decide ((⟨#[]⟩ : ByteArray) = m) = false := fun hm => decide_eq_false fun h => hm (by rw [<- h]; rfl)
 rw [n1 (by decide), n1 (by decide), n1 (by decide), n1 (by decide), n1 (by decide), n1 (by decide), n1 (by decide)] at h
 revert h
 decide
theorem line_of {s : St} {S : List (Int × Nat)} {i : Int} (hJ : J T nm s S) (hi : Nd.inR s.l i) : 1 <= (Nd.at' s.l i).line := by
 have h := hJ.post.inv.rows i hi;unfold rowD at h;rw [Bool.and_eq_true, Bool.and_eq_true, Bool.and_eq_true] at h;exact of_decide_eq_true h.1.1.1
theorem int_line (hT : TOk nm T) {s : St} (h : s.at' < T.length) : (1 : Int) <= ((tk T s).line : Int) := by have := line_pos hT h; omega
theorem sat_variable (hT : TOk nm T) {s : St} {S : List (Int × Nat)} {H : Nat} (hJ : J T nm s S) : Sat (variableM T) s (One T nm S (H + 1) s fun k _ => k = 27) := by
 unfold variableM;refine Sat.bind (sat_line (Sat.bind (sat_nextName hT hJ.here fun n hn hk => ?_)));have hJ' := hJ.fwd hT (by omega);refine sat_leaf hT (nd := ⟨27, 0, n, [], [], (tk T s).line⟩) (H := H) hJ' rfl (row_name (int_line hT hJ.here) hn) fun i s' j1 j2 j3 j4 j5 => ⟨H, rfl, j1, j3, ?_, j4, by rw [j5]⟩
 rw [j2]; exact Nat.lt_succ_self _
theorem sat_index (hT : TOk nm T) {s : St} {S : List (Int × Nat)} {H h : Nat} {left key : Int} (hJ : J T nm s (S ++ [(left, H), (key, h)])) (h1 : h + 1 <= H) (h2 : Has s.l left pP) (h3 : Has s.l key pE) :
  Sat (indexM T left key) s fun i s' => J T nm s' (S ++ [(i, H)]) /\ Ext s.l s'.l /\ s'.at' = s.at' /\ Has s'.l i fun k _ => k = 28 := by
 unfold indexM;refine Sat.bind (sat_lineAt ?_);refine sat_add hT (K := [(left, H), (key, h)]) (h := H) hJ rfl (hts2 (Nat.le_refl _) h1) (row_index (line_of hJ h2.1) h2.2 h3.2) fun i s' j1 j2 j3 j4 j5 => ⟨j1, j3, j2, j4, by rw [j5]⟩
theorem sat_key (hT : TOk nm T) {s : St} {S : List (Int × Nat)} {H X : Nat} {beg : M Unit} (hbeg : ∀ s Q, s.at' < T.length -> (X <= H -> Q () s) -> Sat beg s Q) (hJ : J T nm s S) (h : Nat) :
  Sat (keyM T beg) s fun i s' => X <= H /\ J T nm s' (S ++ [(i, h)]) /\ Ext s.l s'.l /\ s.at' < s'.at' /\ Has s'.l i pE := by
 unfold keyM;refine Sat.bind (hbeg s _ hJ.here fun hX => Sat.bind (sat_line (Sat.bind (sat_peek hT hJ.here fun hk => Sat.bind (sat_next ?_)))));have hJ' := hJ.fwd hT (by omega);refine sat_leaf hT (nd := ⟨24, 0, (tk T s).s, [], [], (tk T s).line⟩) (H := h) hJ' rfl (row_str (int_line hT hJ.here) (hT.str _ hJ.here)) fun i s' j1 j2 j3 j4 j5 => ⟨hX, j1, j3, ?_, j4, by rw [j5]; rfl⟩
 rw [j2]; exact Nat.lt_succ_self _
theorem sat_field (hT : TOk nm T) {s : St} {S : List (Int × Nat)} {H X Y : Nat} {beg : M Unit} (hbeg : ∀ s Q, s.at' < T.length -> (X <= Y -> Q () s) -> Sat beg s Q) (hXY : X <= Y -> 1 <= H) {left : Int} (hJ : J T nm s (S ++ [(left, H)])) (h2 : Has s.l left pP) :
  Sat (fieldM T beg left) s (One T nm S (H + 1) s fun k _ => k = 28) := by
 unfold fieldM;refine Sat.bind ((sat_key hT hbeg hJ (H - 1)).mono fun i s' ⟨hX, j1, j2, j3, j4⟩ => ?_);have := hXY hX;refine (sat_index hT j1.assoc (by omega) (h2.ext j2) j4).mono fun i' s2 ⟨k1, k2, k3, k4⟩ => ⟨H, rfl, k1, j2.trans k2, by omega, k4⟩
section
variable {d : Fns} {H : Nat}
theorem sat_args (hT : TOk nm T) (hd : DOk T nm d H) {s : St} {S : List (Int × Nat)} (hJ : J T nm s S) : Sat (argsM T d) s fun ks s' => Many T nm S H s pE ks s' /\ ks.length <= 200 /\ s.at' < s'.at' := by
 unfold argsM;refine Sat.bind (sat_tok ?_);by_cases hs : startsArgs (tk T s) = true
 ·rw [if_pos hs];refine Sat.bind (sat_accept (fun hm => ?_) (fun hm => ?_))
  ·have hJ' := hJ.fwd hT (mark_no hm (by decide))
   show Sat ((do if (<- markM T) = wShut then Pure.pure [] else d.exprs) >>= fun ks => expect T wShut >>= fun _ => Pure.pure ks) (fwd s) _;refine Sat.bind (Sat.bind (sat_mark ?_));by_cases hc : markOf (tk T (fwd s)) = wShut
   ·rw [if_pos hc];refine Sat.pure (Sat.bind (sat_expect hT hJ'.here fun hm2 => Sat.pure ?_));have hJ2 := hJ'.fwd hT (mark_no hm2 (by decide));exact ⟨⟨0, fun h => absurd rfl h, by simpa using hJ2, Ext.refl _, by show s.at' <= s.at' + 1 + 1; omega, fun i h => by cases h⟩, by decide, by show s.at' < s.at' + 1 + 1; omega⟩
   ·rw [if_neg hc];refine (hd.exprs _ S hJ').mono fun ks s' ⟨⟨h, a1, a2, a3, a4, a5⟩, b1, b2, b3⟩ => Sat.bind (sat_expect hT a2.here fun hm2 => Sat.pure ?_)
    have hJ2 := a2.fwd hT (mark_no hm2 (by decide));have : s.at' + 1 < s'.at' := b3;exact ⟨⟨h, a1, hJ2, a3, by show s.at' <= s'.at' + 1; omega, a5⟩, b2, by show s.at' < s'.at' + 1; omega⟩
  ·show Sat (d.beg >>= fun _ => d.operand >>= fun i => Pure.pure [i]) s _;refine Sat.bind (hd.beg s _ hJ.here fun h1 => Sat.bind ((hd.operand s S hJ ?_).mono fun i s' ⟨h, a1, a2, a3, a4, a5⟩ => Sat.pure ⟨⟨h, fun _ => a1, a2, a3, by omega, fun j hj => ?_⟩, by show 1 <= 200; decide, a4⟩))
   ·unfold startsArgs at hs;unfold startsE;simp only [Bool.or_eq_true, decide_eq_true_iff] at hs ⊢;rcases hs with (h | h) | h
    ·exact absurd h hm
    ·simp [h]
    ·simp [h]
   ·rw [List.mem_singleton.1 hj];exact a5.mono fun _ _ h => h.1
 ·rw [if_neg hs];exact sat_fail hT hJ.here (.inr rfl)
theorem kinds_all {l : List Nd} {ks : List Int} {p : Nat -> Bool} (h : ∀ i ∈ ks, Has l i fun k _ => p k = true) : ((ks.map fun c => ((Nd.at' l c).k, (Nd.at' l c).n)).map (·.1)).all p = true := by
 rw [List.all_eq_true];intro x hx;rw [List.map_map] at hx;obtain ⟨i, hi, rfl⟩ := List.mem_map.1 hx;exact (h i hi).2
theorem hts_call {left : Int} {ks : List Int} {h k : Nat} (h0 : up k 0 = 0) (h1 : ks ≠ [] -> h + 1 = H) : ∀ (p : Nat) (x : Int × Nat), ((left, H) :: ks.map fun i => (i, h))[p]? = some x -> x.2 + up k p <= H
 | 0, x, hx => by cases hx; show H + up k 0 <= H; omega
 | p + 1, x, hx => by
  have hm := List.mem_of_getElem? (show (ks.map fun i => (i, h))[p]? = some x from hx);obtain ⟨i, hi, rfl⟩ := List.mem_map.1 hm;have := h1 (fun e => by rw [e] at hi; cases hi);have := up1 k (p + 1)
  show h + up k (p + 1) <= H;omega
theorem sat_call (hT : TOk nm T) (hd : DOk T nm d H) {s : St} {S : List (Int × Nat)} {left : Int} {k : Nat} {name : ByteArray} (hk : k = 29 /\ name = ⟨#[]⟩ \/ k = 30 /\ nm name = true) (hJ : J T nm s (S ++ [(left, H)])) (h2 : Has s.l left pP) :
  Sat (callM T d k name left) s (One T nm S (H + 1) s fun k' _ => k' = k) := by
 unfold callM;refine Sat.bind (sat_lineAt (Sat.bind ((sat_args hT hd hJ).mono fun ks s' ⟨⟨h, a1, a2, a3, a4, a5⟩, b1, b2⟩ => ?_)));have hl := line_of hJ h2.1;have hp := (h2.ext a3).2;have hks := kinds_all (p := exprK) a5;refine sat_add hT (K := (left, H) :: ks.map fun i => (i, h)) (h := H) (by have := a2.assoc; simpa using this) (by show left :: ks = left :: (ks.map fun i => (i, h)).map (·.1); rw [List.map_map]; simp [Function.comp_def]) (hts_call (by rcases hk with ⟨rfl, _⟩ | ⟨rfl, _⟩ <;> rfl) a1) ?_ fun i s2 j1 j2 j3 j4 j5 => ⟨H, rfl, j1, a3.trans j3, by omega, j4, by rw [j5]⟩
 rcases hk with ⟨rfl, rfl⟩ | ⟨rfl, hn⟩
 ·exact row_call hl hp hks (by rw [List.length_map]; exact b1)
 ·exact row_method hl hn hp hks (by rw [List.length_map]; exact b1)
theorem sat_firstPre (hT : TOk nm T) (hd : DOk T nm d H) {s : St} {S : List (Int × Nat)} (hJ : J T nm s S) : Sat (firstPre T d) s (One T nm S (H + 1) s pP) := by
 unfold firstPre;refine Sat.bind (sat_line (Sat.bind (sat_accept (fun hm => ?_) (fun hm => ?_))))
 ·have hJ' := hJ.fwd hT (mark_no hm (by decide))
  show Sat (d.expr 0 >>= fun kid => expect T wShut >>= fun _ => add T _) (fwd s) _;refine Sat.bind ((hd.expr 0 _ S hJ').mono fun i s' ⟨⟨h, a1, a2, a3, a4, a5⟩, _⟩ => Sat.bind (sat_expect hT a2.here fun hm2 => ?_));have hJ2 := a2.fwd hT (mark_no hm2 (by decide));have : s.at' + 1 < s'.at' := a4;refine sat_add hT (K := [(i, h)]) (h := H) hJ2 rfl (hts1 (show h + up 38 0 <= H from by have := up1 38 0; omega)) (row_paren (int_line hT hJ.here) a5.2.1) fun i2 s2 j1 j2 j3 j4 j5 => ⟨H, rfl, j1, a3.trans j3, ?_, j4, by rw [j5]; rfl⟩
  rw [j2]; show s.at' < s'.at' + 1; omega
 ·exact (sat_variable hT (H := H) hJ).mono fun i s' h => h.mono fun k _ e => by subst e; rfl
theorem sat_preGo (hT : TOk nm T) (hd : DOk T nm d H) : ∀ (f : Nat) (s s0 : St) (S : List (Int × Nat)) (left : Int), J T nm s (S ++ [(left, H)]) -> Has s.l left pP -> Ext s0.l s.l -> s0.at' < s.at' -> T.length < f + s.at' -> Sat (preGo T d f left) s (One T nm S (H + 1) s0 pP)
 | 0, s, s0, S, left, hJ, h2, he, hlt, hf => by have := hJ.here; omega
 | f + 1, s, s0, S, left, hJ, h2, he, hlt, hf => by
  unfold preGo;refine Sat.bind (sat_tok ?_);have again : ∀ {k0 : Nat} (i : Int) (s' : St), prefP k0 = true -> One T nm S (H + 1) s (fun k _ => k = k0) i s' -> Sat (preGo T d f i) s' (One T nm S (H + 1) s0 pP) := by
   rintro k0 i s' hk0 ⟨h, a1, a2, a3, a4, a5⟩;have e : h = H := by omega
   rw [e] at a2;exact sat_preGo hT hd f s' s0 S i a2 (a5.mono fun k _ e => by subst e; exact hk0) (he.trans a3) (by omega) (by omega)
  by_cases h1 : markOf (tk T s) = wOpenB
  ·rw [if_pos h1];have hJ' := hJ.fwd hT (mark_no h1 (by decide));refine Sat.bind (sat_next (Sat.bind ((hd.expr 0 _ _ hJ').mono fun key s' ⟨⟨h, a1, a2, a3, a4, a5⟩, _⟩ => Sat.bind (sat_expect hT a2.here fun hm2 => ?_))));have hJ2 := a2.fwd hT (mark_no hm2 (by decide));have : s.at' + 1 < s'.at' := a4;refine Sat.bind ((sat_index hT hJ2.assoc (by omega) (h2.ext a3) (a5.mono fun _ _ e => e.1)).mono fun i s2 ⟨k1, k2, k3, k4⟩ => again i s2 (k0 := 28) rfl ⟨H, rfl, k1, Ext.trans a3 k2, ?_, k4⟩);rw [k3]; show s.at' < s'.at' + 1; omega
  ·rw [if_neg h1];by_cases h3 : markOf (tk T s) = wDot
   ·rw [if_pos h3];have hJ' := hJ.fwd hT (mark_no h3 (by decide));refine Sat.bind (sat_next (Sat.bind ((sat_field hT hd.beg (fun h => h) hJ' h2).mono fun i s' h => again i s' (k0 := 28) rfl (h.from (Ext.refl _) (Nat.le_succ _)))))
   ·rw [if_neg h3];by_cases h4 : markOf (tk T s) = wColon
    ·rw [if_pos h4];have hJ' := hJ.fwd hT (mark_no h4 (by decide));refine Sat.bind (sat_next (Sat.bind (sat_nextName hT hJ'.here fun n hn hk => ?_)));have hJ2 := hJ'.fwd hT (by omega);refine Sat.bind ((sat_call hT hd (.inr ⟨rfl, hn⟩) hJ2 h2).mono fun i s' h => again i s' (k0 := 30) rfl (h.from (Ext.refl _) (by show s.at' <= s.at' + 1 + 1; omega)))
    ·rw [if_neg h4];by_cases h5 : startsArgs (tk T s) = true
     ·rw [if_pos h5];exact Sat.bind ((sat_call hT hd (.inl ⟨rfl, rfl⟩) hJ h2).mono fun i s' h => again i s' (k0 := 29) rfl h)
     ·rw [if_neg h5];exact Sat.pure ⟨H, rfl, hJ, he, hlt, h2⟩
theorem sat_pre (hT : TOk nm T) (hd : DOk T nm d H) {s : St} {S : List (Int × Nat)} (hJ : J T nm s S) : Sat (preM T d) s (One T nm S (H + 1) s pP) := by
 unfold preM;refine Sat.bind ((sat_firstPre hT hd hJ).mono fun i s' ⟨h, a1, a2, a3, a4, a5⟩ => ?_);have e : h = H := by omega
 rw [e] at a2;exact sat_preGo hT hd _ s' s S i a2 a5 a3 a4 (by omega)
end
end
end Go.Proofs.YtnkejjlidgnkkaaGreatDoor.Ps
