/-
  A part of the proof.
-/
import Derived.Deep.DeepCutAuto
import Derived.Deep.CutBlock
import Derived.Deep.LoopGhost
import Derived.Lib.IndexMore
import Derived.Lib.IndexAny
import Derived.Laws.Rows
import Derived.Test.YtnkejjlidgnkkaaGreatDoorRows
import Derived.Shelf.Strings.BuilderK
import Derived.WalkKit
import Derived.BigCall
import Derived.Lib.Hide
import Derived.Test.YtnkejjlidgnkkaaGreatDoorClRA
import Derived.Test.YtnkejjlidgnkkaaGreatDoorClRB
import Derived.Test.YtnkejjlidgnkkaaGreatDoorClRW
set_option maxRecDepth 100000
set_option maxHeartbeats 40000000
namespace Go.Proofs.YtnkejjlidgnkkaaGreatDoor.Lex

open Go.Lib renaming hid → qh
open Go.RowKit
theorem span_any (s : ByteArray) (f : Nat) (caps : Array Value) (n : Nat) (R : Nat -> World -> Prop) (R' : World -> Prop) (w : World) (hs : s.size <= 1000000000) (hn : n <= s.size)
  (he : ∀ args w, (callFunc f args).run Tryz.prog w = .ok (.enter f args) w)
  (hyes : ∀ i w, i < n -> R i w -> Calls Tryz.prog f (#[.int .u8 (byteAt s i)] ++ caps) w fun e w' => e = .returned (.bool true) /\ R (i + 1) w')
  (hno : n < s.size -> ∀ w, R n w -> Calls Tryz.prog f (#[.int .u8 (byteAt s n)] ++ caps) w fun e w' => e = .returned (.bool false) /\ R' w')
  (hend : n = s.size -> ∀ w, R n w -> R' w) (h0 : R 0 w) :
  Calls Tryz.prog 43 #[.string s, .func (.func f) #[] caps] w fun e w' => e = .returned (.int .i64 (n : Nat)) /\ R' w' := by
 have HY := qh hyes;have HN := qh hno;have HE := qh hend;have H0 := qh h0;clear hyes hno hend h0;go_enter Tryz.func43, Tryz.ntmps43;go_wp2_with fail;go_loopg [5] n (fun r x wr => ∃ k : Nat, r = n - k /\ k <= n /\ x = .int .i64 (k : Int) /\ R k wr)
 case atStart => exact ⟨0, rfl, by omega, rfl, H0.out⟩
 case round =>
  obtain ⟨k, rfl, hk, rfl, hR⟩ := hrel;have HR := qh hR;clear hR;by_cases hlt : k < s.size
  ·have hx := run_index_at (P := Tryz.prog) 9 s (k : Int) k Tryz.underlying9 hlt rfl;by_cases hkn : k < n
   ·have c := HY.out k wr hkn HR.out;generalize byteAt s k = b at *;go_wp2_with fail;refine c.mono ?_;rintro e w1 ⟨rfl, hR⟩;have HR1 := qh hR;clear hR;go_wp2_with fail;go_roundg (n - (k + 1))
    case rel => exact ⟨k + 1, by omega, by omega, by go_num, HR1.out⟩
    case measure => omega
   ·obtain rfl : k = n := by omega
    have c := HN.out hlt wr HR.out;generalize byteAt s k = b at *;go_wp2_with fail;refine c.mono ?_;rintro e w1 ⟨rfl, hR⟩;have HR1 := qh hR;clear hR;go_wp2_with fail;go_ret;exact ⟨rfl, HR1.out⟩
  ·obtain rfl : k = n := by omega
   have hR1 := HE.out (by omega) wr HR.out;have HR1 := qh hR1;clear hR1;go_wp2_with fail;go_ret;exact ⟨rfl, HR1.out⟩
end Go.Proofs.YtnkejjlidgnkkaaGreatDoor.Lex
namespace Go.Proofs.YtnkejjlidgnkkaaGreatDoor.Lex

open Go.Lib renaming hid → qh
open Go.RowKit
def plainF : Nat -> List UInt8 -> List UInt8
 | _, [] => []
 | p, c :: r => if lfB c.toNat = true then (if p + c.toNat = 23 then plainF 0 r else 10 :: plainF c.toNat r) else c :: plainF 0 r
def plainL (l : List UInt8) : List UInt8 := plainF 0 l
theorem plain_lines : ∀ (l : List UInt8) (p : Nat), Lib.countByte (plainF p l) 10 = linesF p l
 | [], p => rfl
 | c :: r, p => by
  rw [plainF, linesF]
  split
  ·split
   ·exact plain_lines r 0
   ·show List.count 10 (10 :: _) = _;rw [List.count_cons_self];exact congrArg (· + 1) (plain_lines r _)
  ·rename_i h
   show List.count 10 (c :: _) = _;rw [List.count_cons_of_ne (fun e => h (by rw [e]; rfl))];exact plain_lines r 0
theorem index_cons (c : UInt8) (r sub : List UInt8) : Lib.index (c :: r) sub = if sub.isPrefixOf (c :: r) = true then 0 else if Lib.index r sub = -1 then -1 else Lib.index r sub + 1 := by
 rw [Lib.index];by_cases h : sub.isPrefixOf (c :: r) = true
 ·rw [if_pos h, if_pos h]
 ·rw [if_neg h, if_neg h];by_cases h' : Lib.index r sub = -1
  ·rw [if_pos h', if_pos (by rw [h']; rfl)]
  ·rw [if_neg h', if_neg (by simpa using h')]
theorem index_ge (r sub : List UInt8) : Lib.index r sub = -1 \/ ∃ i : Nat, Lib.index r sub = i := by
 rcases Lib.index_spec r sub with ⟨h, _⟩ | ⟨i, h, _⟩
 ·exact .inl h
 ·exact .inr ⟨i, h⟩
def trimT (first : Bool) (t : List UInt8) : List UInt8 := if first = true then Lib.trimPrefix t [10] else t
theorem trim_other {c : UInt8} (first : Bool) (r : List UInt8) (h : lfB c.toNat = false) : trimT first (c :: r) = c :: r := by
 unfold trimT
 split
 ·unfold Lib.trimPrefix;rw [if_neg];intro g;have : (10 : UInt8) = c := by
   simp only [Lib.hasPrefix, List.isPrefixOf_cons_cons, Bool.and_eq_true, beq_iff_eq] at g;exact g.1
  rw [<- this] at h; exact absurd h (by decide)
 ·rfl
theorem body_index {cl : List UInt8} (hcl : cl ≠ []) : ∀ (l : List UInt8) (first : Bool) (p : Nat), (first = true -> p = 0) ->
  (Lib.index l cl = -1 -> bodyL cl first p l = none) /\ (∀ i : Nat, Lib.index l cl = i -> bodyL cl first p l = some (trimT first (plainF p (l.take i)), i + cl.length))
 | [], first, p, hp => by
  have : Lib.index [] cl = -1 := by
   cases cl with
   | nil => exact absurd rfl hcl
   | cons a t => rfl
  exact ⟨fun _ => rfl, fun i hi => by omega⟩
 | c :: r, first, p, hp => by
  rw [index_cons, body_cons];by_cases h : cl.isPrefixOf (c :: r) = true
  ·rw [if_pos h, if_pos h];refine ⟨fun g => absurd g (by decide), fun i hi => ?_⟩;have : i = 0 := by omega
   subst this;rw [List.take_zero, Nat.zero_add]
   congr 2
   cases first <;> rfl
  ·rw [if_neg h, if_neg h];have K : ∀ (f : Bool) (q : Nat) (u : List UInt8 × Nat -> List UInt8 × Nat) (o : Nat -> List UInt8), (f = true -> q = 0) ->
     (∀ i : Nat, u (trimT f (plainF q (r.take i)), i + cl.length) = (o i, i + 1 + cl.length)) ->
     ((if Lib.index r cl = -1 then (-1 : Int) else Lib.index r cl + 1) = -1 -> (bodyL cl f q r).map u = none) /\
     (∀ i : Nat, (if Lib.index r cl = -1 then (-1 : Int) else Lib.index r cl + 1) = i -> ∃ j, i = j + 1 /\ (bodyL cl f q r).map u = some (o j, i + cl.length)) := by
    intro f q u o hf hu;obtain ⟨h1, h2⟩ := body_index hcl r f q hf;rcases index_ge r cl with e | ⟨j, e⟩
    ·rw [if_pos e];exact ⟨fun _ => by rw [h1 e]; rfl, fun i hi => by omega⟩
    ·rw [if_neg (by omega), e];refine ⟨fun g => by omega, fun i hi => ⟨j, by omega, ?_⟩⟩;rw [h2 j e, Option.map_some, hu];have : i = j + 1 := by omega
     rw [this]
   by_cases hc : lfB c.toNat = true
   ·rw [if_pos hc];by_cases hq : p + c.toNat = 23
    ·rw [if_pos hq];have hf : first = false := by
      cases first
      ·rfl
      ·have h0 := hp rfl;have := lf_is.1 hc;omega
     subst hf;obtain ⟨h1, h2⟩ := K false 0 (fun x => (x.1, x.2 + 1)) (fun i => plainF 0 (r.take i)) (fun g => by cases g) (fun i => by simp only [trimT]; congr 1; omega);refine ⟨h1, fun i hi => ?_⟩;obtain ⟨j, rfl, h3⟩ := h2 i hi;rw [h3, List.take_succ_cons];unfold trimT;rw [plainF, if_pos hc, if_pos hq]
     rfl
    ·rw [if_neg hq];obtain ⟨h1, h2⟩ := K false c.toNat (fun x => (if first = true then x.1 else 10 :: x.1, x.2 + 1)) (fun i => if first = true then plainF c.toNat (r.take i) else 10 :: plainF c.toNat (r.take i)) (fun g => by cases g) (fun i => by simp only [trimT, Bool.false_eq_true, if_false]; congr 1; omega);refine ⟨h1, fun i hi => ?_⟩;obtain ⟨j, rfl, h3⟩ := h2 i hi;rw [h3, List.take_succ_cons, plainF, if_pos hc, if_neg hq];cases first <;> rfl
   ·rw [if_neg hc];have hc' : lfB c.toNat = false := by simpa using hc
    obtain ⟨h1, h2⟩ := K false 0 (fun x => (c :: x.1, x.2 + 1)) (fun i => c :: plainF 0 (r.take i)) (fun g => by cases g) (fun i => by simp only [trimT, Bool.false_eq_true, if_false]; congr 1; omega);refine ⟨h1, fun i hi => ?_⟩;obtain ⟨j, rfl, h3⟩ := h2 i hi;rw [h3, List.take_succ_cons, plainF, if_neg hc, trim_other _ _ hc']
def brkB (l : List UInt8) : Bool := decide (hd l = 91) && decide (hd (l.drop (eqsL (l.drop 1) + 1)) = 91)
theorem long_brk (l : List UInt8) : longL l = if brkB l = true then some ((bodyL (closeL (eqsL (l.drop 1))) true 0 (l.drop (eqsL (l.drop 1) + 2))).map fun x => (x.1, x.2 + (eqsL (l.drop 1) + 2))) else none := by
 cases l with
 | nil => rfl
 | cons c r =>
  unfold brkB;rw [longL, List.drop_one, List.tail_cons, List.drop_succ_cons, List.drop_succ_cons];by_cases h : c.toNat = 91 /\ hd (r.drop (eqsL r)) = 91
  ·rw [if_pos h, if_pos (by rw [show hd (c :: r) = c.toNat from rfl, h.1, h.2]; rfl)]
  ·rw [if_neg h, if_neg (by rw [show hd (c :: r) = c.toNat from rfl]; simpa using h)]
def scanQ (q : Nat) : Bool -> List UInt8 -> Nat
 | _, [] => 0
 | esc, c :: r => if (esc || decide (c.toNat ≠ q)) = true then scanQ q (!esc && decide (c.toNat = 92)) r + 1 else 0
theorem scan_le (q : Nat) : ∀ (l : List UInt8) (e : Bool), scanQ q e l <= l.length
 | [], e => Nat.le_refl 0
 | c :: r, e => by
  rw [scanQ]
  split
  ·have := scan_le q r (!e && decide (c.toNat = 92)); simp only [List.length_cons]; omega
  ·exact Nat.zero_le _
theorem scan_quote {q : Nat} (hq : q = 34 \/ q = 39) : ∀ (l : List UInt8) (st m : Nat), quoteK q st l = some m -> scanQ q (decide (st = 92)) l + 1 = m
 | [], st, m, h => by cases h
 | c :: r, st, m, h => by
  have K : ∀ (st' m' : Nat) (X : Option Nat), X = quoteK q st' r -> X.map (· + 1) = some m' -> scanQ q (decide (st' = 92)) r + 1 + 1 = m' := by
   intro st' m' X hX hm;subst hX;cases h' : quoteK q st' r with
   | none => rw [h'] at hm; cases hm
   | some k =>
    rw [h', Option.map_some] at hm
    injection hm with hm
    rw [scan_quote hq r st' k h', hm]
  rw [quote_cons] at h;rw [scanQ];by_cases h1 : st = 92
  ·rw [if_pos h1] at h;rw [decide_eq_true h1, if_pos (by rfl)];simp only [Bool.not_true, Bool.false_and]
   split at h
   ·rename_i hl;have := lf_is.1 hl;have hK := K c.toNat m _ rfl h;rw [decide_eq_false (by omega)] at hK;exact hK
   ·split at h
    ·have hK := K 122 m _ rfl h;exact hK
    ·have hK := K 0 m _ rfl h;exact hK
  ·rw [if_neg h1] at h;rw [decide_eq_false h1];simp only [Bool.not_false, Bool.true_and, Bool.false_or]
   split at h
   ·rename_i hl;have h2 := lf_is.1 hl.1;rw [if_pos (decide_eq_true (by omega)), decide_eq_false (show ¬ c.toNat = 92 by omega)];exact K 0 m _ rfl h
   ·split at h
    ·rename_i hz;have h2 : 9 <= c.toNat /\ c.toNat <= 13 \/ c.toNat = 32 := by have := hz.2; unfold spaceB at this; simpa using this
     rw [if_pos (decide_eq_true (by omega)), decide_eq_false (show ¬ c.toNat = 92 by omega)];exact K 122 m _ rfl h
    ·split at h
     ·rename_i he;rw [if_neg (by simpa using he)]
      injection h
     ·rename_i he;rw [if_pos (decide_eq_true he)]
      split at h
      ·cases h
      ·split at h
       ·rename_i h92;rw [decide_eq_true h92];exact K 92 m _ rfl h
       ·rename_i h92;rw [decide_eq_false h92];exact K 0 m _ rfl h
theorem quote_take (q : Nat) : ∀ (l : List UInt8) (st n m : Nat), quoteK q st (l.take n) = some m -> quoteK q st l = some m
 | [], st, n, m, h => by rw [List.take_nil] at h; exact h
 | c :: r, st, 0, m, h => by cases h
 | c :: r, st, n + 1, m, h => by
  have K : ∀ (st' m' : Nat), (quoteK q st' (r.take n)).map (· + 1) = some m' -> (quoteK q st' r).map (· + 1) = some m' := by
   intro st' m' hm;cases h' : quoteK q st' (r.take n) with
   | none => rw [h'] at hm; cases hm
   | some k => rw [quote_take q r st' n k h', <- hm, h']
  rw [List.take_succ_cons, quote_cons] at h;rw [quote_cons];by_cases h1 : st = 92
  ·rw [if_pos h1] at h ⊢;by_cases h2 : lfB c.toNat = true
   ·rw [if_pos h2] at h ⊢; exact K _ _ h
   ·rw [if_neg h2] at h ⊢;by_cases h3 : c.toNat = 122
    ·rw [if_pos h3] at h ⊢; exact K _ _ h
    ·rw [if_neg h3] at h ⊢; exact K _ _ h
  ·rw [if_neg h1] at h ⊢;by_cases h2 : lfB st = true /\ st + c.toNat = 23
   ·rw [if_pos h2] at h ⊢; exact K _ _ h
   ·rw [if_neg h2] at h ⊢;by_cases h3 : st = 122 /\ spaceB c.toNat = true
    ·rw [if_pos h3] at h ⊢; exact K _ _ h
    ·rw [if_neg h3] at h ⊢;by_cases h4 : c.toNat = q
     ·rw [if_pos h4] at h ⊢; exact h
     ·rw [if_neg h4] at h ⊢;by_cases h5 : lfB c.toNat = true
      ·rw [if_pos h5] at h; cases h
      ·rw [if_neg h5] at h ⊢;by_cases h6 : c.toNat = 92
       ·rw [if_pos h6] at h ⊢; exact K _ _ h
       ·rw [if_neg h6] at h ⊢; exact K _ _ h
def pB (b : Nat) : Prop := b ≠ 34 /\ b ≠ 39 /\ b ≠ 10 /\ b ≠ 13 /\ b ≠ 92
theorem quote_pB {q : Nat} (hq : q = 34 \/ q = 39) {c : UInt8} {r : List UInt8} (h : pB c.toNat) : quoteK q 0 (c :: r) = (quoteK q 0 r).map (· + 1) := by
 obtain ⟨h1, h2, h3, h4, h5⟩ := h;rw [quote_zero, if_neg (by omega), if_neg (fun g => by have := lf_is.1 g; omega), if_neg h5]
theorem hexD_pB {b d : Nat} (h : hexD b = some d) : pB b := by
 unfold hexD at h
 split at h
 ·unfold pB; omega
 ·split at h
  ·unfold pB; omega
  ·split at h
   ·unfold pB; omega
   ·cases h
theorem quote_run {q : Nat} (hq : q = 34 \/ q = 39) (base : Nat) : ∀ (m : Nat) (l : List UInt8) (a : Nat), quoteK q 0 l = (quoteK q 0 (l.drop (runN base m l a).2)).map (· + (runN base m l a).2)
 | 0, l, a => by simp [runN]
 | m + 1, [], a => by simp [runN]
 | m + 1, c :: r, a => by
  rw [runN];cases h : hexD c.toNat with
  | none => simp
  | some d =>
   simp only []
   split
   ·rw [quote_pB hq (hexD_pB h), quote_run hq base m r (a * base + d), List.drop_succ_cons, Option.map_map]
    congr 1
   ·simp
theorem map_add {X Y : Option Nat} {a b : Nat} (h : X = (Y.map (· + b)).map (· + a)) {c : Nat} (hc : c = b + a) : X = Y.map (· + c) := by
 rw [h, Option.map_map, hc]
 congr 1
 funext x
 simp only [Function.comp_apply]; omega
theorem quote_esc {q : Nat} (hq : q = 34 \/ q = 39) {c : UInt8} (hc : c.toNat = 92) {r t : List UInt8} {k : Nat} (h : escL r = some (t, k)) : quoteK q 0 (c :: r) = (quoteK q 0 ((c :: r).drop k)).map (· + k) := by
 have h0 : quoteK q 0 (c :: r) = (quoteK q 92 r).map (· + 1) := by
  rw [quote_zero, if_neg (by omega), if_neg (fun g => by have := lf_is.1 g; omega), if_pos hc]
 rw [h0];clear h0;cases r with
 | nil => cases h
 | cons b u =>
  rw [escL] at h
  split at h
  ·rename_i hb
   injection h with h
   injection h with h1 h2
   have hl : lfB b.toNat = true := lf_is.2 hb;cases hs : startsWith (23 - b.toNat) u
   ·rw [hs] at h2;subst h2;rw [quote_back_one (by rw [endK, if_pos hl, hs]; rfl)];exact map_add rfl rfl
   ·rw [hs] at h2;subst h2;rw [quote_back_two (by rw [endK, if_pos hl, hs]; rfl)];exact map_add rfl rfl
  ·rename_i hb;have hE : endK (b :: u) = 0 := by rw [endK, if_neg (fun g => hb (lf_is.1 g))]
   split at h
   ·rename_i v hv
    injection h with h
    injection h with h1 h2
    subst h2;rw [quote_back hE (fun g => by rw [show b.toNat = 122 from g, show letterN 122 = none from rfl] at hv; cases hv)];exact map_add rfl rfl
   ·split at h
    ·rename_i hx
     split at h
     ·rename_i h2
      injection h with h
      injection h with h3 h4
      subst h4;rw [quote_back hE (fun g => by have g' : b.toNat = 122 := g; omega), List.drop_one, List.tail_cons, quote_run hq 16 2 u 0, h2];exact map_add (map_add rfl rfl) rfl
     ·cases h
    ·split at h
     ·rename_i hz
      injection h with h
      injection h with h1 h2
      subst h2;rw [quote_back_z (show hd (b :: u) = 122 from hz), List.drop_one, List.tail_cons, show (c :: b :: u).drop (blanks u + 2) = u.drop (blanks u) from rfl];exact map_add rfl (by omega)
     ·rename_i hz;have hB : quoteK q 92 (b :: u) = (quoteK q 0 u).map (· + 1) := by
       rw [quote_back hE hz, List.drop_one, List.tail_cons]
      rw [hB]
      split at h
      ·rename_i hu
       split at h
       ·rename_i hd3;have h2 : (runN 16 u.length (u.drop 1) 0).2 + 4 = k := congrArg Prod.snd (Option.some.inj h);rw [<- h2];clear h h2;obtain ⟨_, _, h125⟩ := hd3;cases u with
        | nil => exact absurd hu.2 (by decide)
        | cons d u =>
         have hd' : d.toNat = 123 := by have := hu.2; rw [startsWith] at this; simpa using this
         rw [quote_pB hq (by unfold pB; omega)];rw [List.drop_one, List.tail_cons] at h125 ⊢;generalize hn : (runN 16 (d :: u).length u 0).2 = n at *;have hr := quote_run hq 16 (d :: u).length u 0;rw [hn] at hr;rw [show 1 + n = n + 1 from by omega, List.drop_succ_cons] at h125;cases hw : u.drop n with
         | nil => rw [hw] at h125; cases h125
         | cons x u' =>
          rw [hw] at h125 hr;have hx' : x.toNat = 125 := by rw [startsWith] at h125; simpa using h125
          rw [hr, quote_pB hq (by unfold pB; omega), show (c :: b :: d :: u).drop (n + 4) = (u.drop n).drop 1 from by rw [List.drop_drop, show n + 4 = n + 1 + 1 + 1 + 1 from rfl, List.drop_succ_cons, List.drop_succ_cons, List.drop_succ_cons], hw, List.drop_one, List.tail_cons];refine map_add (map_add (map_add (map_add rfl rfl) rfl) rfl) ?_;omega
       ·cases h
      ·split at h
       ·rename_i hg
        injection h with h
        injection h with h1 h2
        subst h2;cases hx : hexD b.toNat with
        | none =>
         have : (runN 10 3 (b :: u) 0).2 = 0 := by rw [runN, hx]
         omega
        | some d =>
         by_cases hlt : d < 10
         ·have e : (runN 10 3 (b :: u) 0).2 = (runN 10 2 u (0 * 10 + d)).2 + 1 := by rw [runN, hx]; simp only []; rw [if_pos hlt]
          rw [e, quote_run hq 10 2 u (0 * 10 + d)];exact map_add (map_add rfl rfl) (by omega)
         ·have : (runN 10 3 (b :: u) 0).2 = 0 := by rw [runN, hx]; simp only []; rw [if_neg hlt]
          omega
       ·cases h
theorem quote_parts {q : Nat} (hq : q = 34 \/ q = 39) : ∀ (f : Nat) (l t : List UInt8), partsL q f l = some t -> quoteK q 0 l = some l.length
 | 0, l, t, h => by cases h
 | f + 1, l, t, h => by
  rw [partsL] at h;cases hp : partL q l with
  | none =>
   rw [hp] at h;simp only [] at h
   split at h
   ·rename_i hl;subst hl;rw [quote_zero, if_pos (by rcases hq with rfl | rfl <;> rfl)]; rfl
   ·cases h
  | some x =>
   obtain ⟨u, k⟩ := x;rw [hp] at h;simp only [] at h;cases hr : partsL q f (l.drop k) with
   | none => rw [hr] at h; cases h
   | some v =>
    have ih := quote_parts hq f (l.drop k) v hr;have hk := part_size hp;have hm : quoteK q 0 l = (quoteK q 0 (l.drop k)).map (· + k) := by
     unfold partL at hp;cases l with
     | nil => cases hp
     | cons c r =>
      simp only [] at hp
      split at hp
      ·cases hp
      ·rename_i h1
       split at hp
       ·rename_i h92;exact quote_esc hq h92 hp
       ·rename_i h92
        injection hp with hp
        injection hp with hp1 hp2
        subst hp2;rw [quote_zero, if_neg (fun g => h1 (.inl g)), if_neg (fun g => by have := lf_is.1 g; exact h1 (.inr this)), if_neg h92]
        rfl
    rw [hm, ih, Option.map_some, List.length_drop]
    congr 1
    omega
theorem quote_no {c : UInt8} {r : List UInt8} (hq : c.toNat = 34 \/ c.toNat = 39) (h : quoteK c.toNat 0 r = none) (n : Nat) : unquotL (c :: r.take n) = none := by
 rw [unquotL, if_pos hq];cases hp : partsL c.toNat ((r.take n).length + 1) (r.take n) with
 | none => rfl
 | some t =>
  have := quote_take _ r 0 n _ (quote_parts hq _ _ _ hp);rw [h] at this; cases this
end Go.Proofs.YtnkejjlidgnkkaaGreatDoor.Lex
namespace Go.Proofs.YtnkejjlidgnkkaaGreatDoor.Lex

open Go.Lib renaming hid → qh
open Go.RowKit
structure LVars (w : World) : Prop where
 num : Num.Vars w
 most : ∃ m : Int, w.cell? ⟨1, 0, none⟩ = some (.int .i64 m)
 low : 1 < w.heap.size
 signs : ∃ T fr, w.heap[0]? = some (.cells (signsT.map Value.string).toArray T fr)
theorem LVars.below {w w' : World} (h : LVars w) (hb : Below w.heap.size w w') : LVars w' := by
 obtain ⟨h1, ⟨m, h2⟩, h3, ⟨T, fr, h4⟩⟩ := h;have hs := hb.size;refine ⟨h1.below hb, ⟨m, ?_⟩, by omega, ⟨T, fr, ?_⟩⟩
 ·rw [hb.cell (p := ⟨1, 0, none⟩) h3]; exact h2
 ·rw [hb.block 0 ((Array.getElem?_eq_some_iff.1 h4).1)]; exact h4
theorem own_ends (b : Nat) (w : World) (_hb : b < 256) : Calls Tryz.prog 87 #[.int .u8 b] w fun e w' => e = .returned (.bool (lfB b)) /\ w = w' := by
 go_enter Tryz.func87, Tryz.ntmps87;go_wp2
 all_goals
  go_ret;refine ⟨ret_bool ?_, rfl⟩;unfold lfB;rw [Bool.eq_iff_iff]
  first | (simp; done) | (simp; omega)
theorem own_letter (b : Nat) (w : World) (_hb : b < 256) : Calls Tryz.prog 45 #[.int .u8 b] w fun e w' => e = .returned (.bool (letterB b)) /\ w = w' := by
 go_enter Tryz.func45, Tryz.ntmps45;go_wp2
 all_goals
  go_ret;refine ⟨ret_bool ?_, rfl⟩;unfold letterB;rw [Bool.eq_iff_iff]
  first | (simp; done) | (simp; omega)
theorem own_space (b : Nat) (w : World) (hb : b < 256) : Calls Tryz.prog 42 #[.int .u8 b] w fun e w' => e = .returned (.bool (spaceB b)) /\ w = w' := Num.runes_space b w hb
theorem own_digit (b : Nat) (w : World) (hb : b < 256) : Calls Tryz.prog 47 #[.int .u8 b] w fun e w' => e = .returned (.bool (digitB b)) /\ w = w' := Num.runes_digit b w hb
theorem own_eq (b : Nat) (w : World) (_hb : b < 256) : Calls Tryz.prog 85 #[.int .u8 b] w fun e w' => e = .returned (.bool (decide (b = 61))) /\ w = w' := by
 go_enter Tryz.func85, Tryz.ntmps85;go_wp2;go_ret;refine ⟨ret_bool ?_, rfl⟩;rw [Bool.eq_iff_iff];simp
 try omega
theorem own_inline (b : Nat) (w : World) (hb : b < 256) : Calls Tryz.prog 86 #[.int .u8 b] w fun e w' => e = .returned (.bool (!lfB b)) /\ w = w' := by
 have c := fun w => own_ends b w hb
 go_enter Tryz.func86, Tryz.ntmps86;go_wp2_with fail;refine (c _).mono ?_;rintro e w1 ⟨rfl, rfl⟩;go_wp2;go_ret;exact ⟨rfl, rfl⟩
theorem own_inname (b : Nat) (w : World) (hb : b < 256) : Calls Tryz.prog 88 #[.int .u8 b] w fun e w' => e = .returned (.bool (letterB b || digitB b)) /\ w = w' := by
 have c := fun w => own_letter b w hb
 have d := fun w => own_digit b w hb
 cases hl : letterB b
 ·rw [hl] at c;go_enter Tryz.func88, Tryz.ntmps88;go_wp2_with fail;refine (c _).mono ?_;rintro e w1 ⟨rfl, rfl⟩;go_wp2_with fail;refine (d _).mono ?_;rintro e w1 ⟨rfl, rfl⟩;go_wp2;go_ret;exact ⟨rfl, rfl⟩
 ·rw [hl] at c;go_enter Tryz.func88, Tryz.ntmps88;go_wp2_with fail;refine (c _).mono ?_;rintro e w1 ⟨rfl, rfl⟩;go_wp2;go_ret;exact ⟨rfl, rfl⟩
def runL (p : Nat -> Bool) : List UInt8 -> Nat
 | [] => 0
 | c :: r => if p c.toNat = true then runL p r + 1 else 0
theorem eqs_run : ∀ l, eqsL l = runL (fun b => decide (b = 61)) l
 | [] => rfl
 | c :: r => by rw [eqsL, runL, eqs_run r]; simp only [decide_eq_true_eq]
theorem name_run : ∀ l, nameRun l = runL (fun b => letterB b || digitB b) l
 | [] => rfl
 | c :: r => by rw [nameRun, runL, name_run r]
theorem line_run : ∀ l, lineRun l = runL (fun b => !lfB b) l
 | [] => rfl
 | c :: r => by
  rw [lineRun, runL, line_run r];cases lfB c.toNat <;> rfl
theorem blanks_run : ∀ l, blanks l = runL spaceB l
 | [] => rfl
 | c :: r => by rw [blanks, runL, blanks_run r]; rfl
theorem run_le (p : Nat -> Bool) : ∀ l, runL p l <= l.length
 | [] => Nat.le_refl 0
 | c :: r => by
  have := run_le p r;rw [runL]
  split
  ·simp only [List.length_cons]; omega
  ·exact Nat.zero_le _
theorem run_inside (p : Nat -> Bool) : ∀ (l : List UInt8) (i : Nat), i < runL p l -> ∃ c r, l.drop i = c :: r /\ p c.toNat = true
 | [], i, h => absurd h (Nat.not_lt_zero _)
 | c :: r, i, h => by
  rw [runL] at h
  split at h
  ·rename_i hc;cases i with
   | zero => exact ⟨c, r, rfl, hc⟩
   | succ i => exact run_inside p r i (by omega)
  ·exact absurd h (Nat.not_lt_zero _)
theorem run_out (p : Nat -> Bool) : ∀ (l : List UInt8), runL p l < l.length -> ∃ c r, l.drop (runL p l) = c :: r /\ p c.toNat = false
 | [], h => absurd h (Nat.not_lt_zero _)
 | c :: r, h => by
  rw [runL] at h ⊢
  split at h
  ·rename_i hc;rw [if_pos hc];exact run_out p r (by simp only [List.length_cons] at h; omega)
  ·rename_i hc;rw [if_neg hc];exact ⟨c, r, rfl, by simpa using hc⟩
theorem span_pure (s : ByteArray) (f : Nat) (p : Nat -> Bool) (w : World) (hs : s.size <= 1000000000) (he : ∀ args w, (callFunc f args).run Tryz.prog w = .ok (.enter f args) w)
  (hp : ∀ b w, b < 256 -> Calls Tryz.prog f #[.int .u8 (b : Nat)] w fun e w' => e = .returned (.bool (p b)) /\ w = w') :
  Calls Tryz.prog 43 #[.string s, .func (.func f) #[] #[]] w fun e w' => e = .returned (.int .i64 (runL p s.data.toList : Nat)) /\ w = w' := by
 have hl : s.data.toList.length = s.size := rfl;have hle := run_le p s.data.toList;refine span_any s f #[] (runL p s.data.toList) (fun _ w' => w = w') (fun w' => w = w') w hs (by omega) he (fun i w1 hi hR => ?_) (fun hi w1 hR => ?_) (fun _ _ h => h) rfl
 ·subst hR;obtain ⟨c, r, h1, h2⟩ := run_inside p s.data.toList i hi;obtain ⟨c', e', h1'⟩ := drop_at s i (by omega);rw [h1'] at h1
  injection h1 with h3 h4
  subst h3;rw [e'] at h2;have := hp (byteAt s i) w (byteAt_lt s i);rw [h2] at this;exact this
 ·subst hR;obtain ⟨c, r, h1, h2⟩ := run_out p s.data.toList (by omega);obtain ⟨c', e', h1'⟩ := drop_at s (runL p s.data.toList) hi;rw [h1'] at h1
  injection h1 with h3 h4
  subst h3;rw [e'] at h2;have := hp (byteAt s (runL p s.data.toList)) w (byteAt_lt s _);rw [h2] at this;exact this
theorem run_behind {P : Program} (t : TypeId) (s : ByteArray) (x : Int) (i : Nat) (h : P.underlying t = some .string) (hi : i <= s.size) (hx : x = i) (w : World) :
  (Instr.slice t (.string s) (some (.int .i64 x)) none none).run P w = .ok (.string (s.extract i s.size)) w := by
 subst hx;rw [run_slice_string_from_if w t _ .i64 _ h, if_pos ⟨by omega, by omega⟩]
 rfl
theorem run_ahead {P : Program} (t : TypeId) (s : ByteArray) (d : Nat) (h : P.underlying t = some .string) (hd : d <= s.size) (x : Int) (hx : x = d) (w : World) :
  (Instr.slice t (.string s) none (some (.int .i64 x)) none).run P w = .ok (.string (s.extract 0 d)) w := by
 subst hx;rw [run_slice_string_to_if w t _ .i64 _ h, if_pos ⟨by omega, by omega⟩]
 rfl
theorem behind_list (s : ByteArray) (i : Nat) : (s.extract i s.size).data.toList = s.data.toList.drop i := by
 have hl : s.data.toList.length = s.size := rfl;rw [Lib.extract_data, List.take_of_length_le (by rw [List.length_drop, hl]; omega)]
theorem ahead_list (s : ByteArray) (i : Nat) : (s.extract 0 i).data.toList = s.data.toList.take i := by
 rw [Lib.extract_data, Nat.sub_zero, List.drop_zero]
theorem behind_size (s : ByteArray) (i : Nat) : (s.extract i s.size).size = s.size - i := by
 have h := congrArg List.length (behind_list s i);rw [List.length_drop] at h;exact h
theorem ahead_size (s : ByteArray) (i : Nat) (h : i <= s.size) : (s.extract 0 i).size = i := by
 have h' := congrArg List.length (ahead_list s i);rw [List.length_take] at h';have hl : s.data.toList.length = s.size := rfl;have : (s.extract 0 i).data.toList.length = (s.extract 0 i).size := rfl;omega
theorem has_any (s p : ByteArray) (w : World) : Calls Tryz.prog 35 #[.string s, .string p] w fun e w' => e = .returned (.bool (p.data.toList.isPrefixOf s.data.toList)) /\ w = w' := by
 refine (Tryz.strings_HasPrefix s p w).mono ?_;rintro e w' ⟨rfl, rfl⟩;exact ⟨rfl, rfl⟩
theorem byte_beq (b c : UInt8) : (b == c) = decide (c.toNat = b.toNat) := by
 by_cases e : b = c
 ·subst e; simp
 ·rw [decide_eq_false (fun h => e (UInt8.toNat_inj.1 h.symm))];simp [e]
theorem has_one (l : List UInt8) (b : UInt8) (h0 : b.toNat ≠ 0) : ([b] : List UInt8).isPrefixOf l = decide (hd l = b.toNat) := by
 cases l with
 | nil => rw [decide_eq_false (fun h => h0 h.symm)]; rfl
 | cons c r =>
  show (b == c && true) = _;rw [Bool.and_true, byte_beq]; rfl
theorem has_two (l : List UInt8) (b c : UInt8) (h0 : b.toNat ≠ 0) (h1 : c.toNat ≠ 0) : ([b, c] : List UInt8).isPrefixOf l = (decide (hd l = b.toNat) && decide (hd (l.drop 1) = c.toNat)) := by
 cases l with
 | nil => rw [decide_eq_false (fun h => h0 h.symm)]; rfl
 | cons d r =>
  rw [<- has_one _ c h1, List.drop_one, List.tail_cons]
  show (b == d && [c].isPrefixOf r) = _;rw [byte_beq]; rfl
def brkK (l : List UInt8) : Nat := if brkB l = true then eqsL (l.drop 1) else 0
def BrkSays (l : List UInt8) (w : World) (e : Ending) (w' : World) : Prop := e = .returned (.tuple #[.int .i64 (brkK l : Nat), .bool (brkB l)]) /\ w = w'
theorem brk_no {l : List UInt8} {w : World} (h : brkB l = false) : BrkSays l w (.returned (.tuple #[.int .i64 0, .bool false])) w := by
 unfold BrkSays brkK;rw [h]; exact ⟨rfl, rfl⟩
theorem brk_yes {l : List UInt8} {k : Nat} {w : World} (h : brkB l = true) (hk : eqsL (l.drop 1) = k) : BrkSays l w (.returned (.tuple #[.int .i64 (k : Int), .bool true])) w := by
 unfold BrkSays brkK;rw [h, if_pos rfl, hk]; exact ⟨rfl, rfl⟩
theorem own_bracket (s : ByteArray) (w : World) (hs : s.size <= 1000000000) : Calls Tryz.prog 41 #[.string s] w (BrkSays s.data.toList w) := by
 have p1 := fun w => has_any s ⟨#[91]⟩ w
 rw [show (⟨#[91]⟩ : ByteArray).data.toList = [91] from rfl, has_one _ _ (by decide), show (91 : UInt8).toNat = 91 from rfl] at p1;have hB : brkB s.data.toList = (decide (hd s.data.toList = 91) && decide (hd (s.data.toList.drop (eqsL (s.data.toList.drop 1) + 1)) = 91)) := rfl;by_cases h1 : hd s.data.toList = 91
 ·rw [decide_eq_true h1] at p1 hB;rw [Bool.true_and] at hB;have h0 : 0 < s.size := by
   rcases Nat.eq_zero_or_pos s.size with h | h
   ·have := hd_end (s := s) (i := 0) (by omega);rw [List.drop_zero] at this; omega
   ·exact h
  have hsl := run_behind (P := Tryz.prog) 9 s 1 1 Tryz.underlying9 (by omega) rfl;have c1 := fun w => span_pure (s.extract 1 s.size) 85 (fun b => decide (b = 61)) w (by rw [behind_size]; omega) (enters_of Tryz.func85 (by kernel_rfl) rfl) (fun b w hb => own_eq b w hb)
  rw [<- eqs_run, behind_list] at c1;have hle := run_le (fun b => decide (b = 61)) (s.data.toList.drop 1);rw [<- eqs_run, List.length_drop, show s.data.toList.length = s.size from rfl] at hle;generalize hk : eqsL (s.data.toList.drop 1) = k at *;have HK := qh hk;have hk1 : (k : Int) + 1 <= s.size := by omega
  have hsm : (s.size : Int) <= 1000000000 := by omega
  have hs2 := run_behind (P := Tryz.prog) 9 s (1 + (k : Int)) (k + 1) Tryz.underlying9 (by omega) (by omega);have p2 := fun w => has_any (s.extract (k + 1) s.size) ⟨#[91]⟩ w
  rw [show (⟨#[91]⟩ : ByteArray).data.toList = [91] from rfl, behind_list, has_one _ _ (by decide), show (91 : UInt8).toNat = 91 from rfl] at p2;generalize decide (hd (s.data.toList.drop (k + 1)) = 91) = b at *;have HB := qh hB;clear hB hk hle h1;go_enter Tryz.func41, Tryz.ntmps41;go_wp2_with fail;refine (p1 _).mono ?_;rintro e w1 ⟨rfl, rfl⟩;go_wp2_with fail;refine (c1 _).mono ?_;rintro e w1 ⟨rfl, rfl⟩;go_wp2_with fail;refine (p2 _).mono ?_;rintro e w1 ⟨rfl, rfl⟩;cases b
  ·go_wp2_with fail;go_ret2;exact brk_no HB.out
  ·go_wp2_with fail;go_ret2;exact brk_yes HB.out HK.out
 ·rw [decide_eq_false h1] at p1 hB;rw [Bool.false_and] at hB;have HB := qh hB;clear hB h1;go_enter Tryz.func41, Tryz.ntmps41;go_wp2_with fail;refine (p1 _).mono ?_;rintro e w1 ⟨rfl, rfl⟩;go_wp2_with fail;go_ret2;exact brk_no HB.out
end Go.Proofs.YtnkejjlidgnkkaaGreatDoor.Lex
namespace Go.Proofs

open Go.Lib renaming hid → qh
open Go.Shelf Go.RowKit
def Tryz.laysB_ren : Go.Shelf.Ren := ⟨fun | 166 => 37 | 167 => 101 | 240 => 82 | 276 => 123 | n => n, fun | 0 => 0 | 3 => 3 | 4 => 4 | 5 => 5 | 9 => 9 | 20 => 20 | 37 => 78 | 70 => 77 | 72 => 80 | 75 => 83 | 76 => 84 | 80 => 52 | 164 => 135 | n => n, fun | n => n⟩
theorem Tryz.laysB166 : Go.Proofs.Lays.n166 Tryz.prog Tryz.laysB_ren := {
 mixed := by kernel_rfl
 f166 := Tryz.func37.trans (congrArg some (by kernel_rfl))
 f240 := Tryz.func82.trans (congrArg some (by kernel_rfl))
 f276 := Tryz.func123.trans (congrArg some (by kernel_rfl))
 t0 := Tryz.underlying0
 a0 := Tryz.isAgg0
 z0 := Tryz.sizeOf0
 v0 := Tryz.zeroValue0
 t3 := Tryz.underlying3
 a3 := Tryz.isAgg3
 z3 := Tryz.sizeOf3
 v3 := Tryz.zeroValue3
 t4 := Tryz.underlying4
 a4 := Tryz.isAgg4
 z4 := Tryz.sizeOf4
 v4 := Tryz.zeroValue4
 t9 := Tryz.underlying9
 a9 := Tryz.isAgg9
 z9 := Tryz.sizeOf9
 v9 := Tryz.zeroValue9
 t20 := Tryz.underlying20
 a20 := Tryz.isAgg20
 z20 := Tryz.sizeOf20
 v20 := Tryz.zeroValue20
 t37 := Tryz.underlying78
 a37 := Tryz.isAgg78
 z37 := Tryz.sizeOf78
 v37 := Tryz.zeroValue78
 t70 := Tryz.underlying77
 a70 := Tryz.isAgg77
 z70 := Tryz.sizeOf77
 v70 := Tryz.zeroValue77
 t72 := Tryz.underlying80
 a72 := Tryz.isAgg80
 z72 := Tryz.sizeOf80
 v72 := Tryz.zeroValue80
 t75 := Tryz.underlying83
 a75 := Tryz.isAgg83
 z75 := Tryz.sizeOf83
 v75 := Tryz.zeroValue83
 t164 := Tryz.underlying135
 a164 := Tryz.isAgg135
 z164 := Tryz.sizeOf135
 v164 := Tryz.zeroValue135 }
theorem Tryz.laysB167 : Go.Proofs.Lays.n167 Tryz.prog Tryz.laysB_ren := {
 mixed := by kernel_rfl
 f167 := Tryz.func101.trans (congrArg some (by kernel_rfl))
 f240 := Tryz.func82.trans (congrArg some (by kernel_rfl))
 f276 := Tryz.func123.trans (congrArg some (by kernel_rfl))
 t0 := Tryz.underlying0
 a0 := Tryz.isAgg0
 z0 := Tryz.sizeOf0
 v0 := Tryz.zeroValue0
 t4 := Tryz.underlying4
 a4 := Tryz.isAgg4
 z4 := Tryz.sizeOf4
 v4 := Tryz.zeroValue4
 t5 := Tryz.underlying5
 a5 := Tryz.isAgg5
 z5 := Tryz.sizeOf5
 v5 := Tryz.zeroValue5
 t9 := Tryz.underlying9
 a9 := Tryz.isAgg9
 z9 := Tryz.sizeOf9
 v9 := Tryz.zeroValue9
 t20 := Tryz.underlying20
 a20 := Tryz.isAgg20
 z20 := Tryz.sizeOf20
 v20 := Tryz.zeroValue20
 t37 := Tryz.underlying78
 a37 := Tryz.isAgg78
 z37 := Tryz.sizeOf78
 v37 := Tryz.zeroValue78
 t70 := Tryz.underlying77
 a70 := Tryz.isAgg77
 z70 := Tryz.sizeOf77
 v70 := Tryz.zeroValue77
 t72 := Tryz.underlying80
 a72 := Tryz.isAgg80
 z72 := Tryz.sizeOf80
 v72 := Tryz.zeroValue80
 t75 := Tryz.underlying83
 a75 := Tryz.isAgg83
 z75 := Tryz.sizeOf83
 v75 := Tryz.zeroValue83
 t164 := Tryz.underlying135
 a164 := Tryz.isAgg135
 z164 := Tryz.sizeOf135
 v164 := Tryz.zeroValue135 }
theorem Tryz.builderX : Builder.Extra Tryz.prog Tryz.laysB_ren := {
 sizeBuilder := by kernel_rfl
 liesBuilder := by kernel_rfl
 t5 := Tryz.underlying5
 a5 := Tryz.isAgg5
 z5 := Tryz.sizeOf5
 v5 := Tryz.zeroValue5
 infoByte := by kernel_rfl
 cellsByte := by kernel_rfl
 sizeByte := by kernel_rfl
 neB5 := by decide }
end Go.Proofs
namespace Go.Proofs.YtnkejjlidgnkkaaGreatDoor

open Go.Lib renaming hid → qh
open Go.RowKit Go.Shelf
structure Bld (w0 : World) (b : Nat) (l : List UInt8) (w : World) : Prop where
 is : Lib.IsBuilderF 80 5 w0.heap.size b (Lib.byteCells l) w
 low : Below w0.heap.size w0 w
theorem Bld.fresh (w : World) : Bld w w.heap.size [] (w.alloc (.cells #[.pointer none, .slice none 0 0] 80)) :=
 ⟨Lib.IsBuilderF.of (Lib.fresh_isBuilder _ _ w), (Below.refl _ w).alloc (Nat.le_refl _) _⟩
theorem builderAt_below {T e : TypeId} {B b : Nat} {p : Value} {bs : List Value} {w w' : World} (h : Lib.BuilderAtF T e B b p bs w) (hb : Below w.heap.size w w') : Lib.BuilderAtF T e B b p bs w' := by
 obtain ⟨h1, v, hv, hown, hne⟩ := h;have hlt : b < w.heap.size := (Array.getElem?_eq_some_iff.1 hv).1;refine ⟨h1, v, by rw [hb.block b hlt]; exact hv, ⟨hown.1, ?_⟩, hne⟩;rcases hown.2 with hn | ⟨g, cap, cur, fz, rfl, hbg, hg, r⟩
 ·exact .inl hn
 ·exact .inr ⟨g, cap, cur, fz, rfl, hbg, by rw [hb.block g (Array.getElem?_eq_some_iff.1 hg).1]; exact hg, r⟩
theorem Bld.below {w0 : World} {b : Nat} {l : List UInt8} {w w' : World} (h : Bld w0 b l w) (hb : Below w.heap.size w w') : Bld w0 b l w' :=
 ⟨h.is.elim (fun h => .inl (builderAt_below h hb)) (fun h => .inr (builderAt_below h hb)), h.low.trans (hb.mono h.low.size)⟩
theorem bytes_snoc (l : List UInt8) (c : Nat) (hc : c < 256) : Lib.byteCells l ++ [.int .u8 (c : Int)] = Lib.byteCells (l ++ [UInt8.ofNat c]) := by
 have e : (UInt8.ofNat c).toNat = c := by rw [UInt8.toNat_ofNat']; omega
 rw [Lib.byteCells_append];simp [Lib.byteCells, e]
theorem write_byte (w0 : World) (b : Nat) (l : List UInt8) (c : Nat) (W : World) (h : Bld w0 b l W) (hc : c < 256) (hl : l.length <= 1000000000) :
  Calls Tryz.prog 101 #[.pointer (some ⟨b, 0, none⟩), .int .u8 c] W fun e w' => e = .returned .nilIface /\ Bld w0 b (l ++ [UInt8.ofNat c]) w' := by
 refine Calls.mono (Any.Builder_WriteByte_k Tryz.laysB167 Tryz.builderX w0.heap.size b (Lib.byteCells l) c W h.is (by rw [Lib.byteCells_length]; omega) h.low.size) ?_;rintro e w' ⟨rfl, h1, h2, _⟩;rw [bytes_snoc l c hc] at h1;exact ⟨rfl, .inr h1, h.low.trans h2⟩
theorem write_text (w0 : World) (b : Nat) (l : List UInt8) (s : ByteArray) (W : World) (h : Bld w0 b l W) (hl : l.length <= 1000000000) (hs : s.size <= 1000000000) :
  Calls Tryz.prog 37 #[.pointer (some ⟨b, 0, none⟩), .string s] W fun e w' => e = .returned (.tuple #[.int .i64 s.size, .nilIface]) /\ Bld w0 b (l ++ s.data.toList) w' := by
 refine Calls.mono (Any.Builder_WriteString_k Tryz.laysB166 Tryz.builderX w0.heap.size b (Lib.byteCells l) s W h.is (by rw [Lib.byteCells_length]; omega) h.low.size) ?_;rintro e w' ⟨rfl, h1, h2, _⟩;rw [Lib.strCells_eq, <- Lib.byteCells_append] at h1;exact ⟨rfl, .inr h1, h.low.trans h2⟩
theorem builder_text (w0 : World) (b : Nat) (l : List UInt8) (W : World) (h : Bld w0 b l W) :
  Calls Tryz.prog 39 #[.pointer (some ⟨b, 0, none⟩)] W fun e w' => e = .returned (.string ⟨l.toArray⟩) /\ Bld w0 b l w' := by
 refine (Tryz.Builder_String_any_f w0.heap.size b l W h.is h.low.size).mono ?_;rintro e w' ⟨rfl, h1, h2⟩;exact ⟨rfl, h1, h.low.trans h2⟩
end Go.Proofs.YtnkejjlidgnkkaaGreatDoor
