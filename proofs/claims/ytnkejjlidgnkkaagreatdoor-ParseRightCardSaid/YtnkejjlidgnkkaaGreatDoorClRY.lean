/-
  A part of the proof.
-/
import Derived.Deep.QuietTactic
import Derived.BigQuiet
import Derived.Deep.Heap
import Derived.Lib.Hide
import Derived.Test.YtnkejjlidgnkkaaGreatDoorClRX
set_option maxRecDepth 100000
set_option maxHeartbeats 40000000
namespace Go.Proofs.YtnkejjlidgnkkaaGreatDoor.Lex

open Go.Lib renaming hid → qh
open Go.RowKit
structure PAt (s : ByteArray) (k : Nat) (acc : List UInt8) : Prop where
 le : k <= s.size
 says : plainL s.data.toList = acc ++ plainF 0 (s.data.toList.drop k)
 small : acc.length <= k
theorem PAt.other {s : ByteArray} {k : Nat} {acc : List UInt8} (h : PAt s k acc) (hk : k < s.size) (hb : lfB (byteAt s k) = false) : PAt s (k + 1) (acc ++ [UInt8.ofNat (byteAt s k)]) := by
 obtain ⟨c, e, hl⟩ := drop_at s k hk;refine ⟨hk, ?_, by rw [List.length_append, List.length_singleton]; have := h.small; omega⟩;rw [h.says, hl, plainF, e, hb, if_neg (by decide), List.append_assoc]
 congr 2
 rw [<- e]; simp
theorem plain_same {c : Nat} {l : List UInt8} (h : ∀ d r, l = d :: r -> ¬ (lfB d.toNat = true /\ c + d.toNat = 23)) : plainF c l = plainF 0 l := by
 cases l with
 | nil => rfl
 | cons d r =>
  rw [plainF, plainF];have := h d r rfl
  split
  ·rename_i hd';rw [if_neg (fun g => this ⟨hd', g⟩), if_neg (fun g => by have := lf_is.1 hd'; omega)]
  ·rfl
theorem PAt.line1 {s : ByteArray} {k : Nat} {acc : List UInt8} (h : PAt s k acc) (hk : k < s.size) (hb : lfB (byteAt s k) = true) (hn : k + 1 < s.size -> lfB (byteAt s (k + 1)) = true -> byteAt s (k + 1) = byteAt s k) : PAt s (k + 1) (acc ++ [10]) := by
 obtain ⟨c, e, hl⟩ := drop_at s k hk;have hb' := lf_is.1 hb;refine ⟨hk, ?_, by rw [List.length_append, List.length_singleton]; have := h.small; omega⟩;rw [h.says, hl, plainF, e, hb, if_pos rfl, if_neg (by omega), List.append_assoc, plain_same (l := s.data.toList.drop (k + 1))]
 ·rfl
 ·intro d r hd' g;by_cases hlt : k + 1 < s.size
  ·obtain ⟨d', e', hl'⟩ := drop_at s (k + 1) hlt;rw [hl'] at hd'
   injection hd' with h1 h2
   subst h1;rw [e'] at g;have := hn hlt g.1;omega
  ·rw [List.drop_of_length_le (show s.data.toList.length <= k + 1 by show s.size <= _; omega)] at hd';cases hd'
theorem PAt.line2 {s : ByteArray} {k : Nat} {acc : List UInt8} (h : PAt s k acc) (hk : k + 1 < s.size) (hb : lfB (byteAt s k) = true) (hb2 : lfB (byteAt s (k + 1)) = true) (hn : byteAt s (k + 1) ≠ byteAt s k) : PAt s (k + 1 + 1) (acc ++ [10]) := by
 obtain ⟨c, e, hl⟩ := drop_at s k (by omega);obtain ⟨d, e', hl'⟩ := drop_at s (k + 1) hk;have h1 := lf_is.1 hb;have h2 := lf_is.1 hb2;refine ⟨by omega, ?_, by rw [List.length_append, List.length_singleton]; have := h.small; omega⟩;rw [h.says, hl, plainF, e, hb, if_pos rfl, if_neg (by omega), List.append_assoc, hl', plainF, e', if_pos hb2, if_pos (by omega)]
 rfl
theorem PAt.done {s : ByteArray} {k : Nat} {acc : List UInt8} (h : PAt s k acc) (hk : s.size <= k) : plainL s.data.toList = acc := by
 rw [h.says, List.drop_of_length_le (show s.data.toList.length <= k from hk)];exact List.append_nil _
theorem ends_quiet (b : Nat) (w : World) (hb : b < 256) : Calls Tryz.prog 87 #[.int .u8 b] w fun e w' => e = .returned (.bool (lfB b)) /\ w' = w :=
 (own_ends b w hb).mono fun _ _ ⟨h, h'⟩ => ⟨h, h'.symm⟩
theorem own_plain (s : ByteArray) (w : World) (hs : s.size <= 100000000) :
  Calls Tryz.prog 53 #[.string s] w fun e w' => e = .returned (.string ⟨(plainL s.data.toList).toArray⟩) /\ Below w.heap.size w w' := by
 go_enter Tryz.func53, Tryz.ntmps53;go_wp2_with fail;go_loopg [4] s.size (fun r i wr => ∃ (k : Nat) (acc : List UInt8), r = s.size - k /\ i = .int .i64 (k : Int) /\ PAt s k acc /\ Bld w w.heap.size acc wr)
 case atStart => exact ⟨0, _, rfl, rfl, ⟨Nat.zero_le _, rfl, Nat.zero_le _⟩, Bld.fresh w⟩
 case round =>
  obtain ⟨k, acc, rfl, rfl, hp, hb⟩ := hrel;have hle := hp.le;have hsm := hp.small;have HP := qh hp;have HB := qh hb;clear hp hb;by_cases hlt : k < s.size
  ·have hx := run_index_at (P := Tryz.prog) 9 s (k : Int) k Tryz.underlying9 hlt rfl;have ce := fun w => own_ends (byteAt s k) w (byteAt_lt s k)
   have hb9 := byteAt_lt s k;cases hlf : lfB (byteAt s k)
   ·have HQ := qh (HP.out.other hlt hlf);rw [hlf] at ce;clear hlf;generalize byteAt s k = b at *;go_wp2_with fail;refine (ce _).mono ?_;rintro e w1 ⟨rfl, rfl⟩;go_wp2_with fail;refine (write_byte w w.heap.size acc b wr HB.out hb9 (by omega)).mono ?_;rintro e w1 ⟨rfl, b1⟩;have B1 := qh b1;clear b1;go_wp2_with fail;go_roundg (s.size - (k + 1))
    case measure => omega
    case rel => exact ⟨k + 1, _, by omega, by go_num, HQ.out, B1.out⟩
   ·have sm : IntKind.i64.wrap ((k : Int) + 1) = (k : Int) + 1 := IntWalk.i64_in _ (by omega);by_cases hn : k + 1 < s.size
    ·have hn' : (k : Int) + 1 < s.size := by omega
     have hy := run_index_at (P := Tryz.prog) 9 s ((k : Int) + 1) (k + 1) Tryz.underlying9 hn (by omega);have cd := fun w => ends_quiet (byteAt s (k + 1)) w (byteAt_lt s (k + 1))
     cases hld : lfB (byteAt s (k + 1))
     ·have HQ := qh (HP.out.line1 hlt hlf (fun _ g => by rw [hld] at g; cases g));rw [hlf] at ce;rw [hld] at cd;clear hlf hld;generalize byteAt s (k + 1) = d at *;generalize byteAt s k = b at *;go_wp2_with fail;refine (ce _).mono ?_;rintro e w1 ⟨rfl, rfl⟩;go_wp2_with fail;refine (write_byte w w.heap.size acc 10 wr HB.out (by decide) (by omega)).mono ?_;rintro e w1 ⟨rfl, b1⟩;have B1 := qh b1;clear b1;go_wp2_with fail;go_quiet ((go_at_call 87; exact Calls.quiet_of_same (cd _)));have B2 := qh (B1.out.below (below_drewN (Below.refl _ _) nq));go_wp2_with fail;go_roundg (s.size - (k + 1))
      case measure => omega
      case rel => exact ⟨k + 1, _, by omega, by go_num, HQ.out, B2.out⟩
     ·by_cases hne : byteAt s (k + 1) = byteAt s k
      ·have HQ := qh (HP.out.line1 hlt hlf (fun _ _ => hne));have t1 : (((byteAt s (k + 1) : Nat) : Int) != ((byteAt s k : Nat) : Int)) = false := by rw [hne]; simp
       rw [hlf] at ce;rw [hld] at cd;clear hlf hld hne;generalize byteAt s (k + 1) = d at *;generalize byteAt s k = b at *;go_wp2_with fail;refine (ce _).mono ?_;rintro e w1 ⟨rfl, rfl⟩;go_wp2_with fail;refine (write_byte w w.heap.size acc 10 wr HB.out (by decide) (by omega)).mono ?_;rintro e w1 ⟨rfl, b1⟩;have B1 := qh b1;clear b1;go_wp2_with fail;go_quiet ((go_at_call 87; exact Calls.quiet_of_same (cd _)));have B2 := qh (B1.out.below (below_drewN (Below.refl _ _) nq));go_wp2_with fail;go_roundg (s.size - (k + 1))
       case measure => omega
       case rel => exact ⟨k + 1, _, by omega, by go_num, HQ.out, B2.out⟩
      ·have HQ := qh (HP.out.line2 hn hlf hld hne);have t1 : (((byteAt s (k + 1) : Nat) : Int) != ((byteAt s k : Nat) : Int)) = true := by simp; omega
       rw [hlf] at ce;rw [hld] at cd;clear hlf hld hne;generalize byteAt s (k + 1) = d at *;generalize byteAt s k = b at *;go_wp2_with fail;refine (ce _).mono ?_;rintro e w1 ⟨rfl, rfl⟩;go_wp2_with fail;refine (write_byte w w.heap.size acc 10 wr HB.out (by decide) (by omega)).mono ?_;rintro e w1 ⟨rfl, b1⟩;have B1 := qh b1;clear b1;go_wp2_with fail;go_quiet ((go_at_call 87; exact Calls.quiet_of_same (cd _)));have B2 := qh (B1.out.below (below_drewN (Below.refl _ _) nq));go_wp2_with fail;go_roundg (s.size - (k + 1 + 1))
       case measure => omega
       case rel => exact ⟨k + 1 + 1, _, by omega, by go_num, HQ.out, B2.out⟩
    ·have hn' : decide ((k : Int) + 1 < (s.size : Int)) = false := by rw [decide_eq_false_iff_not]; omega
     have HQ := qh (HP.out.line1 hlt hlf (fun g => absurd g hn));rw [hlf] at ce;clear hlf;generalize byteAt s k = b at *;go_wp2_with fail;refine (ce _).mono ?_;rintro e w1 ⟨rfl, rfl⟩;go_wp2_with fail;refine (write_byte w w.heap.size acc 10 wr HB.out (by decide) (by omega)).mono ?_;rintro e w1 ⟨rfl, b1⟩;have B1 := qh b1;clear b1;go_wp2_with fail;go_quiet (fail);have B2 := qh (B1.out.below (below_drewN (Below.refl _ _) nq));go_wp2_with fail;go_roundg (s.size - (k + 1))
     case measure => omega
     case rel => exact ⟨k + 1, _, by omega, by go_num, HQ.out, B2.out⟩
  ·have HD := qh (HP.out.done (by omega));go_wp2_with fail;refine (builder_text w w.heap.size acc wr HB.out).mono ?_;rintro e w1 ⟨rfl, b1⟩;have B1 := qh b1;clear b1;go_wp2_with fail;go_ret;exact ⟨by rw [HD.out]; rfl, B1.out.low⟩
theorem own_lines (s : ByteArray) (w : World) (hs : s.size <= 100000000) :
  Calls Tryz.prog 23 #[.string s] w fun e w' => e = .returned (.int .i64 (linesOf s.data.toList : Nat)) /\ Below w.heap.size w w' := by
 have c1 := fun w => own_plain s w hs
 have hl := plain_lines s.data.toList 0;have c2 := fun w => Tryz.strings_Count_one ⟨(plainL s.data.toList).toArray⟩ 10 w
 rw [show (⟨(plainL s.data.toList).toArray⟩ : ByteArray).data.toList = plainF 0 s.data.toList from rfl, hl, show linesF 0 s.data.toList = linesOf s.data.toList from rfl] at c2;generalize linesOf s.data.toList = n at *;generalize plainL s.data.toList = p at *;clear hl;go_enter Tryz.func23, Tryz.ntmps23;go_wp2_with fail;refine (c1 _).mono ?_;rintro e w1 ⟨rfl, b1⟩;go_wp2_with fail;refine (c2 _).mono ?_;rintro e w2 ⟨rfl, rfl⟩;go_wp2_with fail;go_ret;exact ⟨rfl, b1⟩
end Go.Proofs.YtnkejjlidgnkkaaGreatDoor.Lex
namespace Go.Proofs.YtnkejjlidgnkkaaGreatDoor.Lex

open Go.Lib renaming hid → qh
open Go.RowKit
structure Res (w0 : World) (g : Nat) (W : World) : Prop where
 cell : W.heap[g]? = some (.cells #[.int .u8 0, .string ⟨#[]⟩, .int .i64 0, .int .i64 0] 55 (0, 0))
 low : Below w0.heap.size w0 W
 ge : w0.heap.size <= g
theorem Res.fresh (w : World) : Res w w.heap.size (w.alloc (.cells #[.int .u8 0, .string ⟨#[]⟩, .int .i64 0, .int .i64 0] 55)) :=
 ⟨heap_alloc_new w _, (Below.refl _ w).alloc (Nat.le_refl _) _, Nat.le_refl _⟩
theorem Res.lt {w0 : World} {g : Nat} {W : World} (h : Res w0 g W) : g < W.heap.size := (Array.getElem?_eq_some_iff.1 h.cell).1
theorem Res.below {w0 : World} {g : Nat} {W W' : World} (h : Res w0 g W) (hb : Below W.heap.size W W') : Res w0 g W' :=
 ⟨by rw [hb.block g h.lt]; exact h.cell, h.low.trans (hb.mono h.low.size), h.ge⟩
theorem Res.alloc {w0 : World} {g : Nat} {W : World} (h : Res w0 g W) (o : Obj) : Res w0 g (W.alloc o) := h.below ((Below.refl _ W).alloc (Nat.le_refl _) o)
theorem Res.at0 {w0 : World} {g : Nat} {W : World} (h : Res w0 g W) : W.cell? ⟨g, 0, none⟩ = some (.int .u8 0) := cell_of_heap4 h.cell 0 _ rfl
theorem Res.at1 {w0 : World} {g : Nat} {W : World} (h : Res w0 g W) : W.cell? ⟨g, 1, none⟩ = some (.string ⟨#[]⟩) := cell_of_heap4 h.cell 1 _ rfl
theorem Res.at2 {w0 : World} {g : Nat} {W : World} (h : Res w0 g W) : W.cell? ⟨g, 2, none⟩ = some (.int .i64 0) := cell_of_heap4 h.cell 2 _ rfl
theorem Res.at3 {w0 : World} {g : Nat} {W : World} (h : Res w0 g W) : W.cell? ⟨g, 3, none⟩ = some (.int .i64 0) := cell_of_heap4 h.cell 3 _ rfl
theorem Res.free {w0 : World} {g : Nat} {W : World} (h : Res w0 g W) (j : Nat) : W.frozen? ⟨g, j, none⟩ = false := free_of_heap4 h.cell j
theorem Res.set {w0 : World} {g : Nat} {W : World} {v0 v1 v2 v3 : Value} (h : Res w0 g W) : Below w0.heap.size w0 ((((W.setCell ⟨g, 0, none⟩ v0).setCell ⟨g, 1, none⟩ v1).setCell ⟨g, 2, none⟩ v2).setCell ⟨g, 3, none⟩ v3) := four_set h.low h.ge
theorem own_word (s : ByteArray) (w : World) :
  Calls Tryz.prog 90 #[.string s] w fun e w' => e = .returned (.bool (wordB s)) /\ w = w' := by
 go_enter Tryz.func90, Tryz.ntmps90;go_wp2
 all_goals
  go_ret;refine ⟨ret_bool ?_, rfl⟩;unfold wordB wordsT
  first
   | (simp_all; done)
   | (simp_all; and_intros <;> (intro h; exact absurd h.symm (by assumption)))
theorem own_clone (s : ByteArray) (w : World) (hs : s.size <= 1000000000) : Calls Tryz.prog 89 #[.string s] w fun e w' => e = .returned (.string s) /\ Below w.heap.size w w' := by
 have c := fun w => Tryz.stringslite_Clone s w (by omega)
 go_enter Tryz.func89, Tryz.ntmps89;go_wp2_with fail;refine (c _).mono ?_;rintro e w1 ⟨rfl, b1⟩;go_wp2_with fail;go_ret;exact ⟨rfl, b1⟩
theorem repeat_eq : ∀ k, Lib.repeatL [61] k = List.replicate k 61
 | 0 => rfl
 | k + 1 => by rw [Lib.repeatL, repeat_eq k, List.replicate_succ]; rfl
theorem own_equals (k : Nat) (w : World) (hk : k <= 1000000000) :
  Calls Tryz.prog 17 #[.string ⟨#[61]⟩, .int .i64 k] w fun e w' => e = .returned (.string (eqT k)) /\ Below w.heap.size w w' := by
 refine (Tryz.strings_Repeat ⟨#[61]⟩ k w (by omega) (by show 1 * k <= _; omega)).mono ?_;rintro e w' ⟨rfl, h⟩;refine ⟨?_, h⟩;rw [show (ByteArray.mk #[61]).data.toList = [61] from rfl, repeat_eq]; rfl
theorem own_index (s t : ByteArray) (w : World) (hs : s.size <= 1000000000) (hv : LVars w) :
  Calls Tryz.prog 95 #[.string s, .string t] w fun e w' => e = .returned (.int .i64 (Lib.index s.data.toList t.data.toList)) /\ w = w' := by
 obtain ⟨m, hm⟩ := hv.most;refine (Tryz.strings_Index s t m w (by omega) hm).mono ?_;rintro e w' ⟨rfl, rfl⟩;exact ⟨rfl, rfl⟩
theorem own_trim (s t : ByteArray) (w : World) : Calls Tryz.prog 96 #[.string s, .string t] w fun e w' => e = .returned (.string ⟨(Lib.trimPrefix s.data.toList t.data.toList).toArray⟩) /\ w = w' := by
 refine (Tryz.strings_TrimPrefix s t w).mono ?_;rintro e w' ⟨rfl, rfl⟩;exact ⟨rfl, rfl⟩
theorem run_within {P : Program} (t : TypeId) (s : ByteArray) (x y : Int) (i j : Nat) (h : P.underlying t = some .string) (hij : i <= j) (hj : j <= s.size) (hx : x = i) (hy : y = j) (w : World) :
  (Instr.slice t (.string s) (some (.int .i64 x)) (some (.int .i64 y)) none).run P w = .ok (.string (s.extract i j)) w := run_slice_at t s x y i j h hij hj hx hy w
def longO (l : List UInt8) : One := match longL l with | some (some (t, n)) => ⟨5, ⟨t.toArray⟩, 0, n, 0⟩ | _ => ⟨0, ⟨#[]⟩, 0, 0, 30⟩
theorem brk_room {s : ByteArray} {k : Nat} (hb : brkB s.data.toList = true) (hk : eqsL (s.data.toList.drop 1) = k) : k + 2 <= s.size := by
 unfold brkB at hb;rw [hk, Bool.and_eq_true, decide_eq_true_eq, decide_eq_true_eq] at hb;rcases Nat.lt_or_ge (k + 1) s.size with h | h
 ·omega
 ·rw [hd_end h] at hb; omega
theorem close_size (k : Nat) : ((⟨#[93]⟩ : ByteArray) ++ eqT k ++ ⟨#[93]⟩).size = k + 2 := by
 rw [ByteArray.size_append, ByteArray.size_append, eqT_size, show (⟨#[93]⟩ : ByteArray).size = 1 from rfl]; omega
theorem longO_none {s : ByteArray} {k : Nat} (hb : brkB s.data.toList = true) (hk : eqsL (s.data.toList.drop 1) = k) (hi : Lib.index (s.data.toList.drop (k + 2)) (closeL k) = -1) : longO s.data.toList = ⟨0, ⟨#[]⟩, 0, 0, 30⟩ := by
 unfold longO;rw [long_brk, if_pos hb, hk, (body_index (by unfold closeL; simp) _ true 0 (fun _ => rfl)).1 hi]
 rfl
theorem longO_some {s : ByteArray} {k i : Nat} (hb : brkB s.data.toList = true) (hk : eqsL (s.data.toList.drop 1) = k) (hi : Lib.index (s.data.toList.drop (k + 2)) (closeL k) = i) :
  longO s.data.toList = ⟨5, ⟨(Lib.trimPrefix (plainL ((s.data.toList.drop (k + 2)).take i)) [10]).toArray⟩, 0, k + 2 + i + (k + 2), 0⟩ := by
 unfold longO;rw [long_brk, if_pos hb, hk, (body_index (by unfold closeL; simp) _ true 0 (fun _ => rfl)).2 i hi];simp only [Option.map_some];have : (closeL k).length = k + 2 := by unfold closeL; simp
 rw [this]
 congr 1
 omega
theorem own_longs (s : ByteArray) (k : Nat) (w : World) (hs : s.size <= 100000000) (hb : brkB s.data.toList = true) (hk : eqsL (s.data.toList.drop 1) = k) (hv : LVars w) :
  Calls Tryz.prog 49 #[.string s, .int .i64 k] w (OneSays (longO s.data.toList) w) := by
 have hroom := brk_room hb hk;have hlen : s.data.toList.length = s.size := rfl;have c1 := fun w => own_equals k w (by omega)
 have a1 := fun w => run_string_add_sum (P := Tryz.prog) (w := w) ⟨#[93]⟩ (eqT k) (by rw [eqT_size]; have : (⟨#[93]⟩ : ByteArray).size = 1 := rfl; omega)
 have a2 := fun w => run_string_add_sum (P := Tryz.prog) (w := w) (⟨#[93]⟩ ++ eqT k) ⟨#[93]⟩ (by rw [ByteArray.size_append, eqT_size]; have : (⟨#[93]⟩ : ByteArray).size = 1 := rfl; omega)
 have hC := close_list k;have hCs := close_size k;have hCi : ((((⟨#[93]⟩ : ByteArray) ++ eqT k ++ ⟨#[93]⟩).size : Nat) : Int) = (k : Int) + 2 := by omega
 generalize (⟨#[93]⟩ : ByteArray) ++ eqT k ++ ⟨#[93]⟩ = C at *;generalize (⟨#[93]⟩ : ByteArray) ++ eqT k = C1 at *;generalize eqT k = C0 at *;have hsl := run_behind (P := Tryz.prog) 9 s (C.size : Int) (k + 2) Tryz.underlying9 hroom (by omega);have hn := Lib.index_room (s.data.toList.drop (k + 2)) (closeL k);rw [List.length_drop, hlen] at hn;have hcl : (closeL k).length = k + 2 := by unfold closeL; simp
 have c2 := fun w => own_index (s.extract (k + 2) s.size) C w (by rw [behind_size]; omega)
 rw [behind_list, hC] at c2;have HV := qh hv;rcases index_ge (s.data.toList.drop (k + 2)) (closeL k) with hi | ⟨i, hi⟩
 ·have HO := qh (longO_none hb hk hi);rw [hi] at c2;clear hi hn hC hb hk hv;go_enter Tryz.func49, Tryz.ntmps49;go_wp2_with fail;refine (c1 _).mono ?_;rintro e w1 ⟨rfl, b1⟩;have R1 := qh ((Res.fresh w).below b1);clear b1;go_wp2_with fail;refine (c2 _ (HV.out.below R1.out.low)).mono ?_;rintro e w2 ⟨rfl, rfl⟩;have k0 := R1.out.at0;have k1 := R1.out.at1;have k2 := R1.out.at2;have k3 := R1.out.at3;have f0 := R1.out.free 0;have f1 := R1.out.free 1;have f2 := R1.out.free 2;have f3 := R1.out.free 3;go_wp2_with fail;refine bodyPost_ret (v := .tuple #[.agg #[.int .u8 0, .string ⟨#[]⟩, .int .i64 0, .int .i64 0], .int .i64 0, .int .i64 30]) (by simp [results, Tryz.results49, go_sem, k0, k1, k2, k3]) rfl ?_;exact one_says HO.out R1.out.set
 ·have HO := qh (longO_some hb hk hi);rw [hi] at c2;have hi2 : k + 2 + i + (k + 2) <= s.size := by omega
  have hii : (k : Int) + 2 + i + (k + 2) <= s.size := by omega
  have hsm : (s.size : Int) <= 100000000 := by omega
  have hs2 := run_within (P := Tryz.prog) 9 s (C.size : Int) ((C.size : Int) + (i : Int)) (k + 2) (k + 2 + i) Tryz.underlying9 (by omega) (by omega) (by omega) (by omega);have hpl : (s.extract (k + 2) (k + 2 + i)).data.toList = (s.data.toList.drop (k + 2)).take i := by rw [Lib.extract_data, show k + 2 + i - (k + 2) = i from by omega]
  have c3 := fun w => own_plain (s.extract (k + 2) (k + 2 + i)) w (by
   have : (s.extract (k + 2) (k + 2 + i)).data.toList.length <= s.size := by rw [hpl, List.length_take, List.length_drop, hlen]; omega
   exact Nat.le_trans this hs)
  rw [hpl] at c3;have c4 := fun w => own_trim ⟨(plainL ((s.data.toList.drop (k + 2)).take i)).toArray⟩ ⟨#[10]⟩ w
  rw [show (⟨(plainL ((s.data.toList.drop (k + 2)).take i)).toArray⟩ : ByteArray).data.toList = plainL ((s.data.toList.drop (k + 2)).take i) from rfl, show (⟨#[10]⟩ : ByteArray).data.toList = [10] from rfl] at c4;generalize (⟨(plainL ((s.data.toList.drop (k + 2)).take i)).toArray⟩ : ByteArray) = T at *;generalize (⟨(Lib.trimPrefix (plainL ((s.data.toList.drop (k + 2)).take i)) [10]).toArray⟩ : ByteArray) = U at *;have i0 : (0 : Int) <= i := by omega
  clear hi hn hC hb hk hv hpl;go_enter Tryz.func49, Tryz.ntmps49;go_wp2_with fail;refine (c1 _).mono ?_;rintro e w1 ⟨rfl, b1⟩;have R1 := qh ((Res.fresh w).below b1);clear b1;go_wp2_with fail;refine (c2 _ (HV.out.below R1.out.low)).mono ?_;rintro e w2 ⟨rfl, rfl⟩;go_wp2_with fail;refine (c3 _).mono ?_;rintro e w2 ⟨rfl, b2⟩;have R2 := qh (R1.out.below b2);clear b2;go_wp2_with fail;refine (c4 _).mono ?_;rintro e w3 ⟨rfl, rfl⟩;have k0 := R2.out.at0;have k1 := R2.out.at1;have k2 := R2.out.at2;have k3 := R2.out.at3;have f0 := R2.out.free 0;have f1 := R2.out.free 1;have f2 := R2.out.free 2;have f3 := R2.out.free 3;go_wp2_with fail;refine bodyPost_ret (v := .tuple #[.agg #[.int .u8 5, .string U, .int .i64 0, .int .i64 0], .int .i64 ((k + 2 + i + (k + 2) : Nat) : Int), .int .i64 0]) (by simp [results, Tryz.results49, go_sem, k0, k1, k2, k3]) rfl ?_;exact one_says HO.out R2.out.set
end Go.Proofs.YtnkejjlidgnkkaaGreatDoor.Lex
namespace Go.Proofs.YtnkejjlidgnkkaaGreatDoor.Lex

open Go.Lib renaming hid → qh
open Go.RowKit
def NextSays (o : One) (w : World) (e : Ending) (w' : World) : Prop :=
 ∃ (k : Nat) (t : ByteArray) (n len : Int), e = .returned (.tuple #[.agg #[.int .u8 k, .string t, .int .i64 n, .int .i64 0], .int .i64 len, .int .i64 (o.e : Nat)]) /\ (o.e = 0 -> o.k = k /\ o.s = t /\ o.n = n /\ len = o.len) /\ Below w.heap.size w w'
theorem next_says {o : One} {k : Nat} {t : ByteArray} {n len : Int} {e : Nat} {w w' : World} (he : e = o.e) (h : o.e = 0 -> o.k = k /\ o.s = t /\ o.n = n /\ len = o.len) (hb : Below w.heap.size w w') :
  NextSays o w (.returned (.tuple #[.agg #[.int .u8 k, .string t, .int .i64 n, .int .i64 0], .int .i64 len, .int .i64 (e : Nat)])) w' := by
 subst he;exact ⟨k, t, n, len, rfl, h, hb⟩
def noteO (l : List UInt8) : One := match noteL l with | some (m + 1) => ⟨0, ⟨#[]⟩, 0, m + 1, 0⟩ | _ => ⟨0, ⟨#[]⟩, 0, 0, 30⟩
theorem noteO_long {l : List UInt8} (hp : ([45, 45] : List UInt8).isPrefixOf l = true) (hb : brkB (l.drop 2) = true) :
  noteO l = if (longO (l.drop 2)).e = 0 then ⟨0, ⟨#[]⟩, 0, 2 + (longO (l.drop 2)).len, 0⟩ else ⟨0, ⟨#[]⟩, 0, 0, 30⟩ := by
 unfold noteO noteL;rw [if_pos hp];unfold longO;cases h : longL (l.drop 2) with
 | none => rw [long_brk, if_pos hb] at h; cases h
 | some x =>
  cases x with
  | none => rfl
  | some x =>
   obtain ⟨t, n⟩ := x;simp only [if_true]
   congr 1
   omega
theorem longO_e (l : List UInt8) : (longO l).e = 0 \/ (longO l).e = 30 := by
 unfold longO
 split
 ·exact .inl rfl
 ·exact .inr rfl
theorem longO_le (l : List UInt8) : (longO l).len <= l.length := by
 unfold longO
 split
 ·rename_i h; exact long_le h
 ·exact Nat.zero_le _
theorem line_two {l : List UInt8} (hp : ([45, 45] : List UInt8).isPrefixOf l = true) : 2 <= lineRun l := by
 cases l with
 | nil => cases hp
 | cons a r =>
  cases r with
  | nil => simp at hp
  | cons b r =>
   have h : ((45 : UInt8) == a && ((45 : UInt8) == b && true)) = true := hp;simp only [Bool.and_true, Bool.and_eq_true, beq_iff_eq] at h;obtain ⟨rfl, rfl⟩ := h;rw [lineRun, if_neg (by decide), lineRun, if_neg (by decide)];omega
theorem noteO_line {l : List UInt8} (hp : ([45, 45] : List UInt8).isPrefixOf l = true) (hb : brkB (l.drop 2) = false) : noteO l = ⟨0, ⟨#[]⟩, 0, lineRun l, 0⟩ := by
 have h2 := line_two hp;unfold noteO noteL;rw [if_pos hp, long_brk, if_neg (by rw [hb]; decide)];obtain ⟨m, hm⟩ : ∃ m, lineRun l = m + 1 := ⟨lineRun l - 1, by omega⟩;simp only [hm]
theorem own_note (s : ByteArray) (w : World) (hs : s.size <= 100000000) (hp : ([45, 45] : List UInt8).isPrefixOf s.data.toList = true) (hv : LVars w) :
  Calls Tryz.prog 44 #[.string s] w (NextSays (noteO s.data.toList) w) := by
 have hlen : s.data.toList.length = s.size := rfl;have h2 : 2 <= s.size := prefix_le hp;have hsl := run_behind (P := Tryz.prog) 9 s 2 2 Tryz.underlying9 h2 rfl;have c1 := fun w => own_bracket (s.extract 2 s.size) w (by rw [behind_size]; omega)
 have HV := qh hv;cases hb : brkB (s.data.toList.drop 2)
 ·have c2 := fun w => span_pure s 86 (fun b => !lfB b) w (by omega) (enters_of Tryz.func86 (by kernel_rfl) rfl) (fun b w hb => own_inline b w hb)
  rw [<- line_run] at c2;have hle := lineRun_le s.data.toList;have HO := qh (noteO_line hp hb);unfold BrkSays brkK at c1;rw [behind_list, hb, if_neg (by decide)] at c1;generalize noteO s.data.toList = O at *;generalize lineRun s.data.toList = n at *;clear hb hp hv;go_enter Tryz.func44, Tryz.ntmps44;go_wp2_with fail;refine (c1 _).mono ?_;rintro e w1 ⟨rfl, rfl⟩;go_wp2_with fail;refine (c2 _).mono ?_;rintro e w1 ⟨rfl, rfl⟩;have R1 := qh (Res.fresh w);have k0 := R1.out.at0;have k1 := R1.out.at1;have k2 := R1.out.at2;have k3 := R1.out.at3;have f0 := R1.out.free 0;have f1 := R1.out.free 1;have f2 := R1.out.free 2;have f3 := R1.out.free 3;go_wp2_with fail;refine bodyPost_ret (v := .tuple #[.agg #[.int .u8 0, .string ⟨#[]⟩, .int .i64 0, .int .i64 0], .int .i64 (n : Nat), .int .i64 0]) (by simp [results, Tryz.results44, go_sem, k0, k1, k2, k3]) rfl ?_;exact next_says (k := 0) (e := 0) (by rw [HO.out]) (fun _ => by rw [HO.out]; exact ⟨rfl, rfl, rfl, rfl⟩) R1.out.low
 ·have c2 := fun w hv => own_longs (s.extract 2 s.size) (eqsL ((s.data.toList.drop 2).drop 1)) w (by rw [behind_size]; omega) (by rw [behind_list]; exact hb) (by rw [behind_list]) hv
  have HO := qh (noteO_long hp hb);have he := longO_e (s.data.toList.drop 2);have hle := longO_le (s.data.toList.drop 2);rw [List.length_drop, hlen] at hle;unfold BrkSays brkK at c1;rw [behind_list, hb, if_pos rfl] at c1;rw [behind_list] at c2;unfold OneSays at c2;generalize noteO s.data.toList = O at *;generalize eqsL ((s.data.toList.drop 2).drop 1) = K at *;generalize longO (s.data.toList.drop 2) = L at *;obtain ⟨k, t, n, len, x⟩ := L
  dsimp only at he hle c2 HO
  have hl' : (len : Int) + 2 <= s.size := by omega
  have hsm : (s.size : Int) <= 100000000 := by omega
  clear hb hp hv;go_enter Tryz.func44, Tryz.ntmps44;go_wp2_with fail;refine (c1 _).mono ?_;rintro e w1 ⟨rfl, rfl⟩;have R0 := qh (Res.fresh w);go_wp2_with fail;refine (c2 _ (HV.out.below R0.out.low)).mono ?_;rintro e w1 ⟨rfl, b1⟩;have R1 := qh ((R0.out.below b1).alloc (.cells #[.int .u8 k, .string t, .int .i64 n, .int .i64 0] 55));clear b1;have k0 := R1.out.at0;have k1 := R1.out.at1;have k2 := R1.out.at2;have k3 := R1.out.at3;have f0 := R1.out.free 0;have f1 := R1.out.free 1;have f2 := R1.out.free 2;have f3 := R1.out.free 3;go_wp2_with fail;refine bodyPost_ret (v := .tuple #[.agg #[.int .u8 0, .string ⟨#[]⟩, .int .i64 0, .int .i64 0], .int .i64 (2 + (len : Int)), .int .i64 (x : Nat)]) (by simp [results, Tryz.results44, go_sem, k0, k1, k2, k3]) rfl ?_;refine next_says (k := 0) ?_ (fun h0 => ?_) R1.out.set
  ·rw [HO.out];rcases he with rfl | rfl <;> rfl
  ·rw [HO.out] at h0 ⊢;rcases he with rfl | rfl
   ·exact ⟨rfl, rfl, rfl, rfl⟩
   ·cases h0
theorem own_name (s : ByteArray) (w : World) (hs : s.size <= 100000000) (hn : letterB (hd s.data.toList) = true) :
  Calls Tryz.prog 46 #[.string s] w (OneSays ⟨if wordB (nameT s.data.toList) = true then 2 else 1, nameT s.data.toList, 0, nameL s.data.toList, 0⟩ w) := by
 have hlen : s.data.toList.length = s.size := rfl;have hL : nameL s.data.toList = nameRun s.data.toList := by rw [nameL, if_pos hn]
 have c1 := fun w => span_pure s 88 (fun b => letterB b || digitB b) w (by omega) (enters_of Tryz.func88 (by kernel_rfl) rfl) (fun b w hb => own_inname b w hb)
 rw [<- name_run] at c1;have hle := name_le s.data.toList;have hsl := run_ahead (P := Tryz.prog) 9 s (nameRun s.data.toList) Tryz.underlying9 (by omega) (nameRun s.data.toList : Nat) rfl;have hT : s.extract 0 (nameRun s.data.toList) = nameT s.data.toList := by
  have := take_extract (s := s) (i := 0) (n := nameRun s.data.toList);rw [Nat.zero_add, List.drop_zero] at this;rw [this, nameT, hL]
 have hTs : (s.extract 0 (nameRun s.data.toList)).size <= 1000000000 := by rw [ahead_size s _ (by omega)]; omega
 rw [hL];rw [hT] at hsl hTs;generalize nameT s.data.toList = T at *;generalize nameRun s.data.toList = n at *;have c2 := fun w => own_clone T w hTs
 have c3 := fun w => own_word T w
 generalize wordB T = wb at *;clear hT hL hn;cases wb
 ·go_enter Tryz.func46, Tryz.ntmps46;go_wp2_with fail;refine (c1 _).mono ?_;rintro e w1 ⟨rfl, rfl⟩;go_wp2_with fail;refine (c2 _).mono ?_;rintro e w1 ⟨rfl, b1⟩;have R1 := qh (((Res.fresh w).below b1).alloc (.cells #[.int .u8 1, .string T, .int .i64 0, .int .i64 0] 55));have hB := heap_alloc_new w1 (.cells #[.int .u8 1, .string T, .int .i64 0, .int .i64 0] 55);clear b1;go_wp2_with fail;refine (c3 _).mono ?_;rintro e w2 ⟨rfl, rfl⟩;have k0 := R1.out.at0;have k1 := R1.out.at1;have k2 := R1.out.at2;have k3 := R1.out.at3;have f0 := R1.out.free 0;have f1 := R1.out.free 1;have f2 := R1.out.free 2;have f3 := R1.out.free 3;have l0 := cell_of_heap4 hB 0 (.int .u8 1) rfl;have l1 := cell_of_heap4 hB 1 (.string T) rfl;have l2 := cell_of_heap4 hB 2 (.int .i64 0) rfl;have l3 := cell_of_heap4 hB 3 (.int .i64 0) rfl;have g0 := free_of_heap4 hB 0;go_wp2_with fail;refine bodyPost_ret (v := .tuple #[.agg #[.int .u8 1, .string T, .int .i64 0, .int .i64 0], .int .i64 n, .int .i64 0]) (by simp [results, Tryz.results46, go_sem, k0, k1, k2, k3]) rfl ?_;exact one_says rfl R1.out.set
 ·go_enter Tryz.func46, Tryz.ntmps46;go_wp2_with fail;refine (c1 _).mono ?_;rintro e w1 ⟨rfl, rfl⟩;go_wp2_with fail;refine (c2 _).mono ?_;rintro e w1 ⟨rfl, b1⟩;have R1 := qh (((Res.fresh w).below b1).alloc (.cells #[.int .u8 1, .string T, .int .i64 0, .int .i64 0] 55));have R2 := qh (((Res.fresh w).below b1).alloc (.cells #[.int .u8 2, .string T, .int .i64 0, .int .i64 0] 55));have hB := heap_alloc_new w1 (.cells #[.int .u8 1, .string T, .int .i64 0, .int .i64 0] 55);clear b1;go_wp2_with fail;refine (c3 _).mono ?_;rintro e w2 ⟨rfl, rfl⟩;have k0 := R1.out.at0;have k1 := R1.out.at1;have k2 := R1.out.at2;have k3 := R1.out.at3;have f0 := R1.out.free 0;have f1 := R1.out.free 1;have f2 := R1.out.free 2;have f3 := R1.out.free 3;have m0 := R2.out.at0;have m1 := R2.out.at1;have m2 := R2.out.at2;have m3 := R2.out.at3;have n0 := R2.out.free 0;have n1 := R2.out.free 1;have n2 := R2.out.free 2;have n3 := R2.out.free 3;have l0 := cell_of_heap4 hB 0 (.int .u8 1) rfl;have l1 := cell_of_heap4 hB 1 (.string T) rfl;have l2 := cell_of_heap4 hB 2 (.int .i64 0) rfl;have l3 := cell_of_heap4 hB 3 (.int .i64 0) rfl;have g0 := free_of_heap4 hB 0;go_wp2_with fail;refine bodyPost_ret (v := .tuple #[.agg #[.int .u8 2, .string T, .int .i64 0, .int .i64 0], .int .i64 n, .int .i64 0]) (by simp [results, Tryz.results46, go_sem, m0, m1, m2, m3]) rfl ?_;exact one_says rfl R2.out.set
theorem run_index_agg {P : Program} (t e : TypeId) (n : Nat) (cs : Array Value) (k : Nat) (v : Value) (h : P.underlying t = some (.array n e)) (ha : ∀ w, (isAgg e).run P w = .ok false w) (hz : ∀ w, (sizeOf e).run P w = .ok 1 w)
  (hk : k < n) (hv : cs[k]? = some v) (x : Int) (hx : x = k) (w : World) : (Instr.index t (.agg cs) (.int .i64 x)).run P w = .ok v w := by
 subst hx;have h1 : (0 : Int) <= (k : Int) /\ (k : Int) < (n : Int) := by omega
 simp [Instr.index, asIntOf, run_underlying h, h1, part, ha, hz, hv, go_sem];exact fun g => by omega
theorem best_ge (l : List UInt8) : ∀ (ts : List ByteArray) (b : ByteArray), b.size <= (bestL l ts b).size /\ ∀ t ∈ ts, t.data.toList.isPrefixOf l = true -> t.size <= (bestL l ts b).size
 | [], b => ⟨Nat.le_refl _, fun t h => by cases h⟩
 | u :: ts, b => by
  rw [bestL];obtain ⟨h1, h2⟩ := best_ge l ts (if (u.data.toList.isPrefixOf l && decide (b.size < u.size)) = true then u else b);refine ⟨Nat.le_trans ?_ h1, fun t ht hp => ?_⟩
  ·split
   ·rename_i hc;rw [Bool.and_eq_true, decide_eq_true_eq] at hc;omega
   ·exact Nat.le_refl _
  ·rcases List.mem_cons.1 ht with rfl | ht
   ·refine Nat.le_trans ?_ h1;rw [hp, Bool.true_and]
    split
    ·exact Nat.le_refl _
    ·rename_i hc;have : ¬ b.size < t.size := by simpa using hc
     omega
   ·exact h2 t ht hp
theorem best_in (l : List UInt8) : ∀ (ts : List ByteArray) (b : ByteArray), bestL l ts b = b \/ (bestL l ts b ∈ ts /\ (bestL l ts b).data.toList.isPrefixOf l = true)
 | [], b => .inl rfl
 | u :: ts, b => by
  rw [bestL];rcases best_in l ts (if (u.data.toList.isPrefixOf l && decide (b.size < u.size)) = true then u else b) with h | ⟨h1, h2⟩
  ·rw [h]
   split
   ·rename_i hc;rw [Bool.and_eq_true] at hc;exact .inr ⟨List.mem_cons_self, hc.1⟩
   ·exact .inl rfl
  ·exact .inr ⟨List.mem_cons_of_mem _ h1, h2⟩
theorem prefix_same {a b l : List UInt8} (ha : a.isPrefixOf l = true) (hb : b.isPrefixOf l = true) (h : a.length = b.length) : a = b := by
 rw [List.isPrefixOf_iff_prefix] at ha hb;rw [List.prefix_iff_eq_take.1 ha, List.prefix_iff_eq_take.1 hb, h]
theorem signs_least : ∀ k (h : k < 31), 1 <= (signsT[k]'h).size := by decide
def SAt (l : List UInt8) (n k : Nat) : Prop := ∀ j (h : j < 31), (n < (signsT[j]'h).size \/ ((signsT[j]'h).size = n /\ j < k)) -> (signsT[j]'h).data.toList.isPrefixOf l = false
theorem SAt.start (l : List UInt8) : SAt l 3 0 := fun j h hj => by have := signs_small j h; omega
theorem SAt.more {l : List UInt8} {n k : Nat} (h : SAt l n k) (hk : k < 31) (hc : (signsT[k]'hk).size ≠ n \/ (signsT[k]'hk).data.toList.isPrefixOf l = false) : SAt l n (k + 1) := fun j hj g => by
 by_cases e : j = k
 ·subst e;rcases hc with hc | hc
  ·exact h j hj (by omega)
  ·exact hc
 ·exact h j hj (by omega)
theorem SAt.down {l : List UInt8} {n : Nat} (h : SAt l (n + 1) 31) : SAt l n 0 := fun j hj g => h j hj (by omega)
theorem SAt.hit {l : List UInt8} {n k : Nat} (h : SAt l n k) (hk : k < 31) (hn : (signsT[k]'hk).size = n) (hp : (signsT[k]'hk).data.toList.isPrefixOf l = true) : signT l = signsT[k]'hk := by
 have h1 := signs_least k hk;have hg := (best_ge l signsT ⟨#[]⟩).2 _ (List.getElem_mem hk) hp;rcases best_in l signsT ⟨#[]⟩ with e | ⟨hm, hp2⟩
 ·rw [e] at hg;have : (⟨#[]⟩ : ByteArray).size = 0 := rfl;omega
 ·obtain ⟨j, hj, e⟩ := List.getElem_of_mem hm;have hle : (bestL l signsT ⟨#[]⟩).size <= n := by
   rcases Nat.lt_or_ge n (bestL l signsT ⟨#[]⟩).size with hlt | hge
   ·have := h j hj (.inl (by rw [e]; exact hlt));rw [e, hp2] at this; cases this
   ·exact hge
  have := prefix_same hp2 hp (show (bestL l signsT ⟨#[]⟩).size = (signsT[k]'hk).size by omega)
  apply ByteArray.ext
  apply Array.ext'
  exact this
theorem SAt.none {l : List UInt8} (h : SAt l 0 0) : (signT l).size = 0 := by
 rcases best_in l signsT ⟨#[]⟩ with e | ⟨hm, hp2⟩
 ·rw [signT, e]; rfl
 ·obtain ⟨j, hj, e⟩ := List.getElem_of_mem hm;have h1 := signs_least j hj;have := h j hj (.inl (by omega));rw [e, hp2] at this; cases this
def signP (l : List UInt8) : One := if ([91, 61] : List UInt8).isPrefixOf l = true then ⟨0, ⟨#[]⟩, 0, 0, 30⟩ else signO l
theorem signP_hit {l : List UInt8} {u : ByteArray} (hp : ([91, 61] : List UInt8).isPrefixOf l = false) (h : signT l = u) (h1 : 1 <= u.size) : signP l = ⟨3, u, 0, u.size, 0⟩ := by
 unfold signP signO;rw [hp, if_neg (by decide), h, if_neg (by omega)]
theorem signP_none {l : List UInt8} (hp : ([91, 61] : List UInt8).isPrefixOf l = false) (h : (signT l).size = 0) : signP l = if hd l = 47 \/ hd l = 94 then ⟨0, ⟨#[]⟩, 0, 0, 31⟩ else ⟨0, ⟨#[]⟩, 0, 0, 30⟩ := by
 unfold signP signO;rw [hp, if_neg (by decide), if_pos h]
theorem own_sign (s : ByteArray) (w : World) (h0 : 0 < s.size) (hv : LVars w) :
  Calls Tryz.prog 51 #[.string s] w (OneSays (signP s.data.toList) w) := by
 have p1 := fun w => has_any s ⟨#[91, 61]⟩ w
 rw [show (⟨#[91, 61]⟩ : ByteArray).data.toList = [91, 61] from rfl] at p1;have HV := qh hv;have R1 := qh (Res.fresh w);have hx := run_index_at (P := Tryz.prog) 9 s 0 0 Tryz.underlying9 h0 rfl;have hh := hd_at h0;rw [List.drop_zero] at hh;have HH := qh hh;clear hv hh;have k0 := R1.out.at0;have k1 := R1.out.at1;have k2 := R1.out.at2;have k3 := R1.out.at3;have f0 := R1.out.free 0;have f1 := R1.out.free 1;have f2 := R1.out.free 2;have f3 := R1.out.free 3;obtain ⟨T, fr, hg⟩ := (HV.out.below R1.out.low).signs;cases hp : ([91, 61] : List UInt8).isPrefixOf s.data.toList
 ·rw [hp] at p1;have HIT := qh (fun u => signP_hit (l := s.data.toList) (u := u) hp);have NON := qh (signP_none hp);clear hp;go_enter Tryz.func51, Tryz.ntmps51;go_wp2_with fail;refine (p1 _).mono ?_;rintro e w1 ⟨rfl, rfl⟩;generalize hW : w.alloc (.cells #[.int .u8 0, .string ⟨#[]⟩, .int .i64 0, .int .i64 0] 55) = W at *;clear hW p1;go_wp2_with fail;go_loopg [5] 3 (fun r x wr => ∃ m n : Nat, r = 3 - m /\ n + m = 3 /\ x = .int .i64 (n : Int) /\ wr = W /\ SAt s.data.toList n 0)
  case atStart => exact ⟨0, 3, rfl, by omega, rfl, rfl, SAt.start _⟩
  case round =>
   obtain ⟨z, n, rfl, hn3, rfl, rfl, hS⟩ := hrel;have HS := qh hS;clear hS;by_cases hn0 : 0 < n
   ·have hn0' : (0 : Int) < n := by omega
    go_wp2_with (refine wpList_load_row rfl 124 _ rfl 0 rfl T _ fr _ hg Tryz.underlying124 rfl (by kernel_rfl) ?_);generalize hcs : (signsT.map Value.string).toArray = cs at *;have HCS := qh hcs;clear hcs;go_loopg [16] 31 (fun r x wq => ∃ k : Nat, r = 31 - k /\ k <= 31 /\ x = .int .i64 (k : Int) /\ wq = wr /\ SAt s.data.toList n k)
    case atStart => exact ⟨0, rfl, by omega, rfl, rfl, HS.out⟩
    case round =>
     obtain ⟨k, rfl, hk, rfl, rfl, hT⟩ := hrel;have HT := qh hT;clear hT;by_cases hk31 : k < 31
     ·have hix := run_index_agg (P := Tryz.prog) 124 9 31 cs k (.string (signsT[k]'hk31)) Tryz.underlying124 Tryz.isAgg9 Tryz.sizeOf9 hk31 (by rw [<- HCS.out]; simp; exact List.getElem?_eq_getElem (show k < signsT.length from hk31)) (k : Int) rfl;have hsz := signs_small k hk31;have h1 := signs_least k hk31;have MORE := qh (HT.out.more hk31);have HHIT := qh (HT.out.hit hk31);generalize signsT[k]'hk31 = u at *;by_cases hun : u.size = n
      ·have t1 : ((u.size : Int) == (n : Int)) = true := by rw [beq_iff_eq]; omega
       have p2 := fun w => has_any s u w
       cases hp : u.data.toList.isPrefixOf s.data.toList
       ·rw [hp] at p2;have HQ := qh (MORE.out (.inr hp));clear MORE HHIT hp;go_wp2_with fail;refine (p2 _).mono ?_;rintro e w1 ⟨rfl, rfl⟩;go_wp2_with fail;go_roundg (31 - (k + 1))
        case measure => omega
        case rel => exact ⟨k + 1, by omega, by omega, by go_num, rfl, HQ.out⟩
       ·rw [hp] at p2;have HQ := qh (HIT.out u (HHIT.out hun hp) h1);clear MORE HHIT hp;go_wp2_with fail;refine (p2 _).mono ?_;rintro e w1 ⟨rfl, rfl⟩;go_wp2_with fail;refine bodyPost_ret (v := .tuple #[.agg #[.int .u8 3, .string u, .int .i64 0, .int .i64 0], .int .i64 u.size, .int .i64 0]) (by simp [results, Tryz.results51, go_sem, k0, k1, k2, k3]; omega) rfl ?_;exact one_says HQ.out R1.out.set
      ·have t1 : ((u.size : Int) == (n : Int)) = false := by rw [beq_eq_false_iff_ne]; omega
       have HQ := qh (MORE.out (.inl hun));clear MORE HHIT;go_wp2_with fail;go_roundg (31 - (k + 1))
       case measure => omega
       case rel => exact ⟨k + 1, by omega, by omega, by go_num, rfl, HQ.out⟩
     ·obtain rfl : k = 31 := by omega
      obtain ⟨m, rfl⟩ : ∃ m, n = m + 1 := ⟨n - 1, by omega⟩;have HD := qh HT.out.down;go_wp2_with fail;go_roundg (3 - (z + 1))
      case measure => omega
      case rel => exact ⟨z + 1, m, rfl, by omega, by go_num, rfl, HD.out⟩
   ·obtain rfl : n = 0 := by omega
    have HN := qh (NON.out HS.out.none);rw [HH.out] at HN;clear NON HIT HH;by_cases h47 : byteAt s 0 = 47
    ·have t1 : (((byteAt s 0 : Nat) : Int) == 47) = true := by rw [h47]; rfl
     rw [if_pos (.inl h47)] at HN;clear h47;generalize byteAt s 0 = b at *;go_wp2_with fail;refine bodyPost_ret (v := .tuple #[.agg #[.int .u8 0, .string ⟨#[]⟩, .int .i64 0, .int .i64 0], .int .i64 0, .int .i64 31]) (by simp [results, Tryz.results51, go_sem, k0, k1, k2, k3]) rfl ?_;exact one_says HN.out R1.out.set
    ·have t1 : (((byteAt s 0 : Nat) : Int) == 47) = false := by rw [beq_eq_false_iff_ne]; omega
     by_cases h94 : byteAt s 0 = 94
     ·have t2 : (((byteAt s 0 : Nat) : Int) == 94) = true := by rw [h94]; rfl
      rw [if_pos (.inr h94)] at HN;clear h47 h94;generalize byteAt s 0 = b at *;go_wp2_with fail;refine bodyPost_ret (v := .tuple #[.agg #[.int .u8 0, .string ⟨#[]⟩, .int .i64 0, .int .i64 0], .int .i64 0, .int .i64 31]) (by simp [results, Tryz.results51, go_sem, k0, k1, k2, k3]) rfl ?_;exact one_says HN.out R1.out.set
     ·have t2 : (((byteAt s 0 : Nat) : Int) == 94) = false := by rw [beq_eq_false_iff_ne]; omega
      rw [if_neg (by omega)] at HN;clear h47 h94;generalize byteAt s 0 = b at *;go_wp2_with fail;refine bodyPost_ret (v := .tuple #[.agg #[.int .u8 0, .string ⟨#[]⟩, .int .i64 0, .int .i64 0], .int .i64 0, .int .i64 30]) (by simp [results, Tryz.results51, go_sem, k0, k1, k2, k3]) rfl ?_;exact one_says HN.out R1.out.set
 ·rw [hp] at p1;have HO := qh (show signP s.data.toList = ⟨0, ⟨#[]⟩, 0, 0, 30⟩ by unfold signP; rw [if_pos hp]);clear hp;go_enter Tryz.func51, Tryz.ntmps51;go_wp2_with fail;refine (p1 _).mono ?_;rintro e w1 ⟨rfl, rfl⟩;go_wp2_with fail;refine bodyPost_ret (v := .tuple #[.agg #[.int .u8 0, .string ⟨#[]⟩, .int .i64 0, .int .i64 0], .int .i64 0, .int .i64 30]) (by simp [results, Tryz.results51, go_sem, k0, k1, k2, k3]) rfl ?_;exact one_says HO.out R1.out.low
end Go.Proofs.YtnkejjlidgnkkaaGreatDoor.Lex
