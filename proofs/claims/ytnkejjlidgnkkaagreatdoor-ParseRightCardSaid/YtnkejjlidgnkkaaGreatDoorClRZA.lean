/-
  A part of the proof.
-/
import Derived.WalkMore
import Derived.Deep.LoopGhost
import Derived.Lib.Hide
import Derived.Test.YtnkejjlidgnkkaaGreatDoorClRA
import Derived.Test.YtnkejjlidgnkkaaGreatDoorClRX
import Derived.Test.YtnkejjlidgnkkaaGreatDoorClRZ
set_option maxRecDepth 100000
set_option maxHeartbeats 40000000
namespace Go.Proofs.YtnkejjlidgnkkaaGreatDoor

open Go.Lib renaming hid → qh
open Go.RowKit
theorem own_hex (b : Nat) (w : World) (hb : b < 256) :
  Calls Tryz.prog 154 #[.int .u8 b] w fun e w' => e = .returned (.tuple #[.int .i64 (hexV b), .bool (hexB b)]) /\ w = w' := Num.runes_hex b w hb
theorem own_space (b : Nat) (w : World) (hb : b < 256) :
  Calls Tryz.prog 42 #[.int .u8 b] w fun e w' => e = .returned (.bool (spaceB b)) /\ w = w' := Num.runes_space b w hb
theorem own_digit (b : Nat) (w : World) (hb : b < 256) :
  Calls Tryz.prog 47 #[.int .u8 b] w fun e w' => e = .returned (.bool (digitB b)) /\ w = w' := Num.runes_digit b w hb
theorem has1 (r : ByteArray) (a : UInt8) : Lib.hasPrefix r.data.toList [a] = isB r 0 a.toNat := by
 rw [isB_starts, List.drop_zero];unfold Lib.hasPrefix;cases r.data.toList with
 | nil => rfl
 | cons c t =>
  rw [startsWith, Bool.eq_iff_iff];simp only [List.isPrefixOf, Bool.and_true, beq_iff_eq, decide_eq_true_eq];exact ⟨fun h => by rw [h], fun h => UInt8.toNat_inj.1 h.symm⟩
theorem has2 (r : ByteArray) (a b : UInt8) : Lib.hasPrefix r.data.toList [a, b] = (isB r 0 a.toNat && isB r 1 b.toNat) := by
 rw [isB_starts, isB_starts, List.drop_zero];unfold Lib.hasPrefix;cases r.data.toList with
 | nil => rfl
 | cons c t =>
  rw [List.drop_one, List.tail_cons, startsWith];cases t with
  | nil => simp [List.isPrefixOf, startsWith]
  | cons d u =>
   rw [startsWith, Bool.eq_iff_iff];simp only [List.isPrefixOf, Bool.and_true, beq_iff_eq, decide_eq_true_eq, Bool.and_eq_true];exact ⟨fun ⟨h, h'⟩ => ⟨by rw [h], by rw [h']⟩, fun ⟨h, h'⟩ => ⟨UInt8.toNat_inj.1 h.symm, UInt8.toNat_inj.1 h'.symm⟩⟩
theorem prefix_is (s p : ByteArray) (x : Bool) (w : World) (h : Lib.hasPrefix s.data.toList p.data.toList = x) :
  Calls Tryz.prog 35 #[.string s, .string p] w fun e w' => e = .returned (.bool x) /\ w = w' := by
 subst h;exact (Tryz.strings_HasPrefix s p w).mono fun _ _ ⟨h, h'⟩ => ⟨h, h'.symm⟩
theorem own_line (r : ByteArray) (w : World) (h : 0 < r.size) (hb : byteAt r 0 = 10 \/ byteAt r 0 = 13) :
  Calls Tryz.prog 165 #[.string r] w fun e w' => e = .returned (.int .i64 (lineK r)) /\ w = w' := by
 have p1 := has2 r 10 13;have p2 := has2 r 13 10;have i1 : ∀ b, isB r 0 b = decide (byteAt r 0 = b) := fun b => by unfold isB; rw [decide_eq_true h, Bool.true_and]
 have n1 : (10 : UInt8).toNat = 10 := rfl;have n2 : (13 : UInt8).toNat = 13 := rfl;rw [i1, n1, n2] at p1 p2;have hl : lineK r = if isB r 1 (23 - byteAt r 0) = true then 2 else 1 := rfl;generalize byteAt r 0 = b at *;rcases hb with rfl | rfl
 ·rw [decide_eq_true rfl, Bool.true_and] at p1;rw [decide_eq_false (by decide), Bool.false_and] at p2;have c1 := fun w => prefix_is r ⟨#[10, 13]⟩ _ w p1
  have c2 := fun w => prefix_is r ⟨#[13, 10]⟩ _ w p2
  rw [show 23 - 10 = 13 from rfl] at hl;cases hi : isB r 1 13
  ·rw [hi] at hl c1;have HL := qh hl;clear hl p1 p2 i1 hi n1 n2;go_enter Tryz.func165, Tryz.ntmps165;go_wp2_with fail;refine (c1 _).mono ?_;rintro e w1 ⟨rfl, rfl⟩;go_wp2_with fail;refine (c2 _).mono ?_;rintro e w1 ⟨rfl, rfl⟩;go_wp2;go_ret;exact ⟨ret_i64 (by rw [HL.out]; rfl), rfl⟩
  ·rw [hi] at hl c1;have HL := qh hl;clear hl p1 p2 i1 hi n1 n2;go_enter Tryz.func165, Tryz.ntmps165;go_wp2_with fail;refine (c1 _).mono ?_;rintro e w1 ⟨rfl, rfl⟩;go_wp2;go_ret;exact ⟨ret_i64 (by rw [HL.out]; rfl), rfl⟩
 ·rw [decide_eq_true rfl, Bool.true_and] at p2;rw [decide_eq_false (by decide), Bool.false_and] at p1;have c1 := fun w => prefix_is r ⟨#[10, 13]⟩ _ w p1
  have c2 := fun w => prefix_is r ⟨#[13, 10]⟩ _ w p2
  rw [show 23 - 13 = 10 from rfl] at hl;cases hi : isB r 1 10
  all_goals
   rw [hi] at hl c2;have HL := qh hl;clear hl p1 p2 i1 hi n1 n2;go_enter Tryz.func165, Tryz.ntmps165;go_wp2_with fail;refine (c1 _).mono ?_;rintro e w1 ⟨rfl, rfl⟩;go_wp2_with fail;refine (c2 _).mono ?_;rintro e w1 ⟨rfl, rfl⟩;go_wp2;go_ret;exact ⟨ret_i64 (by rw [HL.out]; rfl), rfl⟩
theorem own_blanks (r : ByteArray) (w : World) (hs : r.size <= 1000000000) :
  Calls Tryz.prog 168 #[.string r] w fun e w' => e = .returned (.int .i64 (blanks r.data.toList : Nat)) /\ w = w' := by
 go_enter Tryz.func168, Tryz.ntmps168;go_wp2;go_loop [3] (fun i => ∃ k : Nat, k <= r.size /\ i = .int .i64 k /\ k + blanks (r.data.toList.drop k) = blanks r.data.toList) (fun i => r.size - (intOf i).toNat)
 case atStart => exact ⟨0, by omega, rfl, by rw [List.drop_zero, Nat.zero_add]⟩
 case round =>
  obtain ⟨k, hk, rfl, ha⟩ := hrel;by_cases hlt : k < r.size
  ·have hlt' : (k : Int) < r.size := by omega
   have hx := run_index_at (P := Tryz.prog) 9 r (k : Int) k Tryz.underlying9 hlt rfl;have cs := fun w => own_space (byteAt r k) w (byteAt_lt r k)
   have hyes := blanks_yes hlt;have hno := blanks_no hlt;generalize byteAt r k = b at *;cases hb : spaceB b
   ·have HA := qh (show k = blanks r.data.toList by rw [<- ha, hno hb, Nat.add_zero]);rw [hb] at cs;clear ha hyes hno hb;go_wp2_with fail;refine (cs _).mono ?_;rintro e w1 ⟨rfl, rfl⟩;go_wp2;go_ret;exact ⟨ret_i64 (by rw [<- HA.out]), rfl⟩
   ·have HA := qh (show (k + 1) + blanks (r.data.toList.drop (k + 1)) = blanks r.data.toList by rw [<- ha, hyes hb]; omega);rw [hb] at cs;clear ha hyes hno hb;go_wp2_with fail;refine (cs _).mono ?_;rintro e w1 ⟨rfl, rfl⟩;go_wp2;go_round
    case rel => exact ⟨k + 1, by omega, by go_num, HA.out⟩
    case measure => simp only [intOf]; omega
  ·have HA := qh (show k = blanks r.data.toList by rw [<- ha, blanks_end (by omega), Nat.add_zero]);clear ha;go_wp2;go_ret;exact ⟨ret_i64 (by rw [<- HA.out]), rfl⟩
theorem own_hexadecimal (r : ByteArray) (w : World) (hs : r.size <= 1000000000) (h0 : 0 < r.size) (hX : byteAt r 0 = 120) :
  Calls Tryz.prog 166 #[.string r] w (EscIs r w) := by
 by_cases h3 : 3 <= r.size
 ·have hx := run_index_at (P := Tryz.prog) 9 r 1 1 Tryz.underlying9 (by omega) rfl;have hy := run_index_at (P := Tryz.prog) 9 r 2 2 Tryz.underlying9 (by omega) rfl;have c1 := fun w => own_hex (byteAt r 1) w (byteAt_lt r 1)
  have c2 := fun w => own_hex (byteAt r 2) w (byteAt_lt r 2)
  have b1 := hexV_range (byteAt r 1);have b2 := hexV_range (byteAt r 2);have hno := fun h => esc_x_no (r := r) h0 hX (.inr h)
  obtain ⟨v, hv⟩ : ∃ v : Nat, hexV (byteAt r 1) = v := ⟨(hexV (byteAt r 1)).toNat, by omega⟩;obtain ⟨u, hu⟩ : ∃ u : Nat, hexV (byteAt r 2) = u := ⟨(hexV (byteAt r 2)).toNat, by omega⟩;have hyes := fun h h' => esc_x_yes (r := r) h3 hX h h' hv hu
  have hcv := fun (w : World) (x : Int) => run_convert_block (P := Tryz.prog) w 78 9 5 [x] (0, 0) Tryz.underlying78 Tryz.underlying5 Tryz.underlying9
  simp only [List.map_cons, List.map_nil, List.length_cons, List.length_nil, Nat.zero_add] at hcv;rw [hv] at c1 b1;rw [hu] at c2 b2;have h3' : ¬ (r.size : Int) < 3 := by omega
  clear hv hu hX;generalize byteAt r 1 = x at *;generalize byteAt r 2 = y at *;have o := or16 v u (by omega) (by omega);have hv9 : (v : Int) <= 15 := by omega
  have hu9 : (u : Int) <= 15 := by omega
  cases hh : hexB x
  ·have HN := qh (hno (.inl hh));rw [hh] at c1;clear hno hyes hh;go_enter Tryz.func166, Tryz.ntmps166;go_wp2_with fail;refine (c1 _).mono ?_;rintro e w1 ⟨rfl, rfl⟩;go_wp2_with fail;refine (c2 _).mono ?_;rintro e w1 ⟨rfl, rfl⟩;go_wp2;go_ret3;exact esc_none HN.out (Below.refl _ _)
  ·cases hl : hexB y
   ·have HN := qh (hno (.inr hl));rw [hh] at c1;rw [hl] at c2;clear hno hyes hh hl;go_enter Tryz.func166, Tryz.ntmps166;go_wp2_with fail;refine (c1 _).mono ?_;rintro e w1 ⟨rfl, rfl⟩;go_wp2_with fail;refine (c2 _).mono ?_;rintro e w1 ⟨rfl, rfl⟩;go_wp2;go_ret3;exact esc_none HN.out (Below.refl _ _)
   ·have HN := qh (hyes hh hl);rw [hh] at c1;rw [hl] at c2;clear hno hyes hh hl;go_enter Tryz.func166, Tryz.ntmps166;go_wp2_with fail;refine (c1 _).mono ?_;rintro e w1 ⟨rfl, rfl⟩;go_wp2_with fail;refine (c2 _).mono ?_;rintro e w1 ⟨rfl, rfl⟩;go_wp2;go_ret3;exact esc_some HN.out rfl rfl (grew_alloc (Below.refl _ _) _)
 ·have HN := qh (esc_x_no h0 hX (.inl (by omega)));have h3' : (r.size : Int) < 3 := by omega
  go_enter Tryz.func166, Tryz.ntmps166;go_wp2;go_ret3;exact esc_none HN.out (Below.refl _ _)
end Go.Proofs.YtnkejjlidgnkkaaGreatDoor
namespace Go.Proofs.YtnkejjlidgnkkaaGreatDoor

open Go.Lib renaming hid → qh
open Go.RowKit
theorem cut_head (r : ByteArray) {k : Nat} (hk : k <= r.size) : (r.extract 0 k).size = k := by rw [Num.part_size hk]; omega
theorem own_decimal (r : ByteArray) (w : World) (hs : r.size <= 1000000000) (h0 : 0 < r.size) (hd0 : digitB (byteAt r 0) = true) :
  Calls Tryz.prog 164 #[.string r] w (EscIs r w) := by
 have hcv := fun (w : World) (x : Int) => run_convert_block (P := Tryz.prog) w 78 9 5 [x] (0, 0) Tryz.underlying78 Tryz.underlying5 Tryz.underlying9
 simp only [List.map_cons, List.map_nil, List.length_cons, List.length_nil, Nat.zero_add] at hcv;go_enter Tryz.func164, Tryz.ntmps164;go_upto_block 0 with fail;go_cut [5] (fun i wx => wx = w /\ ∃ k v : Nat, i = .int .i64 k /\ 1 <= k /\ k <= 3 /\ k <= r.size /\ (∀ j, j < k -> digitB (byteAt r j) = true) /\ runN 10 3 r.data.toList 0 = (v, k) /\ Lib.parseMag (r.extract 0 k).data.toList = .ok v /\ v <= 999)
 case first =>
  go_wp2_with fail;go_loop [5] (fun i => ∃ k : Nat, 1 <= k /\ k <= 3 /\ k <= r.size /\ i = .int .i64 k /\ ∀ j, j < k -> digitB (byteAt r j) = true) (fun i => 3 - (intOf i).toNat)
  case atStart => exact ⟨1, by omega, by omega, by omega, rfl, fun j hj => by rw [show j = 0 from by omega]; exact hd0⟩
  case round =>
   obtain ⟨k, hk1, hk3, hks, rfl, ha⟩ := hrel;have HA := qh ha;clear ha;by_cases hlt : k < 3 /\ k < r.size
   ·obtain ⟨hlt, hlz⟩ := hlt;have hlz' : (k : Int) < r.size := by omega
    have hx := run_index_at (P := Tryz.prog) 9 r (k : Int) k Tryz.underlying9 hlz rfl;have cs := fun w => own_digit (byteAt r k) w (byteAt_lt r k)
    cases hdg : digitB (byteAt r k)
    ·have HQ := qh (dec_run r k hk1 hk3 hks HA.out (.inr (.inr hdg)));rw [hdg] at cs;clear hdg;generalize byteAt r k = b at *;go_wp2_with fail;refine (cs _).mono ?_;rintro e w1 ⟨rfl, rfl⟩;go_wp2_with fail;go_meet;obtain ⟨v, hq1, hq2, hq3⟩ := HQ.out;exact ⟨rfl, k, v, rfl, hk1, hk3, hks, HA.out, hq1, hq2, hq3⟩
    ·have HQ := qh (fun j (hj : j < k + 1) => show digitB (byteAt r j) = true by
      by_cases e : j = k
      ·rw [e]; exact hdg
      ·exact HA.out j (by omega))
     rw [hdg] at cs;clear hdg;generalize byteAt r k = b at *;go_wp2_with fail;refine (cs _).mono ?_;rintro e w1 ⟨rfl, rfl⟩;go_wp2_with fail;go_round
     case rel => exact ⟨k + 1, by omega, by omega, by omega, by go_num, HQ.out⟩
     case measure => simp only [intOf]; omega
   ·have HQ := qh (dec_run r k hk1 hk3 hks HA.out (by omega));by_cases h3 : k < 3
    ·have hlz' : ¬ (k : Int) < r.size := by omega
     go_wp2_with fail;go_meet;obtain ⟨v, hq1, hq2, hq3⟩ := HQ.out;exact ⟨rfl, k, v, rfl, hk1, hk3, hks, HA.out, hq1, hq2, hq3⟩
    ·go_wp2_with fail;go_meet;obtain ⟨v, hq1, hq2, hq3⟩ := HQ.out;exact ⟨rfl, k, v, rfl, hk1, hk3, hks, HA.out, hq1, hq2, hq3⟩
 case rest =>
  obtain ⟨rfl, k, v, rfl, hk1, hk3, hks, hd, hq1, hq2, hq3⟩ := hcut;have cp := fun w => Num.parse_digits (r.extract 0 k) v w (by rw [cut_head r hks]; omega) (by rw [cut_head r hks]; omega)
   (fun j hj => by rw [cut_head r hks] at hj; have := digit_is (hd j hj); rw [Num.byteAt_extract hks (by omega), Nat.zero_add]; exact this) hq2 hq3
  have HE := esc_digits h0 hd0 hk1 hq1;have hks' : (k : Int) <= r.size := by omega
  clear hd hq1 hq2;by_cases hv : v <= 255
  ·rw [if_pos hv] at HE;have HQ := qh HE;have hv' : (v : Int) <= 255 := by omega
   clear HE;go_wp2_with fail;refine (cp _).mono ?_;rintro e w1 ⟨rfl, b1⟩;have B1 := qh b1;clear b1 cp;go_wp2;go_ret3;exact esc_some HQ.out rfl rfl (grew_alloc B1.out _)
  ·rw [if_neg hv] at HE;have HQ := qh HE;have hv' : (255 : Int) < (v : Int) := by omega
   clear HE;go_wp2_with fail;refine (cp _).mono ?_;rintro e w1 ⟨rfl, b1⟩;have B1 := qh b1;clear b1 cp;go_wp2;go_ret3;exact esc_none HQ.out B1.out
end Go.Proofs.YtnkejjlidgnkkaaGreatDoor
namespace Go.Proofs.YtnkejjlidgnkkaaGreatDoor

open Go.Lib renaming hid → qh
open Go.RowKit
theorem esc_u_no {r : ByteArray} (h0 : 0 < r.size) (hU : byteAt r 0 = 117) (hi : isB r 1 123 = false) : escL r.data.toList = none := by
 have he := esc_num (s := r) (p := 0) h0 (by omega) (by rw [hU]; rfl) (by omega) (by omega) (by rw [Nat.zero_add, hi]; simp);obtain ⟨c, e, hl⟩ := drop_at r 0 h0;have hr : runN 10 3 (r.data.toList.drop 0) 0 = (0, 0) := by
  rw [hl];exact run_no (.inl (by rw [e, hU]; rfl))
 rw [hr, List.drop_zero] at he;rw [he]; rfl
theorem esc_u_at {r : ByteArray} {V C : Nat} (h0 : 0 < r.size) (hU : byteAt r 0 = 117) (hi : isB r 1 123 = true) (h : runN 16 r.size (r.data.toList.drop 2) 0 = (V, C)) :
  escL r.data.toList = if 0 < C /\ V < 2147483648 /\ isB r (2 + C) 125 = true then some ((bytesOf (encI (V : Int))).data.toList, C + 3 + 1) else none := by
 have he := esc_u (s := r) (p := 0) h0 hU hi;rw [List.drop_zero] at he;rw [he, show (0 : Nat) + 2 = 2 from rfl, h]
theorem isB_tail {r : ByteArray} {p b : Nat} : isB (r.extract p r.size) 0 b = isB r p b := by
 have hl : r.data.toList.length = r.size := rfl;rw [isB_starts, isB_starts, Lib.extract_data, List.drop_zero, List.take_of_length_le (by rw [List.length_drop, hl]; omega)]
theorem run_behind {P : Program} (t : TypeId) (s : ByteArray) (x : Int) (i : Nat) (h : P.underlying t = some .string) (hi : i <= s.size) (hx : x = i) (w : World) :
  (Instr.slice t (.string s) (some (.int .i64 x)) none none).run P w = .ok (.string (s.extract i s.size)) w := by
 subst hx;rw [run_slice_string_from_if w t _ .i64 _ h, if_pos ⟨by omega, by omega⟩]
 rfl
theorem enc_small {V : Nat} (h : V < 2147483648) : encS (V : Int) = bytesOf (encI V) /\ encE (V : Int) = 0 := by
 unfold encS encE;rw [if_neg (by omega), if_neg (by omega)];exact ⟨rfl, rfl⟩
theorem enc_great : encS ((2147483648 : Nat) : Int) = ⟨#[]⟩ /\ encE ((2147483648 : Nat) : Int) = 10 := by
 unfold encS encE;rw [if_pos (by omega), if_pos (by omega)];exact ⟨rfl, rfl⟩
theorem own_character (r : ByteArray) (w : World) (hs : r.size <= 1000000000) (h0 : 0 < r.size) (hU : byteAt r 0 = 117) :
  Calls Tryz.prog 167 #[.string r] w (EscIs r w) := by
 have p1 := has2 r 117 123;rw [show (117 : UInt8).toNat = 117 from rfl, show (123 : UInt8).toNat = 123 from rfl, show isB r 0 117 = true by unfold isB; rw [decide_eq_true h0, decide_eq_true hU]; rfl, Bool.true_and] at p1;have c1 := fun w => prefix_is r ⟨#[117, 123]⟩ _ w p1
 cases hi : isB r 1 123
 ·have HN := qh (esc_u_no h0 hU hi);rw [hi] at c1;clear p1 hi hU;go_enter Tryz.func167, Tryz.ntmps167;go_wp2_with fail;refine (c1 _).mono ?_;rintro e w1 ⟨rfl, rfl⟩;go_wp2;go_ret3;exact esc_none HN.out (Below.refl _ _)
 ·have HE := fun V C => esc_u_at (V := V) (C := C) h0 hU hi
  have h2 : 2 <= r.size := by
   unfold isB at hi;simp at hi; omega
  have HE := qh HE;rw [hi] at c1;clear p1 hi hU;go_enter Tryz.func167, Tryz.ntmps167;go_wp2_with fail;refine (c1 _).mono ?_;rintro e w1 ⟨rfl, rfl⟩;clear c1;go_upto_block 0 with fail;go_cut [5, 6] (fun n i wx => wx = w /\ ∃ V C m : Nat, n = .int .i64 m /\ m = min V 2147483648 /\ i = .int .i64 ((2 : Int) + C) /\ 2 + C <= r.size /\ runN 16 r.size (r.data.toList.drop 2) 0 = (V, C))
  case first =>
   go_wp2_with fail;go_loop [5, 6] (fun n i => ∃ k a m : Nat, n = .int .i64 m /\ m = min a 2147483648 /\ i = .int .i64 ((2 : Int) + k) /\ 2 + k <= r.size /\
    runN 16 r.size (r.data.toList.drop 2) 0 = ((runN 16 (r.size - k) (r.data.toList.drop (2 + k)) a).1, (runN 16 (r.size - k) (r.data.toList.drop (2 + k)) a).2 + k)) (fun _ i => r.size - (intOf i).toNat)
   case atStart => exact ⟨0, 0, 0, rfl, by omega, rfl, by omega, by rw [Nat.sub_zero, Nat.add_zero]; rfl⟩
   case round =>
    obtain ⟨k, a, m, rfl, hm, rfl, hk, hr⟩ := hrel;by_cases hlt : 2 + k < r.size
    ·have hlt' : (2 : Int) + k < r.size := by omega
     have hx := run_index_at (P := Tryz.prog) 9 r ((2 : Int) + k) (2 + k) Tryz.underlying9 hlt (by omega);have ch := fun w => own_hex (byteAt r (2 + k)) w (byteAt_lt r _)
     have hv15 := hexV_range (byteAt r (2 + k));obtain ⟨v, hv⟩ : ∃ v : Nat, hexV (byteAt r (2 + k)) = v := ⟨(hexV (byteAt r (2 + k))).toNat, by omega⟩;cases hh : hexB (byteAt r (2 + k))
     ·have HR := qh (show runN 16 r.size (r.data.toList.drop 2) 0 = (a, k) by rw [hr, hex_at_no hlt hh, Nat.zero_add]);have HM := qh hm;rw [hh] at ch;clear hr hh hm hv;generalize byteAt r (2 + k) = b at *;go_wp2_with fail;refine (ch _).mono ?_;rintro e w1 ⟨rfl, rfl⟩;go_wp2_with fail;go_meet;exact ⟨rfl, a, k, m, rfl, HM.out, rfl, hk, HR.out⟩
     ·have HR := qh (show runN 16 r.size (r.data.toList.drop 2) 0 = ((runN 16 (r.size - (k + 1)) (r.data.toList.drop (2 + (k + 1))) (a * 16 + v)).1, (runN 16 (r.size - (k + 1)) (r.data.toList.drop (2 + (k + 1))) (a * 16 + v)).2 + (k + 1)) by
       rw [hr, show r.size - k = (r.size - (k + 1)) + 1 from by omega, hex_at_yes hlt hh hv (by omega)];rw [show 2 + k + 1 = 2 + (k + 1) from by omega];simp only [Prod.mk.injEq, true_and];omega)
      rw [hh, hv] at ch;rw [hv] at hv15;have hm9 : m <= 2147483648 := by omega
      have HM := qh (show min (m * 16 + v) 2147483648 = min (a * 16 + v) 2147483648 by rw [hm]; exact cap16 a v);have o := or16 m v hm9 (by omega);clear hr hh hm hv;generalize byteAt r (2 + k) = b at *;have hm9' : (m : Int) <= 2147483648 := by omega
      have hv9' : (v : Int) <= 15 := by omega
      go_wp2_with fail;refine (ch _).mono ?_;rintro e w1 ⟨rfl, rfl⟩;go_wp2_with fail;go_round
      case rel => exact ⟨k + 1, a * 16 + v, min (m * 16 + v) 2147483648, by congr 1 <;> omega, HM.out, by congr 1 <;> omega, by omega, HR.out⟩
      case measure => simp only [intOf]; omega
    ·have hlt' : ¬ (2 : Int) + k < r.size := by omega
     have HR := qh (show runN 16 r.size (r.data.toList.drop 2) 0 = (a, k) by rw [hr, hex_at_end (by omega), Nat.zero_add]);have HM := qh hm;clear hr hm;go_wp2_with fail;go_meet;exact ⟨rfl, a, k, m, rfl, HM.out, rfl, hk, HR.out⟩
  case rest =>
   obtain ⟨rfl, V, C, m, rfl, hm, rfl, hC, hr⟩ := hcut;have hq := HE.out V C hr;clear hr HE;by_cases hC0 : C = 0
   ·rw [if_neg (by omega)] at hq;have HQ := qh hq;have t1 : (((2 : Int) + C) == 2) = true := by rw [beq_iff_eq]; omega
    clear hq hm hC0;go_wp2_with fail;go_ret3;exact esc_none HQ.out (Below.refl _ _)
   ·have t1 : (((2 : Int) + C) == 2) = false := by rw [beq_eq_false_iff_ne]; omega
    have hsl := run_behind (P := Tryz.prog) 9 r ((2 : Int) + C) (2 + C) Tryz.underlying9 hC (by omega);have p2 := has1 (r.extract (2 + C) r.size) 125;rw [isB_tail, show (125 : UInt8).toNat = 125 from rfl] at p2;have c2 := fun w => prefix_is (r.extract (2 + C) r.size) ⟨#[125]⟩ _ w p2
    generalize r.extract (2 + C) r.size = z at *;clear p2;cases hi : isB r (2 + C) 125
    ·rw [if_neg (by rw [hi]; simp)] at hq;have HQ := qh hq;rw [hi] at c2;clear hq hm hi hC0;go_wp2_with fail;refine (c2 _).mono ?_;rintro e w1 ⟨rfl, rfl⟩;go_wp2_with fail;go_ret3;exact esc_none HQ.out (Below.refl _ _)
    ·rw [hi] at c2;by_cases hV : V < 2147483648
     ·rw [if_pos ⟨by omega, hV, hi⟩] at hq;have HQ := qh hq;obtain rfl : m = V := by omega
      have ce := fun w => runes_encode (m : Int) w
      rw [(enc_small hV).1, (enc_small hV).2] at ce;clear hq hm hi hC0;generalize bytesOf (encI (m : Int)) = T at *;go_wp2_with fail;refine (c2 _).mono ?_;rintro e w1 ⟨rfl, rfl⟩;go_wp2_with fail;refine (ce _).mono ?_;rintro e w1 ⟨rfl, b1⟩;have B1 := qh b1;clear b1;go_wp2;go_ret3;exact esc_some HQ.out rfl (by omega) B1.out
     ·rw [if_neg (fun g => hV g.2.1)] at hq;have HQ := qh hq;obtain rfl : m = 2147483648 := by omega
      have ce := fun w => runes_encode ((2147483648 : Nat) : Int) w
      rw [enc_great.1, enc_great.2] at ce;clear hq hm hi hC0;go_wp2_with fail;refine (c2 _).mono ?_;rintro e w1 ⟨rfl, rfl⟩;go_wp2_with fail;refine (ce _).mono ?_;rintro e w1 ⟨rfl, b1⟩;have B1 := qh b1;clear b1;go_wp2;go_ret3;exact esc_none HQ.out B1.out
end Go.Proofs.YtnkejjlidgnkkaaGreatDoor
namespace Go.Proofs.YtnkejjlidgnkkaaGreatDoor

open Go.Lib renaming hid → qh
open Go.RowKit
theorem esc_empty {r : ByteArray} (h : r.size = 0) : escL r.data.toList = none := by
 have := esc_end (s := r) (p := 0) (by omega)
 rwa [List.drop_zero] at this
theorem esc_z_at {r : ByteArray} (h : 0 < r.size) (hz : byteAt r 0 = 122) : escL r.data.toList = some ([], 1 + blanks (r.extract 1 r.size).data.toList + 1) := by
 have := esc_z (s := r) (p := 0) h hz;rw [List.drop_zero, Nat.zero_add] at this;have hl : r.data.toList.length = r.size := rfl;rw [this, Lib.extract_data, List.take_of_length_le (by rw [List.length_drop, hl]; omega)]
 congr 2; omega
theorem esc_letter_at {r : ByteArray} {v : Nat} (h : 0 < r.size) (hb : ¬ (byteAt r 0 = 10 \/ byteAt r 0 = 13)) (hv : letterN (byteAt r 0) = some v) : escL r.data.toList = some ([UInt8.ofNat v], 1 + 1) := by
 have := esc_letter (s := r) (p := 0) h hb hv
 rwa [List.drop_zero] at this
theorem esc_other {r : ByteArray} (h : 0 < r.size) (hd : digitB (byteAt r 0) = false) (hb : ¬ (byteAt r 0 = 10 \/ byteAt r 0 = 13)) (hl : letterN (byteAt r 0) = none) (hx : byteAt r 0 ≠ 120) (hz : byteAt r 0 ≠ 122) (hu : byteAt r 0 ≠ 117) : escL r.data.toList = none := by
 have he := esc_num (s := r) (p := 0) h hb hl hx hz (fun g => hu g.1);have hr := run_stop (r := r) (k := 0) (m := 3) (a := 0) (by omega) (.inr hd);rw [hr, List.drop_zero] at he;rw [he]; rfl
theorem index_letter (b : Nat) (x : Int) (w : World) (h : Lib.indexByte ownLetters.data.toList (UInt8.ofNat b) = x) :
  Calls Tryz.prog 92 #[.string ⟨#[97, 98, 102, 110, 114, 116, 118, 92, 34, 39]⟩, .int .u8 b] w fun e w' => e = .returned (.int .i64 x) /\ w = w' := by
 subst h;refine (Tryz.strings_IndexByte ownLetters b w).mono ?_;rintro e w' ⟨h, h'⟩;rw [Int.toNat_natCast] at h;exact ⟨h, h'.symm⟩
theorem own_escape (r : ByteArray) (w : World) (hs : r.size <= 1000000000) :
  Calls Tryz.prog 133 #[.string r] w (EscIs r w) := by
 by_cases h0 : 0 < r.size
 ·have he : r.toList.isEmpty = false := by
   have := Num.part_empty (s := r) (i := 0) (Nat.le_refl _);rw [Num.whole_text, decide_eq_false (by omega)] at this;exact this
  have hx := run_index_at (P := Tryz.prog) 9 r 0 0 Tryz.underlying9 h0 rfl;have cd := fun w => own_digit (byteAt r 0) w (byteAt_lt r 0)
  cases hd : digitB (byteAt r 0)
  ·rw [hd] at cd;by_cases hb : byteAt r 0 = 10 \/ byteAt r 0 = 13
   ·have HE := qh (esc_line_at h0 hb);have cl := fun w => own_line r w h0 hb
    clear hd;generalize byteAt r 0 = b at *;rcases hb with hb | hb
    ·have t1 : ((b : Int) == 10) = true := by rw [hb]; rfl
     clear hb;go_enter Tryz.func133, Tryz.ntmps133;go_wp2_with fail;refine (cd _).mono ?_;rintro e w1 ⟨rfl, rfl⟩;go_wp2_with fail;refine (cl _).mono ?_;rintro e w1 ⟨rfl, rfl⟩;go_wp2;go_ret3;exact esc_some HE.out rfl rfl (Below.refl _ _)
    ·have t1 : ((b : Int) == 10) = false := by rw [hb]; rfl
     have t2 : ((b : Int) == 13) = true := by rw [hb]; rfl
     clear hb;go_enter Tryz.func133, Tryz.ntmps133;go_wp2_with fail;refine (cd _).mono ?_;rintro e w1 ⟨rfl, rfl⟩;go_wp2_with fail;refine (cl _).mono ?_;rintro e w1 ⟨rfl, rfl⟩;go_wp2;go_ret3;exact esc_some HE.out rfl rfl (Below.refl _ _)
   ·have t1 : (((byteAt r 0 : Nat) : Int) == 10) = false := by rw [beq_eq_false_iff_ne]; omega
    have t2 : (((byteAt r 0 : Nat) : Int) == 13) = false := by rw [beq_eq_false_iff_ne]; omega
    by_cases h120 : byteAt r 0 = 120
    ·have t3 : (((byteAt r 0 : Nat) : Int) == 120) = true := by rw [beq_iff_eq]; omega
     have c := fun w => own_hexadecimal r w hs h0 h120
     unfold EscIs at c;clear hd hb h120;generalize byteAt r 0 = b at *;go_enter Tryz.func133, Tryz.ntmps133;go_wp2_with fail;refine (cd _).mono ?_;rintro e w1 ⟨rfl, rfl⟩;go_wp2_with fail;refine (c _).mono ?_;rintro e w1 ⟨rfl, b1⟩;have B1 := qh b1;clear b1;go_wp2;go_ret3;exact ⟨rfl, B1.out⟩
    ·have t3 : (((byteAt r 0 : Nat) : Int) == 120) = false := by rw [beq_eq_false_iff_ne]; omega
     by_cases h117 : byteAt r 0 = 117
     ·have t4 : (((byteAt r 0 : Nat) : Int) == 117) = true := by rw [beq_iff_eq]; omega
      have c := fun w => own_character r w hs h0 h117
      unfold EscIs at c;clear hd hb h120 h117;generalize byteAt r 0 = b at *;go_enter Tryz.func133, Tryz.ntmps133;go_wp2_with fail;refine (cd _).mono ?_;rintro e w1 ⟨rfl, rfl⟩;go_wp2_with fail;refine (c _).mono ?_;rintro e w1 ⟨rfl, b1⟩;have B1 := qh b1;clear b1;go_wp2;go_ret3;exact ⟨rfl, B1.out⟩
     ·have t4 : (((byteAt r 0 : Nat) : Int) == 117) = false := by rw [beq_eq_false_iff_ne]; omega
      by_cases h122 : byteAt r 0 = 122
      ·have t5 : (((byteAt r 0 : Nat) : Int) == 122) = true := by rw [beq_iff_eq]; omega
       have HE := qh (esc_z_at h0 h122);have hsl := run_behind (P := Tryz.prog) 9 r 1 1 Tryz.underlying9 (by omega) rfl;have hzs : (r.extract 1 r.size).size <= 1000000000 := by rw [Num.part_size (Nat.le_refl _)]; omega
       have c := fun w => own_blanks (r.extract 1 r.size) w hzs
       have hbl := blanks_le (r.extract 1 r.size).data.toList;have hbz : (blanks (r.extract 1 r.size).data.toList : Int) <= 1000000000 := by
        have : (r.extract 1 r.size).data.toList.length = (r.extract 1 r.size).size := rfl;omega
       clear hd hb h120 h117 h122 hbl hzs;generalize byteAt r 0 = b at *;generalize r.extract 1 r.size = z at *;generalize blanks z.data.toList = k at *;go_enter Tryz.func133, Tryz.ntmps133;go_wp2_with fail;refine (cd _).mono ?_;rintro e w1 ⟨rfl, rfl⟩;go_wp2_with fail;refine (c _).mono ?_;rintro e w1 ⟨rfl, rfl⟩;go_wp2;go_ret3;exact esc_some HE.out rfl (by omega) (Below.refl _ _)
      ·have t5 : (((byteAt r 0 : Nat) : Int) == 122) = false := by rw [beq_eq_false_iff_ne]; omega
       cases hl : letterN (byteAt r 0) with
       | none =>
        have HE := qh (esc_other h0 hd hb hl h120 h122 h117);have ci := fun w => index_letter (byteAt r 0) (-1) w (own_miss _ (byteAt_lt r 0) hl)
        clear hd hb h120 h117 h122 hl;generalize byteAt r 0 = b at *;go_enter Tryz.func133, Tryz.ntmps133;go_wp2_with fail;refine (cd _).mono ?_;rintro e w1 ⟨rfl, rfl⟩;go_wp2_with fail;refine (ci _).mono ?_;rintro e w1 ⟨rfl, rfl⟩;go_wp2;go_ret3;exact esc_none HE.out (Below.refl _ _)
       | some v =>
        have HE := qh (esc_letter_at h0 hb hl);obtain ⟨k, hk, hi, hT⟩ := own_hit _ (byteAt_lt r 0) v hl;have ci := fun w => index_letter (byteAt r 0) k w hi
        have hsl := run_slice_at (P := Tryz.prog) 9 ownWorths (k : Int) ((k : Int) + 1) k (k + 1) Tryz.underlying9 (by omega) (by show k + 1 <= 10; omega) rfl (by omega);unfold ownWorths at hsl hT;have HT := qh hT;have hk' : (k : Int) < 10 := by omega
        clear hd hb h120 h117 h122 hl hi hT;generalize byteAt r 0 = b at *;generalize (ByteArray.mk #[7, 8, 12, 10, 13, 9, 11, 92, 34, 39]).extract k (k + 1) = T at *;go_enter Tryz.func133, Tryz.ntmps133;go_wp2_with fail;refine (cd _).mono ?_;rintro e w1 ⟨rfl, rfl⟩;go_wp2_with fail;refine (ci _).mono ?_;rintro e w1 ⟨rfl, rfl⟩;go_wp2;go_ret3;exact esc_some HE.out HT.out rfl (Below.refl _ _)
  ·rw [hd] at cd;have c := fun w => own_decimal r w hs h0 hd
   unfold EscIs at c;clear hd;generalize byteAt r 0 = b at *;go_enter Tryz.func133, Tryz.ntmps133;go_wp2_with fail;refine (cd _).mono ?_;rintro e w1 ⟨rfl, rfl⟩;go_wp2_with fail;refine (c _).mono ?_;rintro e w1 ⟨rfl, b1⟩;have B1 := qh b1;clear b1;go_wp2;go_ret3;exact ⟨rfl, B1.out⟩
 ·have HN := qh (esc_empty (r := r) (by omega));have he : r.toList.isEmpty = true := by
   have := Num.part_empty (s := r) (i := 0) (Nat.le_refl _);rw [Num.whole_text, decide_eq_true (by omega)] at this;exact this
  go_enter Tryz.func133, Tryz.ntmps133;go_wp2;go_ret3;exact esc_none HN.out (Below.refl _ _)

open Go.Lib renaming hid → qh
open Go.RowKit
theorem unq_other1 {s : ByteArray} (h : 0 < s.size) (hq : ¬ (byteAt s 0 = 34 \/ byteAt s 0 = 39)) : unquotL s.data.toList = none := by
 obtain ⟨c, e, hd⟩ := drop_at s 0 h;rw [List.drop_zero] at hd;rw [hd, unquotL, e, if_neg hq]
theorem unq_in1 {s : ByteArray} (h : 0 < s.size) (hq : byteAt s 0 = 34 \/ byteAt s 0 = 39) : unquotL s.data.toList = partsL (byteAt s 0) s.size (s.data.toList.drop 1) := by
 obtain ⟨c, e, hd⟩ := drop_at s 0 h;have hl : s.data.toList.length = s.size := rfl;rw [List.drop_zero] at hd;rw [hd] at hl;rw [hd, unquotL, e, if_pos hq];simp only [List.length_cons] at hl;rw [show (List.drop (0 + 1) s.data.toList).length + 1 = s.size from hl, <- hd]
theorem tail_list {s : ByteArray} {p : Nat} : (s.extract p s.size).data.toList = s.data.toList.drop p := by
 have hl : s.data.toList.length = s.size := rfl;rw [Lib.extract_data, List.take_of_length_le (by rw [List.length_drop, hl]; omega)]
theorem parts_step {q m : Nat} {l t : List UInt8} {k : Nat} (h : partL q l = some (t, k)) (acc : List UInt8) : (partsL q (m + 1) l).map (acc ++ ·) = (partsL q m (l.drop k)).map ((acc ++ t) ++ ·) := by
 rw [partsL, h];simp only [];rw [Option.map_map]
 congr 1
 funext z
 simp
structure UnqAt (s : ByteArray) (q : Nat) (p : Nat) (acc : List UInt8) : Prop where
 le : p <= s.size
 says : ∃ m, s.size - p + 1 <= m /\ unquotL s.data.toList = (partsL q m (s.data.toList.drop p)).map (acc ++ ·)
 small : acc.length <= 6 * p
theorem UnqAt.more {s : ByteArray} {q p k : Nat} {acc t : List UInt8} (h : UnqAt s q p acc) (hp : partL q (s.data.toList.drop p) = some (t, k)) : UnqAt s q (p + k) (acc ++ t) /\ 1 <= k /\ p + k <= s.size := by
 obtain ⟨h1, h2, h3⟩ := part_size hp;have hl : s.data.toList.length = s.size := rfl;rw [List.length_drop, hl] at h2;obtain ⟨m, hm, hs⟩ := h.says;obtain ⟨m, rfl⟩ : ∃ m', m = m' + 1 := ⟨m - 1, by omega⟩;have hle := h.le;have hsm := h.small;refine ⟨⟨by omega, ⟨m, by omega, ?_⟩, by rw [List.length_append]; omega⟩, h1, by omega⟩;rw [hs, parts_step hp, List.drop_drop]
theorem UnqAt.stop {s : ByteArray} {q p : Nat} {acc : List UInt8} (hq : q < 256) (h : UnqAt s q p acc) (hn : partL q (s.data.toList.drop p) = none) :
  unquotL s.data.toList = if p + 1 = s.size /\ byteAt s p = q then some acc else none := by
 obtain ⟨m, hm, hs⟩ := h.says;obtain ⟨m, rfl⟩ : ∃ m', m = m' + 1 := ⟨m - 1, by omega⟩;rw [hs, parts_stop hq hn h.le]
 split
 ·simp
 ·rfl
theorem unq_at_none {s : ByteArray} {q p : Nat} {acc : List UInt8} {w w' : World} (hq : q < 256) (h : UnqAt s q p acc) (hn : partL q (s.data.toList.drop p) = none) (hne : ¬ (p + 1 = s.size /\ byteAt s p = q)) (hb : Below w.heap.size w w') :
  UnqIs s w (.returned (.tuple #[.string ⟨#[]⟩, .int .i64 30])) w' := by
 refine unq_none ?_ hb;rw [h.stop hq hn, if_neg hne]
theorem unq_at_some {s : ByteArray} {q p : Nat} {acc : List UInt8} {w w' : World} (hq : q < 256) (h : UnqAt s q p acc) (hn : partL q (s.data.toList.drop p) = none) (h1 : p + 1 = s.size) (h2 : byteAt s p = q) (hb : Below w.heap.size w w') :
  UnqIs s w (.returned (.tuple #[.string ⟨acc.toArray⟩, .int .i64 0])) w' := by
 refine unq_some ?_ hb;rw [h.stop hq hn, if_pos ⟨h1, h2⟩]
theorem own_unquote (s : ByteArray) (w : World) (hs : s.size <= 100000000) :
  Calls Tryz.prog 98 #[.string s] w (UnqIs s w) := by
 by_cases h0 : 0 < s.size
 ·have he : s.toList.isEmpty = false := by
   have := Num.part_empty (s := s) (i := 0) (Nat.le_refl _);rw [Num.whole_text, decide_eq_false (by omega)] at this;exact this
  have hx := run_index_at (P := Tryz.prog) 9 s 0 0 Tryz.underlying9 h0 rfl;by_cases hq : byteAt s 0 = 34 \/ byteAt s 0 = 39
  ·have hq9 := byteAt_lt s 0;have HI : UnqAt s (byteAt s 0) 1 [] := ⟨by omega, ⟨s.size, by omega, by rw [unq_in1 h0 hq]; simp⟩, by simp⟩;generalize byteAt s 0 = q at *;have HI := qh HI;have HQ := qh hq;have t34 : q = 34 -> ((q : Int) != 34) = false := fun h => by rw [h]; rfl
   have t39 : q = 39 -> ((q : Int) != 34) = true /\ ((q : Int) != 39) = false := fun h => by rw [h]; exact ⟨rfl, rfl⟩
   rcases hq with hq | hq
   ·have t1 := t34 hq;clear t34 t39 hq;go_enter Tryz.func98, Tryz.ntmps98;go_wp2_with fail;go_step3;go_wp2_with fail;go_step3;go_wp2_with fail;clear t1 hx he;go_loopg [6] (s.size - 1) (fun r i wr => ∃ (p : Nat) (acc : List UInt8), r = s.size - p /\ i = .int .i64 p /\ UnqAt s q p acc /\ Bld w w.heap.size acc wr)
    case atStart => exact ⟨1, [], rfl, rfl, HI.out, Bld.fresh w⟩
    case round =>
     obtain ⟨p, acc, rfl, rfl, hu, hb⟩ := hrel;have hle := hu.le;have hsm := hu.small;have HU := qh hu;have HB := qh hb;clear hu hb;by_cases hlt : p < s.size
     ·have hlt' : (p : Int) < s.size := by omega
      have hx := run_index_at (P := Tryz.prog) 9 s (p : Int) p Tryz.underlying9 hlt rfl;by_cases hbq : byteAt s p = q
      ·have hn := part_bad hlt (.inl hbq);have HN := qh hn;have t1 : (((byteAt s p : Nat) : Int) == (q : Int)) = true := by rw [beq_iff_eq]; omega
       by_cases h1 : p + 1 = s.size
       ·have e1 : ((p : Int) != (s.size : Int) - 1) = false := by rw [bne_eq_false_iff_eq]; omega
        have HR := qh (fun w' hb => unq_at_some (w := w) (w' := w') hq9 HU.out HN.out h1 hbq hb);have cb := builder_text w w.heap.size acc wr HB.out;clear hn hbq h1;generalize byteAt s p = b at *;go_wp2_with fail;refine cb.mono ?_;rintro e w1 ⟨rfl, b1⟩;have B1 := qh b1;clear b1 cb;go_wp2_with fail;rw [Exit.noGoto_ret];go_ret2;exact HR.out _ B1.out.low
       ·have e1 : ((p : Int) != (s.size : Int) - 1) = true := by rw [bne_iff_ne]; omega
        have HR := qh (fun w' hb => unq_at_none (w := w) (w' := w') hq9 HU.out HN.out (fun g => h1 g.1) hb);clear hn hbq h1;generalize byteAt s p = b at *;go_wp2_with fail;rw [Exit.noGoto_ret];go_ret2;exact HR.out _ HB.out.low
      ·have t1 : (((byteAt s p : Nat) : Int) == (q : Int)) = false := by rw [beq_eq_false_iff_ne]; omega
       by_cases hln : byteAt s p = 10 \/ byteAt s p = 13
       ·have hn := part_bad (q := q) hlt (.inr hln);have HR := qh (unq_at_none (w := w) (w' := wr) hq9 HU.out hn (fun g => hbq g.2) HB.out.low);clear hn hbq;generalize byteAt s p = b at *;rcases hln with hb | hb
        ·have t2 : ((b : Int) == 10) = true := by rw [hb]; rfl
         clear hb;go_wp2_with fail;rw [Exit.noGoto_ret];go_ret2;exact HR.out
        ·have t2 : ((b : Int) == 10) = false := by rw [hb]; rfl
         have t3 : ((b : Int) == 13) = true := by rw [hb]; rfl
         clear hb;go_wp2_with fail;rw [Exit.noGoto_ret];go_ret2;exact HR.out
       ·have t2 : (((byteAt s p : Nat) : Int) == 10) = false := by rw [beq_eq_false_iff_ne]; omega
        have t3 : (((byteAt s p : Nat) : Int) == 13) = false := by rw [beq_eq_false_iff_ne]; omega
        by_cases h92 : byteAt s p = 92
        ·have t4 : (((byteAt s p : Nat) : Int) == 92) = true := by rw [beq_iff_eq]; omega
         have hsl := run_behind (P := Tryz.prog) 9 s ((p : Int) + 1) (p + 1) Tryz.underlying9 (by omega) (by omega);have ce := own_escape (s.extract (p + 1) s.size) wr (by rw [Num.part_size (Nat.le_refl _)]; omega);have hpl := part_esc (q := q) hlt (fun g => by rcases g with g | g; exact hbq g; exact hln g) h92;unfold EscIs escT escN escO at ce;rw [tail_list] at ce;cases hes : escL (s.data.toList.drop (p + 1)) with
         | none =>
          rw [hes] at ce hpl;have HR := qh (fun w' hb => unq_at_none (w := w) (w' := w') hq9 HU.out hpl (fun g => hbq g.2) hb);simp only [Option.isSome_none] at ce;clear hpl hln hbq h92 hes;generalize byteAt s p = b at *;generalize s.extract (p + 1) s.size = z at *;go_wp2_with fail;refine ce.mono ?_;rintro e w1 ⟨rfl, b1⟩;have B1 := qh (HB.out.below b1);clear b1 ce;go_wp2_with fail;rw [Exit.noGoto_ret];go_ret2;exact HR.out _ B1.out.low
         | some x =>
          obtain ⟨t, k⟩ := x;obtain ⟨hk2, hk3, ht6⟩ := esc_size hes;obtain ⟨k, rfl⟩ : ∃ k', k = k' + 1 := ⟨k - 1, by omega⟩;rw [hes] at ce hpl;have HM := qh (HU.out.more hpl);have hkz : (p : Int) + (1 + k) <= s.size := by have := HM.out.2.2; omega
          have hT : (⟨t.toArray⟩ : ByteArray).size <= 6 := ht6;have hT2 : (⟨t.toArray⟩ : ByteArray).data.toList = t := rfl;simp only [Option.isSome_some, Nat.add_sub_cancel] at ce;have HT := qh hT;have HT2 := qh hT2;clear hpl hln hbq h92 hes hT hT2 hk3 ht6;generalize byteAt s p = b at *;generalize s.extract (p + 1) s.size = z at *;generalize (⟨t.toArray⟩ : ByteArray) = T at *;go_wp2_with fail;refine ce.mono ?_;rintro e w1 ⟨rfl, b1⟩;have cw := write_text w w.heap.size acc T w1 (HB.out.below b1) (by omega) (by have := HT.out; omega);clear b1 ce;go_wp2_with fail;refine cw.mono ?_;rintro e w2 ⟨rfl, b2⟩;rw [HT2.out] at b2;have B2 := qh b2;clear b2 cw;go_wp2_with fail;go_roundg (s.size - (p + (k + 1)))
          case measure => omega
          case rel => exact ⟨p + (k + 1), _, rfl, by congr 1 <;> omega, HM.out.1, B2.out⟩
        ·have t4 : (((byteAt s p : Nat) : Int) == 92) = false := by rw [beq_eq_false_iff_ne]; omega
         have hp := part_plain hlt (fun g => by rcases g with g | g; exact hbq g; exact hln g) h92;rw [one_list hlt] at hp;have HM := qh (HU.out.more hp);have cw := write_byte w w.heap.size acc (byteAt s p) wr HB.out (byteAt_lt s p) (by omega);clear hp hln hbq h92;generalize byteAt s p = b at *;go_wp2_with fail;refine cw.mono ?_;rintro e w1 ⟨rfl, b1⟩;have B1 := qh b1;clear b1 cw;go_wp2_with fail;go_roundg (s.size - (p + 1))
         case measure => omega
         case rel => exact ⟨p + 1, _, rfl, by go_num, HM.out.1, B1.out⟩
     ·have hn := part_end (q := q) (s := s) (p := p) (by omega);have e1 : ((p : Int) != (s.size : Int) - 1) = true := by rw [bne_iff_ne]; omega
      have HR := qh (unq_at_none (w := w) (w' := wr) hq9 HU.out hn (fun g => by omega) HB.out.low);clear hn;go_wp2_with fail;rw [Exit.noGoto_ret];go_ret2;exact HR.out
   ·obtain ⟨t1, t2⟩ := t39 hq;clear t34 t39 hq;go_enter Tryz.func98, Tryz.ntmps98;go_wp2_with fail;go_step3;go_wp2_with fail;go_step3;go_wp2_with fail;clear t1 t2 hx he;go_loopg [6] (s.size - 1) (fun r i wr => ∃ (p : Nat) (acc : List UInt8), r = s.size - p /\ i = .int .i64 p /\ UnqAt s q p acc /\ Bld w w.heap.size acc wr)
    case atStart => exact ⟨1, [], rfl, rfl, HI.out, Bld.fresh w⟩
    case round =>
     obtain ⟨p, acc, rfl, rfl, hu, hb⟩ := hrel;have hle := hu.le;have hsm := hu.small;have HU := qh hu;have HB := qh hb;clear hu hb;by_cases hlt : p < s.size
     ·have hlt' : (p : Int) < s.size := by omega
      have hx := run_index_at (P := Tryz.prog) 9 s (p : Int) p Tryz.underlying9 hlt rfl;by_cases hbq : byteAt s p = q
      ·have hn := part_bad hlt (.inl hbq);have HN := qh hn;have t1 : (((byteAt s p : Nat) : Int) == (q : Int)) = true := by rw [beq_iff_eq]; omega
       by_cases h1 : p + 1 = s.size
       ·have e1 : ((p : Int) != (s.size : Int) - 1) = false := by rw [bne_eq_false_iff_eq]; omega
        have HR := qh (fun w' hb => unq_at_some (w := w) (w' := w') hq9 HU.out HN.out h1 hbq hb);have cb := builder_text w w.heap.size acc wr HB.out;clear hn hbq h1;generalize byteAt s p = b at *;go_wp2_with fail;refine cb.mono ?_;rintro e w1 ⟨rfl, b1⟩;have B1 := qh b1;clear b1 cb;go_wp2_with fail;rw [Exit.noGoto_ret];go_ret2;exact HR.out _ B1.out.low
       ·have e1 : ((p : Int) != (s.size : Int) - 1) = true := by rw [bne_iff_ne]; omega
        have HR := qh (fun w' hb => unq_at_none (w := w) (w' := w') hq9 HU.out HN.out (fun g => h1 g.1) hb);clear hn hbq h1;generalize byteAt s p = b at *;go_wp2_with fail;rw [Exit.noGoto_ret];go_ret2;exact HR.out _ HB.out.low
      ·have t1 : (((byteAt s p : Nat) : Int) == (q : Int)) = false := by rw [beq_eq_false_iff_ne]; omega
       by_cases hln : byteAt s p = 10 \/ byteAt s p = 13
       ·have hn := part_bad (q := q) hlt (.inr hln);have HR := qh (unq_at_none (w := w) (w' := wr) hq9 HU.out hn (fun g => hbq g.2) HB.out.low);clear hn hbq;generalize byteAt s p = b at *;rcases hln with hb | hb
        ·have t2 : ((b : Int) == 10) = true := by rw [hb]; rfl
         clear hb;go_wp2_with fail;rw [Exit.noGoto_ret];go_ret2;exact HR.out
        ·have t2 : ((b : Int) == 10) = false := by rw [hb]; rfl
         have t3 : ((b : Int) == 13) = true := by rw [hb]; rfl
         clear hb;go_wp2_with fail;rw [Exit.noGoto_ret];go_ret2;exact HR.out
       ·have t2 : (((byteAt s p : Nat) : Int) == 10) = false := by rw [beq_eq_false_iff_ne]; omega
        have t3 : (((byteAt s p : Nat) : Int) == 13) = false := by rw [beq_eq_false_iff_ne]; omega
        by_cases h92 : byteAt s p = 92
        ·have t4 : (((byteAt s p : Nat) : Int) == 92) = true := by rw [beq_iff_eq]; omega
         have hsl := run_behind (P := Tryz.prog) 9 s ((p : Int) + 1) (p + 1) Tryz.underlying9 (by omega) (by omega);have ce := own_escape (s.extract (p + 1) s.size) wr (by rw [Num.part_size (Nat.le_refl _)]; omega);have hpl := part_esc (q := q) hlt (fun g => by rcases g with g | g; exact hbq g; exact hln g) h92;unfold EscIs escT escN escO at ce;rw [tail_list] at ce;cases hes : escL (s.data.toList.drop (p + 1)) with
         | none =>
          rw [hes] at ce hpl;have HR := qh (fun w' hb => unq_at_none (w := w) (w' := w') hq9 HU.out hpl (fun g => hbq g.2) hb);simp only [Option.isSome_none] at ce;clear hpl hln hbq h92 hes;generalize byteAt s p = b at *;generalize s.extract (p + 1) s.size = z at *;go_wp2_with fail;refine ce.mono ?_;rintro e w1 ⟨rfl, b1⟩;have B1 := qh (HB.out.below b1);clear b1 ce;go_wp2_with fail;rw [Exit.noGoto_ret];go_ret2;exact HR.out _ B1.out.low
         | some x =>
          obtain ⟨t, k⟩ := x;obtain ⟨hk2, hk3, ht6⟩ := esc_size hes;obtain ⟨k, rfl⟩ : ∃ k', k = k' + 1 := ⟨k - 1, by omega⟩;rw [hes] at ce hpl;have HM := qh (HU.out.more hpl);have hkz : (p : Int) + (1 + k) <= s.size := by have := HM.out.2.2; omega
          have hT : (⟨t.toArray⟩ : ByteArray).size <= 6 := ht6;have hT2 : (⟨t.toArray⟩ : ByteArray).data.toList = t := rfl;simp only [Option.isSome_some, Nat.add_sub_cancel] at ce;have HT := qh hT;have HT2 := qh hT2;clear hpl hln hbq h92 hes hT hT2 hk3 ht6;generalize byteAt s p = b at *;generalize s.extract (p + 1) s.size = z at *;generalize (⟨t.toArray⟩ : ByteArray) = T at *;go_wp2_with fail;refine ce.mono ?_;rintro e w1 ⟨rfl, b1⟩;have cw := write_text w w.heap.size acc T w1 (HB.out.below b1) (by omega) (by have := HT.out; omega);clear b1 ce;go_wp2_with fail;refine cw.mono ?_;rintro e w2 ⟨rfl, b2⟩;rw [HT2.out] at b2;have B2 := qh b2;clear b2 cw;go_wp2_with fail;go_roundg (s.size - (p + (k + 1)))
          case measure => omega
          case rel => exact ⟨p + (k + 1), _, rfl, by congr 1 <;> omega, HM.out.1, B2.out⟩
        ·have t4 : (((byteAt s p : Nat) : Int) == 92) = false := by rw [beq_eq_false_iff_ne]; omega
         have hp := part_plain hlt (fun g => by rcases g with g | g; exact hbq g; exact hln g) h92;rw [one_list hlt] at hp;have HM := qh (HU.out.more hp);have cw := write_byte w w.heap.size acc (byteAt s p) wr HB.out (byteAt_lt s p) (by omega);clear hp hln hbq h92;generalize byteAt s p = b at *;go_wp2_with fail;refine cw.mono ?_;rintro e w1 ⟨rfl, b1⟩;have B1 := qh b1;clear b1 cw;go_wp2_with fail;go_roundg (s.size - (p + 1))
         case measure => omega
         case rel => exact ⟨p + 1, _, rfl, by go_num, HM.out.1, B1.out⟩
     ·have hn := part_end (q := q) (s := s) (p := p) (by omega);have e1 : ((p : Int) != (s.size : Int) - 1) = true := by rw [bne_iff_ne]; omega
      have HR := qh (unq_at_none (w := w) (w' := wr) hq9 HU.out hn (fun g => by omega) HB.out.low);clear hn;go_wp2_with fail;rw [Exit.noGoto_ret];go_ret2;exact HR.out
  ·have HR := qh (unq_other1 h0 hq);have t1 : (((byteAt s 0 : Nat) : Int) != 34) = true := by rw [bne_iff_ne]; omega
   have t2 : (((byteAt s 0 : Nat) : Int) != 39) = true := by rw [bne_iff_ne]; omega
   generalize byteAt s 0 = q at *;clear hq;go_enter Tryz.func98, Tryz.ntmps98;go_wp2_with fail;go_step3;go_wp2_with fail;rw [Exit.noGoto_ret];go_ret2;exact unq_none HR.out (Below.refl _ _)
 ·have HR := qh (unq_short (s := s) (by omega));have he : s.toList.isEmpty = true := by
   have := Num.part_empty (s := s) (i := 0) (Nat.le_refl _);rw [Num.whole_text, decide_eq_true (by omega)] at this;exact this
  go_enter Tryz.func98, Tryz.ntmps98;go_wp2_with fail;go_step3;go_wp2_with fail
  try rw [Exit.noGoto_ret]
  go_ret2;exact unq_none HR.out (Below.refl _ _)
end Go.Proofs.YtnkejjlidgnkkaaGreatDoor
