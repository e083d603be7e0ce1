/-
  A part of the proof.
-/
import Derived.Lib.AtoiAll
import Derived.Lib.Bytealg
import Derived.Test.YtnkejjlidgnkkaaGreatDoorRows
import Derived.WalkKit
import Derived.WalkSpells
import Derived.WalkLawsBesides
import Derived.Lib.Hide
import Derived.Test.YtnkejjlidgnkkaaGreatDoorClRA
import Derived.Test.YtnkejjlidgnkkaaGreatDoorClRW
set_option maxRecDepth 100000
set_option maxHeartbeats 40000000
namespace Go.Proofs.YtnkejjlidgnkkaaGreatDoor.Num

open Go.Lib renaming hid → qh
open Go.RowKit
theorem parse_any (s : ByteArray) (w : World) (hs : s.size <= 1000000000) (hv : Vars w) :
  Calls Tryz.prog 93 #[.string s] w (ParseSays s w) := by
 have HV := qh hv;clear hv;go_enter Tryz.func93, Tryz.ntmps93;go_upto_region 1 with fail;go_cut [4, 5] (fun p q wx => ∃ g h : Nat, p = .pointer (some ⟨g, 0, none⟩) /\ q = .pointer (some ⟨h, 0, none⟩) /\ Boxes s w g h 0 s.size wx)
 case first =>
  go_region
  ·go_wp2_with fail;go_meet;exact ⟨_, _, rfl, rfl, boxes_one s w s.size⟩
  ·go_wp2_with fail;go_meet;exact ⟨_, _, rfl, rfl, boxes_two s w s.size⟩
 case rest =>
  obtain ⟨g, h, rfl, rfl, hb⟩ := hcut;go_upto_block 0 with fail;go_cut [] (fun wx => Boxes s w g h (loFrom s 0) s.size wx /\ loFrom s 0 <= s.size)
  case first =>
   go_wp2_with fail;go_loopg [] s.size (fun r wr => ∃ k : Nat, r = s.size - k /\ k <= s.size /\ Boxes s w g h k s.size wr /\ loFrom s k = loFrom s 0)
   case atStart => exact ⟨0, rfl, by omega, hb, rfl⟩
   case round =>
    obtain ⟨k, rfl, hk, hbk, hlo⟩ := hrel;have c1 := cell_of_one hbk.text;have c2 := cell_of_one hbk.lo;have f2 := free_of_one hbk.lo;have cl := left_any s w g h k s.size wr hbk hk (Nat.le_refl _);have HL := qh hlo;have HB := qh hbk;clear hlo hbk;by_cases hlt : k < s.size
    ·have he : (s.extract k s.size).toList.isEmpty = false := by rw [part_empty (Nat.le_refl _)]; simp; omega
     have hx := run_index_at (P := Tryz.prog) 9 s (k : Int) k Tryz.underlying9 hlt rfl;have cs := fun w => runes_space (byteAt s k) w (byteAt_lt s k)
     have hyes := loFrom_yes hlt;have hno := loFrom_no hlt;generalize byteAt s k = b at *;cases hsp : spaceB b
     ·have HN := qh ((hno hsp).symm.trans HL.out);rw [hsp] at cs;clear hyes hno hsp;go_wp2_with fail;refine cl.mono ?_;rintro e w1 ⟨rfl, rfl⟩;go_wp2_with fail;refine (cs _).mono ?_;rintro e w1 ⟨rfl, rfl⟩;go_wp2_with fail;go_meet;exact ⟨by rw [<- HN.out]; exact HB.out, by rw [<- HN.out]; omega⟩
     ·have HN := qh ((hyes hsp).symm.trans HL.out);rw [hsp] at cs;clear hyes hno hsp;go_wp2_with fail;refine cl.mono ?_;rintro e w1 ⟨rfl, rfl⟩;go_wp2_with fail;refine (cs _).mono ?_;rintro e w1 ⟨rfl, rfl⟩;go_wp2;go_roundg (s.size - (k + 1))
      case measure => omega
      case rel => exact ⟨k + 1, rfl, by omega, HB.out.setLo (k + 1) _ (by go_num), HN.out⟩
    ·obtain rfl : k = s.size := by omega
     have he : (s.extract s.size s.size).toList.isEmpty = true := by rw [part_empty (Nat.le_refl _)]; simp
     have HN := qh ((loFrom_end s).symm.trans HL.out);go_wp2_with fail;refine cl.mono ?_;rintro e w1 ⟨rfl, rfl⟩;go_wp2_with fail;go_meet;exact ⟨by rw [<- HN.out]; exact HB.out, by rw [<- HN.out]; omega⟩
  case rest =>
   obtain ⟨hb, hlo⟩ := hcut;generalize hl0 : loFrom s 0 = lo at *;go_upto_block 2 with fail;go_cut [] (fun wx => Boxes s w g h lo (hiFrom s lo s.size) wx /\ lo <= hiFrom s lo s.size /\ hiFrom s lo s.size <= s.size)
   case first =>
    go_wp2_with fail;go_loopg [] s.size (fun r wr => r <= s.size /\ lo <= r /\ Boxes s w g h lo r wr /\ hiFrom s lo r = hiFrom s lo s.size)
    case atStart => exact ⟨by omega, hlo, hb, rfl⟩
    case round =>
     obtain ⟨hj, hlj, hbk, hhi⟩ := hrel;have c1 := cell_of_one hbk.text;have c2 := cell_of_one hbk.hi;have f2 := free_of_one hbk.hi;have cl := left_any s w g h lo gk wr hbk hlj hj;have HL := qh hhi;have HB := qh hbk;clear hhi hbk;by_cases hlt : lo < gk
     ·have he : (s.extract lo gk).toList.isEmpty = false := by rw [part_empty hj]; simp; omega
      have hx := run_index_at (P := Tryz.prog) 9 s ((gk : Int) - 1) (gk - 1) Tryz.underlying9 (by omega) (by omega);have cs := fun w => runes_space (byteAt s (gk - 1)) w (byteAt_lt s _)
      have hyes := hiFrom_yes (s := s) hlt;have hno := hiFrom_no (s := s) hlt;generalize byteAt s (gk - 1) = b at *;cases hsp : spaceB b
      ·have HN := qh ((hno hsp).symm.trans HL.out);rw [hsp] at cs;clear hyes hno hsp;go_wp2_with fail;refine cl.mono ?_;rintro e w1 ⟨rfl, rfl⟩;go_wp2_with fail;refine (cs _).mono ?_;rintro e w1 ⟨rfl, rfl⟩;go_wp2_with fail;go_meet;exact ⟨by rw [<- HN.out]; exact HB.out, by rw [<- HN.out]; omega, by rw [<- HN.out]; omega⟩
      ·have HN := qh ((hyes hsp).symm.trans HL.out);rw [hsp] at cs;clear hyes hno hsp;go_wp2_with fail;refine cl.mono ?_;rintro e w1 ⟨rfl, rfl⟩;go_wp2_with fail;refine (cs _).mono ?_;rintro e w1 ⟨rfl, rfl⟩;go_wp2;go_roundg (gk - 1)
       case measure => omega
       case rel => exact ⟨by omega, by omega, HB.out.setHi (gk - 1) _ (by go_num), HN.out⟩
     ·obtain rfl : lo = gk := by omega
      have he : (s.extract lo lo).toList.isEmpty = true := by rw [part_empty hj]; simp
      have HN := qh ((hiFrom_at s lo).symm.trans HL.out);go_wp2_with fail;refine cl.mono ?_;rintro e w1 ⟨rfl, rfl⟩;go_wp2_with fail;go_meet;exact ⟨by rw [<- HN.out]; exact HB.out, by rw [<- HN.out]; omega, by rw [<- HN.out]; omega⟩
   case rest =>
    clear hb;obtain ⟨hb, hle, hhi⟩ := hcut;have hcore : parseOf s = coreOf s lo (hiFrom s lo s.size) := by rw [parseOf, hl0]
    generalize hiFrom s lo s.size = hi at *;have cl := left_any s w g h lo hi _ hb hle hhi;have HC := qh hcore;clear hcore hl0;cases hn : negAt s lo hi
    ·cases hp : plusAt s lo hi
     ·have cn := prefix_neg s lo hi hhi wc;have co := prefix_plus s lo hi hhi wc;rw [hn] at cn;rw [hp] at co;have hcore : parseOf s = restOf s lo hi false := by rw [HC.out, coreOf, hn, hp]; rfl
      clear hn hp cl HC;have cl0 := left_any s w g h lo hi wc hb hle hhi;go_wp2_with fail;refine cl0.mono ?_;rintro e w1 ⟨rfl, rfl⟩;go_wp2_with fail;refine cn.mono ?_;rintro e w1 ⟨rfl, rfl⟩;go_wp2_with fail;refine cl0.mono ?_;rintro e w1 ⟨rfl, rfl⟩;go_wp2_with fail;refine co.mono ?_;rintro e w1 ⟨rfl, rfl⟩;clear cn co cl0;have hb2 := hb;have hple := hle;clear hb hle;generalize lo = p at *;have c2 := cell_of_one hb2.lo;have f2 := free_of_one hb2.lo;have cl := left_any s w g h p hi wc hb2 hple hhi;have CORE := qh hcore;have HB := qh hb2;clear hcore hb2;cases hx : lowX s p hi
      ·cases hy : bigX s p hi
       ·have cp := prefix_low s p hi hhi wc;have cq := prefix_big s p hi hhi wc;rw [hx] at cp;rw [hy] at cq;have HR := qh (CORE.out.trans (rest_no false hx hy));clear hx hy;go_wp2_with fail;refine cl.mono ?_;rintro e w1 ⟨rfl, rfl⟩;go_wp2_with fail;refine cp.mono ?_;rintro e w1 ⟨rfl, rfl⟩;go_wp2_with fail;refine cl.mono ?_;rintro e w1 ⟨rfl, rfl⟩;go_wp2_with fail;refine cq.mono ?_;rintro e w1 ⟨rfl, rfl⟩;go_wp2_with fail;refine cl.mono ?_;rintro e w1 ⟨rfl, rfl⟩;go_wp2_with fail;refine (decimal_any (s.extract p hi) false wc (by rw [part_size hhi]; omega) (HV.out.below HB.out.below)).mono ?_;rintro e w3 ⟨rfl, hb3⟩;go_wp2;go_ret2;exact parse_of (HR.out.trans (by rw [Lib.extract_data])) (grew_trans HB.out.below hb3)
       ·have cp := prefix_low s p hi hhi wc;have cq := prefix_big s p hi hhi wc;rw [hx] at cp;rw [hy] at cq;have hp2 := bigX_lt hy;have HR := qh (CORE.out.trans (rest_big false hy));clear hx hy;have HB3 := qh (HB.out.setLo (p + 2) (.int .i64 ((p : Int) + 2)) (by go_num));go_wp2_with fail;refine cl.mono ?_;rintro e w1 ⟨rfl, rfl⟩;go_wp2_with fail;refine cp.mono ?_;rintro e w1 ⟨rfl, rfl⟩;go_wp2_with fail;refine cl.mono ?_;rintro e w1 ⟨rfl, rfl⟩;go_wp2_with fail;refine cq.mono ?_;rintro e w1 ⟨rfl, rfl⟩;go_wp2_with fail;refine (left_any s w g h (p + 2) hi _ HB3.out hp2 hhi).mono ?_;rintro e w1 ⟨rfl, rfl⟩;go_wp2_with fail;refine (hexadecimal_any (s.extract (p + 2) hi) false _ (by rw [part_size hhi]; omega)).mono ?_;rintro e w1 ⟨rfl, rfl⟩;go_wp2;go_ret2;exact parse_of (HR.out.trans (by rw [Lib.extract_data])) HB3.out.below
      ·have cp := prefix_low s p hi hhi wc;rw [hx] at cp;have hp2 := lowX_lt hx;have HR := qh (CORE.out.trans (rest_low false hx));clear hx;have HB3 := qh (HB.out.setLo (p + 2) (.int .i64 ((p : Int) + 2)) (by go_num));go_wp2_with fail;refine cl.mono ?_;rintro e w1 ⟨rfl, rfl⟩;go_wp2_with fail;refine cp.mono ?_;rintro e w1 ⟨rfl, rfl⟩;go_wp2_with fail;refine (left_any s w g h (p + 2) hi _ HB3.out hp2 hhi).mono ?_;rintro e w1 ⟨rfl, rfl⟩;go_wp2_with fail;refine (hexadecimal_any (s.extract (p + 2) hi) false _ (by rw [part_size hhi]; omega)).mono ?_;rintro e w1 ⟨rfl, rfl⟩;go_wp2;go_ret2;exact parse_of (HR.out.trans (by rw [Lib.extract_data])) HB3.out.below
     ·have hp1 := plusAt_lt hp;have cn := prefix_neg s lo hi hhi wc;have co := prefix_plus s lo hi hhi wc;rw [hn] at cn;rw [hp] at co;have hcore : parseOf s = restOf s (lo + 1) hi false := by rw [HC.out, coreOf, hn, hp]; rfl
      have c2 := cell_of_one hb.lo;have f2 := free_of_one hb.lo;have hb2 := hb.setLo (lo + 1) (.int .i64 ((lo : Int) + 1)) (by go_num);have HB2 := qh hb2;have HCORE := qh hcore;clear hn hp HC hb hb2 hcore;go_wp2_with fail;refine cl.mono ?_;rintro e w1 ⟨rfl, rfl⟩;go_wp2_with fail;refine cn.mono ?_;rintro e w1 ⟨rfl, rfl⟩;go_wp2_with fail;refine cl.mono ?_;rintro e w1 ⟨rfl, rfl⟩;go_wp2_with fail;refine co.mono ?_;rintro e w1 ⟨rfl, rfl⟩;clear cn co cl;go_wp2_with fail;have hb2 := HB2.out;have hcore := HCORE.out;clear HB2 HCORE c2 f2;generalize wc.setCell ⟨g, 0, none⟩ (.int .i64 ((lo : Int) + 1)) = W2 at *;generalize lo + 1 = p at *;have hple := hp1;have c2 := cell_of_one hb2.lo;have f2 := free_of_one hb2.lo;have cl := left_any s w g h p hi W2 hb2 hple hhi;have CORE := qh hcore;have HB := qh hb2;clear hcore hb2;cases hx : lowX s p hi
      ·cases hy : bigX s p hi
       ·have cp := prefix_low s p hi hhi W2;have cq := prefix_big s p hi hhi W2;rw [hx] at cp;rw [hy] at cq;have HR := qh (CORE.out.trans (rest_no false hx hy));clear hx hy;go_wp2_with fail;refine cl.mono ?_;rintro e w1 ⟨rfl, rfl⟩;go_wp2_with fail;refine cp.mono ?_;rintro e w1 ⟨rfl, rfl⟩;go_wp2_with fail;refine cl.mono ?_;rintro e w1 ⟨rfl, rfl⟩;go_wp2_with fail;refine cq.mono ?_;rintro e w1 ⟨rfl, rfl⟩;go_wp2_with fail;refine cl.mono ?_;rintro e w1 ⟨rfl, rfl⟩;go_wp2_with fail;refine (decimal_any (s.extract p hi) false W2 (by rw [part_size hhi]; omega) (HV.out.below HB.out.below)).mono ?_;rintro e w3 ⟨rfl, hb3⟩;go_wp2;go_ret2;exact parse_of (HR.out.trans (by rw [Lib.extract_data])) (grew_trans HB.out.below hb3)
       ·have cp := prefix_low s p hi hhi W2;have cq := prefix_big s p hi hhi W2;rw [hx] at cp;rw [hy] at cq;have hp2 := bigX_lt hy;have HR := qh (CORE.out.trans (rest_big false hy));clear hx hy;have HB3 := qh (HB.out.setLo (p + 2) (.int .i64 ((p : Int) + 2)) (by go_num));go_wp2_with fail;refine cl.mono ?_;rintro e w1 ⟨rfl, rfl⟩;go_wp2_with fail;refine cp.mono ?_;rintro e w1 ⟨rfl, rfl⟩;go_wp2_with fail;refine cl.mono ?_;rintro e w1 ⟨rfl, rfl⟩;go_wp2_with fail;refine cq.mono ?_;rintro e w1 ⟨rfl, rfl⟩;go_wp2_with fail;refine (left_any s w g h (p + 2) hi _ HB3.out hp2 hhi).mono ?_;rintro e w1 ⟨rfl, rfl⟩;go_wp2_with fail;refine (hexadecimal_any (s.extract (p + 2) hi) false _ (by rw [part_size hhi]; omega)).mono ?_;rintro e w1 ⟨rfl, rfl⟩;go_wp2;go_ret2;exact parse_of (HR.out.trans (by rw [Lib.extract_data])) HB3.out.below
      ·have cp := prefix_low s p hi hhi W2;rw [hx] at cp;have hp2 := lowX_lt hx;have HR := qh (CORE.out.trans (rest_low false hx));clear hx;have HB3 := qh (HB.out.setLo (p + 2) (.int .i64 ((p : Int) + 2)) (by go_num));go_wp2_with fail;refine cl.mono ?_;rintro e w1 ⟨rfl, rfl⟩;go_wp2_with fail;refine cp.mono ?_;rintro e w1 ⟨rfl, rfl⟩;go_wp2_with fail;refine (left_any s w g h (p + 2) hi _ HB3.out hp2 hhi).mono ?_;rintro e w1 ⟨rfl, rfl⟩;go_wp2_with fail;refine (hexadecimal_any (s.extract (p + 2) hi) false _ (by rw [part_size hhi]; omega)).mono ?_;rintro e w1 ⟨rfl, rfl⟩;go_wp2;go_ret2;exact parse_of (HR.out.trans (by rw [Lib.extract_data])) HB3.out.below
    ·have hp1 := negAt_lt hn;have cn := prefix_neg s lo hi hhi wc;rw [hn] at cn;have hcore : parseOf s = restOf s (lo + 1) hi true := by rw [HC.out, coreOf, hn]; rfl
     have c2 := cell_of_one hb.lo;have f2 := free_of_one hb.lo;have hb2 := hb.setLo (lo + 1) (.int .i64 ((lo : Int) + 1)) (by go_num);have HB2 := qh hb2;have HCORE := qh hcore;clear hn HC hb hb2 hcore;go_wp2_with fail;refine cl.mono ?_;rintro e w1 ⟨rfl, rfl⟩;go_wp2_with fail;refine cn.mono ?_;rintro e w1 ⟨rfl, rfl⟩;clear cn cl;go_wp2_with fail;have hb2 := HB2.out;have hcore := HCORE.out;clear HB2 HCORE c2 f2;generalize wc.setCell ⟨g, 0, none⟩ (.int .i64 ((lo : Int) + 1)) = W2 at *;generalize lo + 1 = p at *;have hple := hp1;have c2 := cell_of_one hb2.lo;have f2 := free_of_one hb2.lo;have cl := left_any s w g h p hi W2 hb2 hple hhi;have CORE := qh hcore;have HB := qh hb2;clear hcore hb2;cases hx : lowX s p hi
     ·cases hy : bigX s p hi
      ·have cp := prefix_low s p hi hhi W2;have cq := prefix_big s p hi hhi W2;rw [hx] at cp;rw [hy] at cq;have HR := qh (CORE.out.trans (rest_no true hx hy));clear hx hy;go_wp2_with fail;refine cl.mono ?_;rintro e w1 ⟨rfl, rfl⟩;go_wp2_with fail;refine cp.mono ?_;rintro e w1 ⟨rfl, rfl⟩;go_wp2_with fail;refine cl.mono ?_;rintro e w1 ⟨rfl, rfl⟩;go_wp2_with fail;refine cq.mono ?_;rintro e w1 ⟨rfl, rfl⟩;go_wp2_with fail;refine cl.mono ?_;rintro e w1 ⟨rfl, rfl⟩;go_wp2_with fail;refine (decimal_any (s.extract p hi) true W2 (by rw [part_size hhi]; omega) (HV.out.below HB.out.below)).mono ?_;rintro e w3 ⟨rfl, hb3⟩;go_wp2;go_ret2;exact parse_of (HR.out.trans (by rw [Lib.extract_data])) (grew_trans HB.out.below hb3)
      ·have cp := prefix_low s p hi hhi W2;have cq := prefix_big s p hi hhi W2;rw [hx] at cp;rw [hy] at cq;have hp2 := bigX_lt hy;have HR := qh (CORE.out.trans (rest_big true hy));clear hx hy;have HB3 := qh (HB.out.setLo (p + 2) (.int .i64 ((p : Int) + 2)) (by go_num));go_wp2_with fail;refine cl.mono ?_;rintro e w1 ⟨rfl, rfl⟩;go_wp2_with fail;refine cp.mono ?_;rintro e w1 ⟨rfl, rfl⟩;go_wp2_with fail;refine cl.mono ?_;rintro e w1 ⟨rfl, rfl⟩;go_wp2_with fail;refine cq.mono ?_;rintro e w1 ⟨rfl, rfl⟩;go_wp2_with fail;refine (left_any s w g h (p + 2) hi _ HB3.out hp2 hhi).mono ?_;rintro e w1 ⟨rfl, rfl⟩;go_wp2_with fail;refine (hexadecimal_any (s.extract (p + 2) hi) true _ (by rw [part_size hhi]; omega)).mono ?_;rintro e w1 ⟨rfl, rfl⟩;go_wp2;go_ret2;exact parse_of (HR.out.trans (by rw [Lib.extract_data])) HB3.out.below
     ·have cp := prefix_low s p hi hhi W2;rw [hx] at cp;have hp2 := lowX_lt hx;have HR := qh (CORE.out.trans (rest_low true hx));clear hx;have HB3 := qh (HB.out.setLo (p + 2) (.int .i64 ((p : Int) + 2)) (by go_num));go_wp2_with fail;refine cl.mono ?_;rintro e w1 ⟨rfl, rfl⟩;go_wp2_with fail;refine cp.mono ?_;rintro e w1 ⟨rfl, rfl⟩;go_wp2_with fail;refine (left_any s w g h (p + 2) hi _ HB3.out hp2 hhi).mono ?_;rintro e w1 ⟨rfl, rfl⟩;go_wp2_with fail;refine (hexadecimal_any (s.extract (p + 2) hi) true _ (by rw [part_size hhi]; omega)).mono ?_;rintro e w1 ⟨rfl, rfl⟩;go_wp2;go_ret2;exact parse_of (HR.out.trans (by rw [Lib.extract_data])) HB3.out.below
end Go.Proofs.YtnkejjlidgnkkaaGreatDoor.Num
namespace Go.Proofs.YtnkejjlidgnkkaaGreatDoor

open Go.Lib renaming hid → qh
open Go.RowKit
def escT (l : List UInt8) : ByteArray := match escL l with | some (t, _) => ⟨t.toArray⟩ | none => ⟨#[]⟩
def escN (l : List UInt8) : Nat := match escL l with | some (_, k) => k - 1 | none => 0
def escO (l : List UInt8) : Bool := (escL l).isSome
def EscIs (r : ByteArray) (w : World) (e : Ending) (w' : World) : Prop :=
 e = .returned (.tuple #[.string (escT r.data.toList), .int .i64 (escN r.data.toList : Nat), .bool (escO r.data.toList)]) /\ Below w.heap.size w w'
theorem esc_none {r : ByteArray} {w w' : World} (h : escL r.data.toList = none) (hb : Below w.heap.size w w') : EscIs r w (.returned (.tuple #[.string ⟨#[]⟩, .int .i64 0, .bool false])) w' := by
 refine ⟨?_, hb⟩;rw [escT, escN, escO, h]
 rfl
theorem esc_some {r T : ByteArray} {k : Nat} {t : List UInt8} {x : Int} {w w' : World} (h : escL r.data.toList = some (t, k + 1)) (hT : T.data.toList = t) (hx : x = k) (hb : Below w.heap.size w w') :
  EscIs r w (.returned (.tuple #[.string T, .int .i64 x, .bool true])) w' := by
 refine ⟨?_, hb⟩;obtain ⟨⟨l⟩⟩ := T;subst hT hx;rw [escT, escN, escO, h]
 rfl
theorem run_yes {base m a v : Nat} {c : UInt8} {r : List UInt8} (h : hexD c.toNat = some v) (hv : v < base) : runN base (m + 1) (c :: r) a = ((runN base m r (a * base + v)).1, (runN base m r (a * base + v)).2 + 1) := by
 rw [runN, h]; exact if_pos hv
theorem run_no {base m a : Nat} {c : UInt8} {r : List UInt8} (h : hexD c.toNat = none \/ ∃ v, hexD c.toNat = some v /\ base <= v) : runN base (m + 1) (c :: r) a = (a, 0) := by
 rcases h with h | ⟨v, h, hv⟩
 ·rw [runN, h]
 ·rw [runN, h]; exact if_neg (by omega)
theorem run_nil {base m a : Nat} : runN base m [] a = (a, 0) := by cases m <;> rfl
theorem hexD_dig {b : Nat} (h : 48 <= b /\ b <= 57) : hexD b = some (b - 48) := by unfold hexD; rw [if_pos h]
theorem hexD_not {b : Nat} (h : ¬ (48 <= b /\ b <= 57)) : hexD b = none \/ ∃ v, hexD b = some v /\ 10 <= v := by
 unfold hexD;rw [if_neg h]
 split
 ·exact .inr ⟨_, rfl, by omega⟩
 ·split
  ·exact .inr ⟨_, rfl, by omega⟩
  ·exact .inl rfl
theorem run_stop {r : ByteArray} {k m a : Nat} (hk : k <= r.size) (h : k = r.size \/ digitB (byteAt r k) = false) : runN 10 m (r.data.toList.drop k) a = (a, 0) := by
 by_cases hlt : k < r.size
 ·have hd : digitB (byteAt r k) = false := h.resolve_left (by omega);obtain ⟨c, e, hl⟩ := drop_at r k hlt;rw [hl];cases m with
  | zero => rfl
  | succ m =>
   refine run_no (hexD_not ?_);rw [e];unfold digitB at hd
   simpa using hd
 ·obtain rfl : k = r.size := by omega
  rw [drop_end, run_nil]
theorem pu_yes {acc : Nat} {c : UInt8} {r : List UInt8} (h : 48 <= c.toNat /\ c.toNat <= 57) (ha : acc <= 1000) : Lib.parseUint10 acc (c :: r) = Lib.parseUint10 (acc * 10 + (c.toNat - 48)) r := by
 rw [Lib.parseUint10, if_pos h, if_neg (by omega), if_neg (by omega)]
theorem digit_is {b : Nat} (h : digitB b = true) : 48 <= b /\ b <= 57 := by unfold digitB at h; simpa using h
theorem dec_run (r : ByteArray) (k : Nat) (hk1 : 1 <= k) (hk3 : k <= 3) (hks : k <= r.size) (hd : ∀ j, j < k -> digitB (byteAt r j) = true) (hstop : k = 3 \/ k = r.size \/ digitB (byteAt r k) = false) :
  ∃ v, runN 10 3 r.data.toList 0 = (v, k) /\ Lib.parseMag (r.extract 0 k).data.toList = .ok v /\ v <= 999 := by
 obtain ⟨c0, e0, l0⟩ := drop_at r 0 (by omega);rw [List.drop_zero] at l0;have g0 := digit_is (hd 0 (by omega));rw [<- e0] at g0;rw [Lib.extract_data, List.drop_zero, Nat.sub_zero];rcases (show k = 1 \/ k = 2 \/ k = 3 from by omega) with rfl | rfl | rfl
 ·have s1 := run_stop (m := 2) (a := 0 * 10 + (c0.toNat - 48)) hks (hstop.resolve_left (by omega));refine ⟨0 * 10 + (c0.toNat - 48), ?_, ?_, by omega⟩
  ·rw [l0, run_yes (hexD_dig g0) (by omega), s1]
  ·rw [l0]
   show Lib.parseMag [c0] = _;rw [Lib.parseMag, if_neg (by simp), pu_yes g0 (by omega)]; rfl
 ·obtain ⟨c1, e1, l1⟩ := drop_at r (0 + 1) (by omega);have g1 := digit_is (hd 1 (by omega));rw [<- e1] at g1;have s1 := run_stop (m := 1) (a := (0 * 10 + (c0.toNat - 48)) * 10 + (c1.toNat - 48)) hks (hstop.resolve_left (by omega));refine ⟨(0 * 10 + (c0.toNat - 48)) * 10 + (c1.toNat - 48), ?_, ?_, by omega⟩
  ·rw [l0, run_yes (hexD_dig g0) (by omega), l1, run_yes (hexD_dig g1) (by omega), s1]
  ·rw [l0, l1]
   show Lib.parseMag [c0, c1] = _;rw [Lib.parseMag, if_neg (by simp), pu_yes g0 (by omega), pu_yes g1 (by omega)]; rfl
 ·obtain ⟨c1, e1, l1⟩ := drop_at r (0 + 1) (by omega);have g1 := digit_is (hd 1 (by omega));rw [<- e1] at g1;obtain ⟨c2, e2, l2⟩ := drop_at r (0 + 1 + 1) (by omega);have g2 := digit_is (hd 2 (by omega));rw [<- e2] at g2;refine ⟨((0 * 10 + (c0.toNat - 48)) * 10 + (c1.toNat - 48)) * 10 + (c2.toNat - 48), ?_, ?_, by omega⟩
  ·rw [l0, run_yes (hexD_dig g0) (by omega), l1, run_yes (hexD_dig g1) (by omega), l2, run_yes (hexD_dig g2) (by omega)]; rfl
  ·rw [l0, l1, l2]
   show Lib.parseMag [c0, c1, c2] = _;rw [Lib.parseMag, if_neg (by simp), pu_yes g0 (by omega), pu_yes g1 (by omega), pu_yes g2 (by omega)]; rfl
theorem esc_digits {r : ByteArray} {v k : Nat} (h0 : 0 < r.size) (hd : digitB (byteAt r 0) = true) (hk : 1 <= k) (h : runN 10 3 r.data.toList 0 = (v, k)) :
  escL r.data.toList = if v <= 255 then some ([UInt8.ofNat v], k + 1) else none := by
 have hb := digit_is hd;have hl : letterN (byteAt r 0) = none := by
  unfold letterN;rw [if_neg (by omega), if_neg (by omega), if_neg (by omega), if_neg (by omega), if_neg (by omega), if_neg (by omega), if_neg (by omega), if_neg (by omega), if_neg (by omega), if_neg (by omega)]
 have := esc_num (s := r) (p := 0) h0 (by omega) hl (by omega) (by omega) (by omega);rw [List.drop_zero, h] at this;rw [this];by_cases hv : v <= 255
 ·rw [if_pos ⟨hk, hv⟩, if_pos hv]
 ·rw [if_neg (fun g => hv g.2), if_neg hv]
theorem hexD_at {b v : Nat} (h : hexB b = true) (hv : hexV b = v) : hexD b = some v := by rw [hexD_some h, hv]; rfl
theorem hex_at_yes {r : ByteArray} {p m a v : Nat} (h : p < r.size) (hb : hexB (byteAt r p) = true) (hv : hexV (byteAt r p) = v) (h16 : v < 16) :
  runN 16 (m + 1) (r.data.toList.drop p) a = ((runN 16 m (r.data.toList.drop (p + 1)) (a * 16 + v)).1, (runN 16 m (r.data.toList.drop (p + 1)) (a * 16 + v)).2 + 1) := by
 obtain ⟨c, e, hl⟩ := drop_at r p h;rw [hl, run_yes (by rw [e]; exact hexD_at hb hv) h16]
theorem hex_at_no {r : ByteArray} {p m a : Nat} (h : p < r.size) (hb : hexB (byteAt r p) = false) : runN 16 m (r.data.toList.drop p) a = (a, 0) := by
 obtain ⟨c, e, hl⟩ := drop_at r p h;cases m with
 | zero => rfl
 | succ m => rw [hl, run_no (.inl (by rw [e]; exact hexD_none hb))]
theorem hex_at_end {r : ByteArray} {p m a : Nat} (h : r.size <= p) : runN 16 m (r.data.toList.drop p) a = (a, 0) := by
 rw [List.drop_of_length_le (show r.data.toList.length <= p from h), run_nil]
theorem esc_x_no {r : ByteArray} (h0 : 0 < r.size) (hx : byteAt r 0 = 120) (h : r.size < 3 \/ hexB (byteAt r 1) = false \/ hexB (byteAt r 2) = false) : escL r.data.toList = none := by
 have he := esc_x (s := r) (p := 0) h0 hx;rw [List.drop_zero] at he;rw [he, if_neg];intro h2;have hc := run_count 16 2 (r.data.toList.drop (0 + 1)) 0;rw [List.length_drop, h2, show r.data.toList.length = r.size from rfl] at hc;cases h1 : hexB (byteAt r (0 + 1)) with
 | false => rw [hex_at_no (by omega) h1] at h2; cases h2
 | true =>
  obtain ⟨v, hv⟩ : ∃ v : Nat, hexV (byteAt r (0 + 1)) = v := ⟨(hexV (byteAt r (0 + 1))).toNat, by have := hexV_range (byteAt r (0 + 1)); omega⟩;have h16 := hexV_range (byteAt r (0 + 1));rw [hex_at_yes (by omega) h1 hv (by omega)] at h2;have h3 : hexB (byteAt r (0 + 1 + 1)) = false := (h.resolve_left (by omega)).resolve_left (by rw [show (1 : Nat) = 0 + 1 from rfl, h1]; decide);rw [hex_at_no (by omega) h3] at h2;cases h2
theorem esc_x_yes {r : ByteArray} {v u : Nat} (h3 : 3 <= r.size) (hx : byteAt r 0 = 120) (h1 : hexB (byteAt r 1) = true) (h2 : hexB (byteAt r 2) = true) (hv : hexV (byteAt r 1) = v) (hu : hexV (byteAt r 2) = u) :
  escL r.data.toList = some ([UInt8.ofNat (v * 16 + u)], 3 + 1) := by
 have he := esc_x (s := r) (p := 0) (by omega) hx;have b1 := hexV_range (byteAt r 1);have b2 := hexV_range (byteAt r 2);rw [List.drop_zero] at he;have hr : runN 16 2 (r.data.toList.drop (0 + 1)) 0 = (v * 16 + u, 2) := by
  rw [hex_at_yes (p := 0 + 1) (by omega) h1 hv (by omega), hex_at_yes (p := 0 + 1 + 1) (by omega) h2 hu (by omega), show runN 16 0 (r.data.toList.drop (0 + 1 + 1 + 1)) ((0 * 16 + v) * 16 + u) = ((0 * 16 + v) * 16 + u, 0) from rfl, Nat.zero_mul, Nat.zero_add]
 rw [he, hr, if_pos rfl]
theorem or16 (a v : Nat) (ha : a <= 2147483648) (hv : v <= 15) : bits .or .i64 ((a : Int) * 16) (v : Int) = (a : Int) * 16 + v := by
 have h1 : (BitVec.ofInt 64 ((a : Int) * 16)).toNat = a * 16 := by rw [BitVec.toNat_ofInt]; omega
 have h2 : (BitVec.ofInt 64 (v : Int)).toNat = v := by rw [BitVec.toNat_ofInt]; omega
 show IntKind.i64.wrap ((BitVec.ofInt 64 ((a : Int) * 16) ||| BitVec.ofInt 64 (v : Int)).toNat : Nat) = _;rw [BitVec.toNat_or, h1, h2, nat_join 4 _ _ (by omega) (by omega), IntKind.wrap_i64];omega
theorem cap16 (a v : Nat) : min (min a 2147483648 * 16 + v) 2147483648 = min (a * 16 + v) 2147483648 := by omega
def ownLetters : ByteArray := ⟨#[97, 98, 102, 110, 114, 116, 118, 92, 34, 39]⟩
def ownWorths : ByteArray := ⟨#[7, 8, 12, 10, 13, 9, 11, 92, 34, 39]⟩
theorem own_miss : ∀ b < 256, letterN b = none -> Lib.indexByte ownLetters.data.toList (UInt8.ofNat b) = -1 := by decide +kernel
theorem own_hit : ∀ b < 256, ∀ v, letterN b = some v -> ∃ k : Nat, k < 10 /\ Lib.indexByte ownLetters.data.toList (UInt8.ofNat b) = k /\ (ownWorths.extract k (k + 1)).data.toList = [UInt8.ofNat v] := by
 have h : ∀ b < 256, ((letterN b).all fun v => (List.range 10).any fun k => decide (Lib.indexByte ownLetters.data.toList (UInt8.ofNat b) = k) && decide ((ownWorths.extract k (k + 1)).data.toList = [UInt8.ofNat v])) = true := by decide +kernel
 intro b hb v hv;have := h b hb;rw [hv] at this;simp only [Option.all_some, List.any_eq_true, List.mem_range, Bool.and_eq_true, decide_eq_true_eq] at this;obtain ⟨k, h1, h2, h3⟩ := this;exact ⟨k, h1, h2, h3⟩
def lineK (r : ByteArray) : Nat := if isB r 1 (23 - byteAt r 0) = true then 2 else 1
theorem esc_line_at {r : ByteArray} (h : 0 < r.size) (hb : byteAt r 0 = 10 \/ byteAt r 0 = 13) : escL r.data.toList = some ([10], lineK r + 1) := by
 have := esc_line (s := r) (p := 0) h hb;rw [List.drop_zero] at this;rw [this, lineK, Nat.zero_add]
 split <;> rfl
end Go.Proofs.YtnkejjlidgnkkaaGreatDoor
namespace Go.Proofs.YtnkejjlidgnkkaaGreatDoor.Num

open Go.Lib renaming hid → qh
open Go.RowKit
theorem whole_list (s : ByteArray) : (s.extract 0 s.size).data.toList = s.data.toList := by
 rw [Lib.extract_data, List.drop_zero, Nat.sub_zero];exact List.take_of_length_le (Nat.le_refl _)
theorem whole_text (s : ByteArray) : s.extract 0 s.size = s := by
 apply ByteArray.ext
 apply Array.ext'
 exact whole_list s
theorem digit_space {b : Nat} (h : 48 <= b /\ b <= 57) : spaceB b = false := by unfold spaceB; rw [decide_eq_false (by omega)]
theorem uint_ok (s : ByteArray) (u : Nat) (w : World) (hs : s.size <= 1000000000) (h : Lib.parseMag s.data.toList = .ok u) :
  Calls Tryz.prog 156 #[.string s, .int .i64 10, .int .i64 64] w fun e w' => e = .returned (.tuple #[.int .u64 u, .nilIface]) /\ Below w.heap.size w w' := by
 refine (Tryz.strconv_ParseUint_10_at64_ok s (by omega) u ((Lib.parseUintB_64 s.data.toList).trans h) w).mono ?_;rintro e w' ⟨rfl, h'⟩;refine ⟨rfl, ?_⟩;rcases h' with rfl | rfl
 ·exact Below.refl _ _
 ·exact Lib.bytesWorld_below _ _ _
theorem sign_small {u : Nat} (h : u <= 999) : signN false u = u := by unfold signN wrap64; simp only [Bool.false_eq_true, if_false]; omega
theorem decimal_ok (s : ByteArray) (u : Nat) (w : World) (hs : s.size <= 1000000000) (h : Lib.parseMag s.data.toList = .ok u) (hu : u <= 999) :
  Calls Tryz.prog 129 #[.string s, .bool false] w fun e w' => e = .returned (.tuple #[.int .i64 u, .bool true]) /\ Below w.heap.size w w' := by
 have c := uint_ok s u w hs h;have hm : ¬ (9223372036854775807 : Int) < u := by omega
 have s1 := fun w => signed_any u false w
 rw [sign_small hu, show (u : Int) % 18446744073709551616 = u from by omega] at s1;clear h;go_enter Tryz.func129, Tryz.ntmps129;go_wp2_with fail;refine c.mono ?_;rintro e w1 ⟨rfl, b1⟩;have B1 := qh b1;clear b1 c;go_wp2_with fail;refine (s1 _).mono ?_;rintro e w2 ⟨rfl, rfl⟩;go_wp2;go_ret2;exact ⟨rfl, B1.out⟩
theorem parse_digits (s : ByteArray) (u : Nat) (w : World) (h0 : 0 < s.size) (hs : s.size <= 3) (hd : ∀ k, k < s.size -> 48 <= byteAt s k /\ byteAt s k <= 57) (h : Lib.parseMag s.data.toList = .ok u) (hu : u <= 999) :
  Calls Tryz.prog 93 #[.string s] w fun e w' => e = .returned (.tuple #[.int .i64 u, .bool true]) /\ Below w.heap.size w w' := by
 have d0 := hd 0 h0;have d9 := hd (s.size - 1) (by omega);have cs0 := fun w => runes_space (byteAt s 0) w (byteAt_lt s 0)
 have cs9 := fun w => runes_space (byteAt s (s.size - 1)) w (byteAt_lt s _)
 rw [digit_space d0] at cs0;rw [digit_space d9] at cs9;have hn : negAt s 0 s.size = false := by unfold negAt; rw [decide_eq_false (p := byteAt s 0 = 45) (by omega), Bool.and_false]
 have hp : plusAt s 0 s.size = false := by unfold plusAt; rw [decide_eq_false (p := byteAt s 0 = 43) (by omega), Bool.and_false]
 have hx : lowX s 0 s.size = false := by
  unfold lowX;by_cases g : 0 + 1 < s.size
  ·have := hd (0 + 1) g;rw [decide_eq_false (p := byteAt s 0 = 48 /\ byteAt s (0 + 1) = 120) (by omega), Bool.and_false]
  ·rw [decide_eq_false g, Bool.false_and]
 have hy : bigX s 0 s.size = false := by
  unfold bigX;by_cases g : 0 + 1 < s.size
  ·have := hd (0 + 1) g;rw [decide_eq_false (p := byteAt s 0 = 48 /\ byteAt s (0 + 1) = 88) (by omega), Bool.and_false]
  ·rw [decide_eq_false g, Bool.false_and]
 have cn := fun w => prefix_neg s 0 s.size (Nat.le_refl _) w
 have co := fun w => prefix_plus s 0 s.size (Nat.le_refl _) w
 have cp := fun w => prefix_low s 0 s.size (Nat.le_refl _) w
 have cq := fun w => prefix_big s 0 s.size (Nat.le_refl _) w
 rw [hn, whole_text] at cn;rw [hp, whole_text] at co;rw [hx, whole_text] at cp;rw [hy, whole_text] at cq;have cd := fun w => decimal_ok s u w (by omega) h hu
 have he : s.toList.isEmpty = false := by
  have := part_empty (s := s) (i := 0) (Nat.le_refl _);rw [whole_text, decide_eq_false (by omega)] at this;exact this
 have x0 := run_index_at (P := Tryz.prog) 9 s 0 0 Tryz.underlying9 h0 rfl;have x9 := run_index_at (P := Tryz.prog) 9 s ((s.size : Int) - 1) (s.size - 1) Tryz.underlying9 (by omega) (by omega);generalize byteAt s 0 = a at *;generalize byteAt s (s.size - 1) = z at *;clear hn hp hx hy d0 d9 hd h;go_enter Tryz.func93, Tryz.ntmps93;go_upto_region 1 with fail;go_cut [4, 5] (fun p q wx => ∃ g h : Nat, p = .pointer (some ⟨g, 0, none⟩) /\ q = .pointer (some ⟨h, 0, none⟩) /\ Boxes s w g h 0 s.size wx)
 case first =>
  go_region
  ·go_wp2_with fail;go_meet;exact ⟨_, _, rfl, rfl, boxes_one s w s.size⟩
  ·go_wp2_with fail;go_meet;exact ⟨_, _, rfl, rfl, boxes_two s w s.size⟩
 case rest =>
  obtain ⟨g, h, rfl, rfl, hb⟩ := hcut;have c1 := cell_of_one hb.text;have c2 := cell_of_one hb.lo;have c3 := cell_of_one hb.hi;have cl := left_any s w g h 0 s.size wc hb (Nat.zero_le _) (Nat.le_refl _);rw [whole_text] at cl;have HB := qh hb;clear hb;go_wp2_with fail;refine wp_loop_rounds 1 ?_;rw [rounds_succ];go_wp2_with fail;refine cl.mono ?_;rintro e w1 ⟨rfl, rfl⟩;go_wp2_with fail;refine (cs0 _).mono ?_;rintro e w1 ⟨rfl, rfl⟩;go_wp2_with fail;refine wp_loop_rounds 1 ?_;rw [rounds_succ];go_wp2_with fail;refine cl.mono ?_;rintro e w1 ⟨rfl, rfl⟩;go_wp2_with fail;refine (cs9 _).mono ?_;rintro e w1 ⟨rfl, rfl⟩;go_wp2_with fail;refine cl.mono ?_;rintro e w1 ⟨rfl, rfl⟩;go_wp2_with fail;refine (cn _).mono ?_;rintro e w1 ⟨rfl, rfl⟩;go_wp2_with fail;refine cl.mono ?_;rintro e w1 ⟨rfl, rfl⟩;go_wp2_with fail;refine (co _).mono ?_;rintro e w1 ⟨rfl, rfl⟩;go_wp2_with fail;refine cl.mono ?_;rintro e w1 ⟨rfl, rfl⟩;go_wp2_with fail;refine (cp _).mono ?_;rintro e w1 ⟨rfl, rfl⟩;go_wp2_with fail;refine cl.mono ?_;rintro e w1 ⟨rfl, rfl⟩;go_wp2_with fail;refine (cq _).mono ?_;rintro e w1 ⟨rfl, rfl⟩;go_wp2_with fail;refine cl.mono ?_;rintro e w1 ⟨rfl, rfl⟩;go_wp2_with fail;refine (cd _).mono ?_;rintro e w1 ⟨rfl, b1⟩;have B1 := qh b1;clear b1;go_wp2;go_ret2;exact ⟨rfl, grew_trans HB.out.below B1.out⟩
end Go.Proofs.YtnkejjlidgnkkaaGreatDoor.Num
namespace Go.Proofs.YtnkejjlidgnkkaaGreatDoor

open Go.Lib renaming hid → qh
open Go.RowKit
theorem size2 (n : Int) (w : World) (h0 : 0 <= n) (h1 : n < 2048) :
  Calls Tryz.prog 194 #[.int .i64 n] w fun e w' => e = .returned (.int .i64 2) /\ w = w' := by
 go_enter Tryz.func194, Tryz.ntmps194;go_wp2;refine wp_loop_rounds 1 ?_;rw [rounds_succ];go_wp2;go_ret;exact ⟨rfl, rfl⟩
theorem size3 (n : Int) (w : World) (h0 : 2048 <= n) (h1 : n < 65536) :
  Calls Tryz.prog 194 #[.int .i64 n] w fun e w' => e = .returned (.int .i64 3) /\ w = w' := by
 go_enter Tryz.func194, Tryz.ntmps194;go_wp2;refine wp_loop_rounds 2 ?_
 iterate 2 (rw [rounds_succ]; go_wp2)
 go_ret;exact ⟨rfl, rfl⟩
theorem size4 (n : Int) (w : World) (h0 : 65536 <= n) (h1 : n < 2097152) :
  Calls Tryz.prog 194 #[.int .i64 n] w fun e w' => e = .returned (.int .i64 4) /\ w = w' := by
 go_enter Tryz.func194, Tryz.ntmps194;go_wp2;refine wp_loop_rounds 3 ?_
 iterate 3 (rw [rounds_succ]; go_wp2)
 go_ret;exact ⟨rfl, rfl⟩
theorem size5 (n : Int) (w : World) (h0 : 2097152 <= n) (h1 : n < 67108864) :
  Calls Tryz.prog 194 #[.int .i64 n] w fun e w' => e = .returned (.int .i64 5) /\ w = w' := by
 go_enter Tryz.func194, Tryz.ntmps194;go_wp2;refine wp_loop_rounds 4 ?_
 iterate 4 (rw [rounds_succ]; go_wp2)
 go_ret;exact ⟨rfl, rfl⟩
theorem size6 (n : Int) (w : World) (h0 : 67108864 <= n) (h1 : n < 2147483648) :
  Calls Tryz.prog 194 #[.int .i64 n] w fun e w' => e = .returned (.int .i64 6) /\ w = w' := by
 go_enter Tryz.func194, Tryz.ntmps194;go_wp2;refine wp_loop_rounds 5 ?_
 iterate 5 (rw [rounds_succ]; go_wp2)
 go_ret;exact ⟨rfl, rfl⟩
theorem mark_any (k m : Int) (w : World) (h : k = 2 /\ m = 192 \/ k = 3 /\ m = 224 \/ k = 4 /\ m = 240 \/ k = 5 /\ m = 248 \/ k = 6 /\ m = 252) :
  Calls Tryz.prog 195 #[.int .i64 k] w fun e w' => e = .returned (.int .u8 m) /\ w = w' := by
 rcases h with ⟨rfl, rfl⟩ | ⟨rfl, rfl⟩ | ⟨rfl, rfl⟩ | ⟨rfl, rfl⟩ | ⟨rfl, rfl⟩
 all_goals
  go_enter Tryz.func195, Tryz.ntmps195;go_wp2;go_ret;exact ⟨rfl, rfl⟩

open Go.Lib renaming hid → qh
open Go.RowKit
theorem runes_encode_no (n : Int) (w : World) (h : n < 0 \/ 2147483647 < n) :
  Calls Tryz.prog 184 #[.int .i64 n] w fun e w' => e = .returned (.tuple #[.string (encS n), .int .i64 (encE n)]) /\ Below w.heap.size w w' := by
 have e1 : encS n = ⟨#[]⟩ := by unfold encS; rw [if_pos h]
 have e2 : encE n = 10 := by unfold encE; rw [if_pos h]
 rw [e1, e2];clear e1 e2;rcases h with h | h
 all_goals
  go_enter Tryz.func184, Tryz.ntmps184;go_wp2;go_ret2;exact ⟨rfl, Below.refl _ _⟩
theorem runes_encode1 (n : Int) (w : World) (h0 : 0 <= n) (h1 : n < 128) :
  Calls Tryz.prog 184 #[.int .i64 n] w fun e w' => e = .returned (.tuple #[.string (bytesOf [n]), .int .i64 0]) /\ Below w.heap.size w w' := by
 have hcv := fun (w : World) (x : Int) => run_convert_block (P := Tryz.prog) w 78 9 5 [x] (0, 0) Tryz.underlying78 Tryz.underlying5 Tryz.underlying9
 simp only [List.map_cons, List.map_nil, List.length_cons, List.length_nil, Nat.zero_add] at hcv;go_enter Tryz.func184, Tryz.ntmps184;go_wp2;go_ret2;exact ⟨rfl, (Below.refl _ _).alloc (Nat.le_refl _) _⟩
theorem runes_encode2 (n : Int) (w : World) (h0 : 128 <= n) (h1 : n < 2048) :
  Calls Tryz.prog 184 #[.int .i64 n] w fun e w' => e = .returned (.tuple #[.string (bytesOf [192 + n / 64, 128 + n % 64]), .int .i64 0]) /\ Below w.heap.size w w' := by
 have hmk : ∀ w : World, (Instr.makeSlice 78 (.int .i64 2) (.int .i64 2)).run Tryz.prog w = .ok (.slice (some ⟨w.heap.size, 0, none⟩) 2 2) (w.alloc (.cells #[.int .u8 0, .int .u8 0] 5)) := fun _ => by kernel_rfl
 have hcv := fun (w : World) (x y : Int) => run_convert_block (P := Tryz.prog) w 78 9 5 [x, y] (0, 0) Tryz.underlying78 Tryz.underlying5 Tryz.underlying9
 simp only [List.map_cons, List.map_nil, List.length_cons, List.length_nil, Nat.zero_add, Nat.reduceAdd] at hcv;have ha := i64_and63;go_enter Tryz.func184, Tryz.ntmps184;go_wp2_with (go_at_call 194; refine (size2 _ _ (by omega) (by omega)).mono ?_; rintro e w' ⟨rfl, rfl⟩);refine wp_loop_rounds 2 ?_
 iterate 2 (rw [rounds_succ]; go_wp2_with (go_at_call 195; refine (mark_any 2 192 _ (by omega)).mono ?_; rintro e w' ⟨rfl, rfl⟩))
 go_ret2;exact ⟨rfl, (Below.refl _ _).alloc (Nat.le_refl _) _⟩
theorem runes_encode3 (n : Int) (w : World) (h0 : 2048 <= n) (h1 : n < 65536) :
  Calls Tryz.prog 184 #[.int .i64 n] w fun e w' => e = .returned (.tuple #[.string (bytesOf [224 + n / 64 / 64, 128 + n / 64 % 64, 128 + n % 64]), .int .i64 0]) /\ Below w.heap.size w w' := by
 have hmk : ∀ w : World, (Instr.makeSlice 78 (.int .i64 3) (.int .i64 3)).run Tryz.prog w = .ok (.slice (some ⟨w.heap.size, 0, none⟩) 3 3) (w.alloc (.cells #[.int .u8 0, .int .u8 0, .int .u8 0] 5)) := fun _ => by kernel_rfl
 have hcv := fun (w : World) (x y z : Int) => run_convert_block (P := Tryz.prog) w 78 9 5 [x, y, z] (0, 0) Tryz.underlying78 Tryz.underlying5 Tryz.underlying9
 simp only [List.map_cons, List.map_nil, List.length_cons, List.length_nil, Nat.zero_add, Nat.reduceAdd] at hcv;have ha := i64_and63;go_enter Tryz.func184, Tryz.ntmps184;go_wp2_with (go_at_call 194; refine (size3 _ _ (by omega) (by omega)).mono ?_; rintro e w' ⟨rfl, rfl⟩);refine wp_loop_rounds 3 ?_
 iterate 3 (rw [rounds_succ]; go_wp2_with (go_at_call 195; refine (mark_any 3 224 _ (by omega)).mono ?_; rintro e w' ⟨rfl, rfl⟩))
 go_ret2;exact ⟨rfl, (Below.refl _ _).alloc (Nat.le_refl _) _⟩
theorem runes_encode4 (n : Int) (w : World) (h0 : 65536 <= n) (h1 : n < 2097152) :
  Calls Tryz.prog 184 #[.int .i64 n] w fun e w' => e = .returned (.tuple #[.string (bytesOf [240 + n / 64 / 64 / 64, 128 + n / 64 / 64 % 64, 128 + n / 64 % 64, 128 + n % 64]), .int .i64 0]) /\ Below w.heap.size w w' := by
 have hmk : ∀ w : World, (Instr.makeSlice 78 (.int .i64 4) (.int .i64 4)).run Tryz.prog w = .ok (.slice (some ⟨w.heap.size, 0, none⟩) 4 4) (w.alloc (.cells #[.int .u8 0, .int .u8 0, .int .u8 0, .int .u8 0] 5)) := fun _ => by kernel_rfl
 have hcv := fun (w : World) (x y z u : Int) => run_convert_block (P := Tryz.prog) w 78 9 5 [x, y, z, u] (0, 0) Tryz.underlying78 Tryz.underlying5 Tryz.underlying9
 simp only [List.map_cons, List.map_nil, List.length_cons, List.length_nil, Nat.zero_add, Nat.reduceAdd] at hcv;have ha := i64_and63;go_enter Tryz.func184, Tryz.ntmps184;go_wp2_with (go_at_call 194; refine (size4 _ _ (by omega) (by omega)).mono ?_; rintro e w' ⟨rfl, rfl⟩);refine wp_loop_rounds 4 ?_
 iterate 4 (rw [rounds_succ]; go_wp2_with (go_at_call 195; refine (mark_any 4 240 _ (by omega)).mono ?_; rintro e w' ⟨rfl, rfl⟩))
 go_ret2;exact ⟨rfl, (Below.refl _ _).alloc (Nat.le_refl _) _⟩
theorem runes_encode5 (n : Int) (w : World) (h0 : 2097152 <= n) (h1 : n < 67108864) :
  Calls Tryz.prog 184 #[.int .i64 n] w fun e w' => e = .returned (.tuple #[.string (bytesOf [248 + n / 64 / 64 / 64 / 64, 128 + n / 64 / 64 / 64 % 64, 128 + n / 64 / 64 % 64, 128 + n / 64 % 64, 128 + n % 64]), .int .i64 0]) /\ Below w.heap.size w w' := by
 have hmk : ∀ w : World, (Instr.makeSlice 78 (.int .i64 5) (.int .i64 5)).run Tryz.prog w = .ok (.slice (some ⟨w.heap.size, 0, none⟩) 5 5) (w.alloc (.cells #[.int .u8 0, .int .u8 0, .int .u8 0, .int .u8 0, .int .u8 0] 5)) := fun _ => by kernel_rfl
 have hcv := fun (w : World) (x y z u v : Int) => run_convert_block (P := Tryz.prog) w 78 9 5 [x, y, z, u, v] (0, 0) Tryz.underlying78 Tryz.underlying5 Tryz.underlying9
 simp only [List.map_cons, List.map_nil, List.length_cons, List.length_nil, Nat.zero_add, Nat.reduceAdd] at hcv;have hb := u8_or248 (n / 64 / 64 / 64 / 64) (by omega) (by omega);have ha := i64_and63;go_enter Tryz.func184, Tryz.ntmps184;go_wp2_with (go_at_call 194; refine (size5 _ _ (by omega) (by omega)).mono ?_; rintro e w' ⟨rfl, rfl⟩);refine wp_loop_rounds 5 ?_
 iterate 5 (rw [rounds_succ]; go_wp2_with (go_at_call 195; refine (mark_any 5 248 _ (by omega)).mono ?_; rintro e w' ⟨rfl, rfl⟩))
 go_ret2;exact ⟨rfl, (Below.refl _ _).alloc (Nat.le_refl _) _⟩
theorem runes_encode6 (n : Int) (w : World) (h0 : 67108864 <= n) (h1 : n < 2147483648) :
  Calls Tryz.prog 184 #[.int .i64 n] w fun e w' => e = .returned (.tuple #[.string (bytesOf [252 + n / 64 / 64 / 64 / 64 / 64, 128 + n / 64 / 64 / 64 / 64 % 64, 128 + n / 64 / 64 / 64 % 64, 128 + n / 64 / 64 % 64, 128 + n / 64 % 64, 128 + n % 64]), .int .i64 0]) /\ Below w.heap.size w w' := by
 have hmk : ∀ w : World, (Instr.makeSlice 78 (.int .i64 6) (.int .i64 6)).run Tryz.prog w = .ok (.slice (some ⟨w.heap.size, 0, none⟩) 6 6) (w.alloc (.cells #[.int .u8 0, .int .u8 0, .int .u8 0, .int .u8 0, .int .u8 0, .int .u8 0] 5)) := fun _ => by kernel_rfl
 have hcv := fun (w : World) (x y z u v t : Int) => run_convert_block (P := Tryz.prog) w 78 9 5 [x, y, z, u, v, t] (0, 0) Tryz.underlying78 Tryz.underlying5 Tryz.underlying9
 simp only [List.map_cons, List.map_nil, List.length_cons, List.length_nil, Nat.zero_add, Nat.reduceAdd] at hcv;have hb := u8_or252 (n / 64 / 64 / 64 / 64 / 64) (by omega) (by omega);have ha := i64_and63;go_enter Tryz.func184, Tryz.ntmps184;go_wp2_with (go_at_call 194; refine (size6 _ _ (by omega) (by omega)).mono ?_; rintro e w' ⟨rfl, rfl⟩);refine wp_loop_rounds 6 ?_
 iterate 6 (rw [rounds_succ]; go_wp2_with (go_at_call 195; refine (mark_any 6 252 _ (by omega)).mono ?_; rintro e w' ⟨rfl, rfl⟩))
 go_ret2;exact ⟨rfl, (Below.refl _ _).alloc (Nat.le_refl _) _⟩
theorem runes_encode (n : Int) (w : World) :
  Calls Tryz.prog 184 #[.int .i64 n] w fun e w' => e = .returned (.tuple #[.string (encS n), .int .i64 (encE n)]) /\ Below w.heap.size w w' := by
 by_cases h : n < 0 \/ 2147483647 < n
 ·exact runes_encode_no n w h
 have e1 : encS n = bytesOf (encI n) := by unfold encS; rw [if_neg h]
 have e2 : encE n = 0 := by unfold encE; rw [if_neg h]
 rw [e1, e2];unfold encI
 split
 ·exact runes_encode1 n w (by omega) (by omega)
 split
 ·exact runes_encode2 n w (by omega) (by omega)
 split
 ·have := runes_encode3 n w (by omega) (by omega)
  rwa [show n / 64 / 64 = n / 4096 from by omega] at this
 split
 ·have := runes_encode4 n w (by omega) (by omega)
  rwa [show n / 64 / 64 / 64 = n / 262144 from by omega, show n / 64 / 64 = n / 4096 from by omega] at this
 split
 ·have := runes_encode5 n w (by omega) (by omega)
  rwa [show n / 64 / 64 / 64 / 64 = n / 16777216 from by omega, show n / 64 / 64 / 64 = n / 262144 from by omega, show n / 64 / 64 = n / 4096 from by omega] at this
 ·have := runes_encode6 n w (by omega) (by omega)
  rwa [show n / 64 / 64 / 64 / 64 / 64 = n / 1073741824 from by omega, show n / 64 / 64 / 64 / 64 = n / 16777216 from by omega, show n / 64 / 64 / 64 = n / 262144 from by omega, show n / 64 / 64 = n / 4096 from by omega] at this
end Go.Proofs.YtnkejjlidgnkkaaGreatDoor
