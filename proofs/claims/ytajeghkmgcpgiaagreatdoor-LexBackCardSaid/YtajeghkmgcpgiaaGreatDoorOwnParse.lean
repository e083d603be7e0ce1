/-
  Package ints: Parse, by contract, at any text.
-/
import Derived.Test.YtajeghkmgcpgiaaGreatDoorOwnNum
namespace Go.Proofs.YtajeghkmgcpgiaaGreatDoor.Num
open Go.RowKit

set_option maxHeartbeats 4000000 in
theorem parse_any (s : ByteArray) (w : World) (hs : s.size ≤ 1000000000) (hv : Vars w) :
    Calls Tryz.prog 71 #[.string s] w (ParseSays s w) := by
  have HV := Lib.hid hv
  clear hv
  go_enter Tryz.func71, Tryz.ntmps71
  go_upto_region 1 with fail
  go_cut [4, 5] (fun p q wx => ∃ g h : Nat, p = .pointer (some ⟨g, 0, none⟩) ∧ q = .pointer (some ⟨h, 0, none⟩) ∧ Boxes s w g h 0 s.size wx)
  case first =>
    go_region
    · go_wp2_with fail
      go_meet
      exact ⟨_, _, rfl, rfl, boxes_one s w s.size⟩
    · go_wp2_with fail
      go_meet
      exact ⟨_, _, rfl, rfl, boxes_two s w s.size⟩
  case rest =>
    obtain ⟨g, h, rfl, rfl, hb⟩ := hcut
    go_upto_block 0 with fail
    go_cut [] (fun wx => Boxes s w g h (loFrom s 0) s.size wx ∧ loFrom s 0 ≤ s.size)
    case first =>
      go_wp2_with fail
      go_loopg [] s.size (fun r wr => ∃ k : Nat, r = s.size - k ∧ k ≤ s.size ∧ Boxes s w g h k s.size wr ∧ loFrom s k = loFrom s 0)
      case atStart => exact ⟨0, rfl, by omega, hb, rfl⟩
      case round =>
        obtain ⟨k, rfl, hk, hbk, hlo⟩ := hrel
        have c1 := cell_of_one hbk.text
        have c2 := cell_of_one hbk.lo
        have f2 := free_of_one hbk.lo
        have cl := left_any s w g h k s.size wr hbk hk (Nat.le_refl _)
        have HL := Lib.hid hlo
        have HB := Lib.hid hbk
        clear hlo hbk
        by_cases hlt : k < s.size
        · have he : (s.extract k s.size).toList.isEmpty = false := by rw [part_empty (Nat.le_refl _)]; simp; omega
          have hx := run_index_at (P := Tryz.prog) 9 s (k : Int) k Tryz.underlying9 hlt rfl
          have cs := fun w => runes_space (byteAt s k) w (byteAt_lt s k)
          have hyes := loFrom_yes hlt
          have hno := loFrom_no hlt
          generalize byteAt s k = b at *
          cases hsp : spaceB b
          · have HN := Lib.hid ((hno hsp).symm.trans HL.out)
            rw [hsp] at cs
            clear hyes hno hsp
            go_wp2_with fail
            refine cl.mono ?_
            rintro e w1 ⟨rfl, rfl⟩
            go_wp2_with fail
            refine (cs _).mono ?_
            rintro e w1 ⟨rfl, rfl⟩
            go_wp2_with fail
            go_meet
            exact ⟨by rw [← HN.out]; exact HB.out, by rw [← HN.out]; omega⟩
          · have HN := Lib.hid ((hyes hsp).symm.trans HL.out)
            rw [hsp] at cs
            clear hyes hno hsp
            go_wp2_with fail
            refine cl.mono ?_
            rintro e w1 ⟨rfl, rfl⟩
            go_wp2_with fail
            refine (cs _).mono ?_
            rintro e w1 ⟨rfl, rfl⟩
            go_wp2
            go_roundg (s.size - (k + 1))
            case measure => omega
            case rel => exact ⟨k + 1, rfl, by omega, HB.out.setLo (k + 1) _ (by go_num), HN.out⟩
        · obtain rfl : k = s.size := by omega
          have he : (s.extract s.size s.size).toList.isEmpty = true := by rw [part_empty (Nat.le_refl _)]; simp
          have HN := Lib.hid ((loFrom_end s).symm.trans HL.out)
          go_wp2_with fail
          refine cl.mono ?_
          rintro e w1 ⟨rfl, rfl⟩
          go_wp2_with fail
          go_meet
          exact ⟨by rw [← HN.out]; exact HB.out, by rw [← HN.out]; omega⟩
    case rest =>
      obtain ⟨hb, hlo⟩ := hcut
      generalize hl0 : loFrom s 0 = lo at *
      go_upto_block 2 with fail
      go_cut [] (fun wx => Boxes s w g h lo (hiFrom s lo s.size) wx ∧ lo ≤ hiFrom s lo s.size ∧ hiFrom s lo s.size ≤ s.size)
      case first =>
        go_wp2_with fail
        go_loopg [] s.size (fun r wr => r ≤ s.size ∧ lo ≤ r ∧ Boxes s w g h lo r wr ∧ hiFrom s lo r = hiFrom s lo s.size)
        case atStart => exact ⟨by omega, hlo, hb, rfl⟩
        case round =>
          obtain ⟨hj, hlj, hbk, hhi⟩ := hrel
          have c1 := cell_of_one hbk.text
          have c2 := cell_of_one hbk.hi
          have f2 := free_of_one hbk.hi
          have cl := left_any s w g h lo gk wr hbk hlj hj
          have HL := Lib.hid hhi
          have HB := Lib.hid hbk
          clear hhi hbk
          by_cases hlt : lo < gk
          · have he : (s.extract lo gk).toList.isEmpty = false := by rw [part_empty hj]; simp; omega
            have hx := run_index_at (P := Tryz.prog) 9 s ((gk : Int) - 1) (gk - 1) Tryz.underlying9 (by omega) (by omega)
            have cs := fun w => runes_space (byteAt s (gk - 1)) w (byteAt_lt s _)
            have hyes := hiFrom_yes (s := s) hlt
            have hno := hiFrom_no (s := s) hlt
            generalize byteAt s (gk - 1) = b at *
            cases hsp : spaceB b
            · have HN := Lib.hid ((hno hsp).symm.trans HL.out)
              rw [hsp] at cs
              clear hyes hno hsp
              go_wp2_with fail
              refine cl.mono ?_
              rintro e w1 ⟨rfl, rfl⟩
              go_wp2_with fail
              refine (cs _).mono ?_
              rintro e w1 ⟨rfl, rfl⟩
              go_wp2_with fail
              go_meet
              exact ⟨by rw [← HN.out]; exact HB.out, by rw [← HN.out]; omega, by rw [← HN.out]; omega⟩
            · have HN := Lib.hid ((hyes hsp).symm.trans HL.out)
              rw [hsp] at cs
              clear hyes hno hsp
              go_wp2_with fail
              refine cl.mono ?_
              rintro e w1 ⟨rfl, rfl⟩
              go_wp2_with fail
              refine (cs _).mono ?_
              rintro e w1 ⟨rfl, rfl⟩
              go_wp2
              go_roundg (gk - 1)
              case measure => omega
              case rel => exact ⟨by omega, by omega, HB.out.setHi (gk - 1) _ (by go_num), HN.out⟩
          · obtain rfl : lo = gk := by omega
            have he : (s.extract lo lo).toList.isEmpty = true := by rw [part_empty hj]; simp
            have HN := Lib.hid ((hiFrom_at s lo).symm.trans HL.out)
            go_wp2_with fail
            refine cl.mono ?_
            rintro e w1 ⟨rfl, rfl⟩
            go_wp2_with fail
            go_meet
            exact ⟨by rw [← HN.out]; exact HB.out, by rw [← HN.out]; omega, by rw [← HN.out]; omega⟩
      case rest =>
        clear hb
        obtain ⟨hb, hle, hhi⟩ := hcut
        have hcore : parseOf s = coreOf s lo (hiFrom s lo s.size) := by rw [parseOf, hl0]
        generalize hiFrom s lo s.size = hi at *
        have cl := left_any s w g h lo hi _ hb hle hhi
        have HC := Lib.hid hcore
        clear hcore hl0
        cases hn : negAt s lo hi
        · cases hp : plusAt s lo hi
          · have cn := prefix_neg s lo hi hhi wc
            have co := prefix_plus s lo hi hhi wc
            rw [hn] at cn
            rw [hp] at co
            have hcore : parseOf s = restOf s lo hi false := by rw [HC.out, coreOf, hn, hp]; rfl
            clear hn hp cl HC
            have cl0 := left_any s w g h lo hi wc hb hle hhi
            go_wp2_with fail
            refine cl0.mono ?_
            rintro e w1 ⟨rfl, rfl⟩
            go_wp2_with fail
            refine cn.mono ?_
            rintro e w1 ⟨rfl, rfl⟩
            go_wp2_with fail
            refine cl0.mono ?_
            rintro e w1 ⟨rfl, rfl⟩
            go_wp2_with fail
            refine co.mono ?_
            rintro e w1 ⟨rfl, rfl⟩
            clear cn co cl0
            have hb2 := hb
            have hple := hle
            clear hb hle
            generalize lo = p at *
            have c2 := cell_of_one hb2.lo
            have f2 := free_of_one hb2.lo
            have cl := left_any s w g h p hi wc hb2 hple hhi
            have CORE := Lib.hid hcore
            have HB := Lib.hid hb2
            clear hcore hb2
            cases hx : lowX s p hi
            · cases hy : bigX s p hi
              · have cp := prefix_low s p hi hhi wc
                have cq := prefix_big s p hi hhi wc
                rw [hx] at cp
                rw [hy] at cq
                have HR := Lib.hid (CORE.out.trans (rest_no false hx hy))
                clear hx hy
                go_wp2_with fail
                refine cl.mono ?_
                rintro e w1 ⟨rfl, rfl⟩
                go_wp2_with fail
                refine cp.mono ?_
                rintro e w1 ⟨rfl, rfl⟩
                go_wp2_with fail
                refine cl.mono ?_
                rintro e w1 ⟨rfl, rfl⟩
                go_wp2_with fail
                refine cq.mono ?_
                rintro e w1 ⟨rfl, rfl⟩
                go_wp2_with fail
                refine cl.mono ?_
                rintro e w1 ⟨rfl, rfl⟩
                go_wp2_with fail
                refine (decimal_any (s.extract p hi) false wc (by rw [part_size hhi]; omega) (HV.out.below HB.out.below)).mono ?_
                rintro e w3 ⟨rfl, hb3⟩
                go_wp2
                go_ret2
                exact parse_of (HR.out.trans (by rw [Lib.extract_data])) (grew_trans HB.out.below hb3)
              · have cp := prefix_low s p hi hhi wc
                have cq := prefix_big s p hi hhi wc
                rw [hx] at cp
                rw [hy] at cq
                have hp2 := bigX_lt hy
                have HR := Lib.hid (CORE.out.trans (rest_big false hy))
                clear hx hy
                have HB3 := Lib.hid (HB.out.setLo (p + 2) (.int .i64 ((p : Int) + 2)) (by go_num))
                go_wp2_with fail
                refine cl.mono ?_
                rintro e w1 ⟨rfl, rfl⟩
                go_wp2_with fail
                refine cp.mono ?_
                rintro e w1 ⟨rfl, rfl⟩
                go_wp2_with fail
                refine cl.mono ?_
                rintro e w1 ⟨rfl, rfl⟩
                go_wp2_with fail
                refine cq.mono ?_
                rintro e w1 ⟨rfl, rfl⟩
                go_wp2_with fail
                refine (left_any s w g h (p + 2) hi _ HB3.out hp2 hhi).mono ?_
                rintro e w1 ⟨rfl, rfl⟩
                go_wp2_with fail
                refine (hexadecimal_any (s.extract (p + 2) hi) false _ (by rw [part_size hhi]; omega)).mono ?_
                rintro e w1 ⟨rfl, rfl⟩
                go_wp2
                go_ret2
                exact parse_of (HR.out.trans (by rw [Lib.extract_data])) HB3.out.below
            · have cp := prefix_low s p hi hhi wc
              rw [hx] at cp
              have hp2 := lowX_lt hx
              have HR := Lib.hid (CORE.out.trans (rest_low false hx))
              clear hx
              have HB3 := Lib.hid (HB.out.setLo (p + 2) (.int .i64 ((p : Int) + 2)) (by go_num))
              go_wp2_with fail
              refine cl.mono ?_
              rintro e w1 ⟨rfl, rfl⟩
              go_wp2_with fail
              refine cp.mono ?_
              rintro e w1 ⟨rfl, rfl⟩
              go_wp2_with fail
              refine (left_any s w g h (p + 2) hi _ HB3.out hp2 hhi).mono ?_
              rintro e w1 ⟨rfl, rfl⟩
              go_wp2_with fail
              refine (hexadecimal_any (s.extract (p + 2) hi) false _ (by rw [part_size hhi]; omega)).mono ?_
              rintro e w1 ⟨rfl, rfl⟩
              go_wp2
              go_ret2
              exact parse_of (HR.out.trans (by rw [Lib.extract_data])) HB3.out.below
          · have hp1 := plusAt_lt hp
            have cn := prefix_neg s lo hi hhi wc
            have co := prefix_plus s lo hi hhi wc
            rw [hn] at cn
            rw [hp] at co
            have hcore : parseOf s = restOf s (lo + 1) hi false := by rw [HC.out, coreOf, hn, hp]; rfl
            have c2 := cell_of_one hb.lo
            have f2 := free_of_one hb.lo
            have hb2 := hb.setLo (lo + 1) (.int .i64 ((lo : Int) + 1)) (by go_num)
            have HB2 := Lib.hid hb2
            have HCORE := Lib.hid hcore
            clear hn hp HC hb hb2 hcore
            go_wp2_with fail
            refine cl.mono ?_
            rintro e w1 ⟨rfl, rfl⟩
            go_wp2_with fail
            refine cn.mono ?_
            rintro e w1 ⟨rfl, rfl⟩
            go_wp2_with fail
            refine cl.mono ?_
            rintro e w1 ⟨rfl, rfl⟩
            go_wp2_with fail
            refine co.mono ?_
            rintro e w1 ⟨rfl, rfl⟩
            clear cn co cl
            go_wp2_with fail
            have hb2 := HB2.out
            have hcore := HCORE.out
            clear HB2 HCORE c2 f2
            generalize wc.setCell ⟨g, 0, none⟩ (.int .i64 ((lo : Int) + 1)) = W2 at *
            generalize lo + 1 = p at *
            have hple := hp1
            have c2 := cell_of_one hb2.lo
            have f2 := free_of_one hb2.lo
            have cl := left_any s w g h p hi W2 hb2 hple hhi
            have CORE := Lib.hid hcore
            have HB := Lib.hid hb2
            clear hcore hb2
            cases hx : lowX s p hi
            · cases hy : bigX s p hi
              · have cp := prefix_low s p hi hhi W2
                have cq := prefix_big s p hi hhi W2
                rw [hx] at cp
                rw [hy] at cq
                have HR := Lib.hid (CORE.out.trans (rest_no false hx hy))
                clear hx hy
                go_wp2_with fail
                refine cl.mono ?_
                rintro e w1 ⟨rfl, rfl⟩
                go_wp2_with fail
                refine cp.mono ?_
                rintro e w1 ⟨rfl, rfl⟩
                go_wp2_with fail
                refine cl.mono ?_
                rintro e w1 ⟨rfl, rfl⟩
                go_wp2_with fail
                refine cq.mono ?_
                rintro e w1 ⟨rfl, rfl⟩
                go_wp2_with fail
                refine cl.mono ?_
                rintro e w1 ⟨rfl, rfl⟩
                go_wp2_with fail
                refine (decimal_any (s.extract p hi) false W2 (by rw [part_size hhi]; omega) (HV.out.below HB.out.below)).mono ?_
                rintro e w3 ⟨rfl, hb3⟩
                go_wp2
                go_ret2
                exact parse_of (HR.out.trans (by rw [Lib.extract_data])) (grew_trans HB.out.below hb3)
              · have cp := prefix_low s p hi hhi W2
                have cq := prefix_big s p hi hhi W2
                rw [hx] at cp
                rw [hy] at cq
                have hp2 := bigX_lt hy
                have HR := Lib.hid (CORE.out.trans (rest_big false hy))
                clear hx hy
                have HB3 := Lib.hid (HB.out.setLo (p + 2) (.int .i64 ((p : Int) + 2)) (by go_num))
                go_wp2_with fail
                refine cl.mono ?_
                rintro e w1 ⟨rfl, rfl⟩
                go_wp2_with fail
                refine cp.mono ?_
                rintro e w1 ⟨rfl, rfl⟩
                go_wp2_with fail
                refine cl.mono ?_
                rintro e w1 ⟨rfl, rfl⟩
                go_wp2_with fail
                refine cq.mono ?_
                rintro e w1 ⟨rfl, rfl⟩
                go_wp2_with fail
                refine (left_any s w g h (p + 2) hi _ HB3.out hp2 hhi).mono ?_
                rintro e w1 ⟨rfl, rfl⟩
                go_wp2_with fail
                refine (hexadecimal_any (s.extract (p + 2) hi) false _ (by rw [part_size hhi]; omega)).mono ?_
                rintro e w1 ⟨rfl, rfl⟩
                go_wp2
                go_ret2
                exact parse_of (HR.out.trans (by rw [Lib.extract_data])) HB3.out.below
            · have cp := prefix_low s p hi hhi W2
              rw [hx] at cp
              have hp2 := lowX_lt hx
              have HR := Lib.hid (CORE.out.trans (rest_low false hx))
              clear hx
              have HB3 := Lib.hid (HB.out.setLo (p + 2) (.int .i64 ((p : Int) + 2)) (by go_num))
              go_wp2_with fail
              refine cl.mono ?_
              rintro e w1 ⟨rfl, rfl⟩
              go_wp2_with fail
              refine cp.mono ?_
              rintro e w1 ⟨rfl, rfl⟩
              go_wp2_with fail
              refine (left_any s w g h (p + 2) hi _ HB3.out hp2 hhi).mono ?_
              rintro e w1 ⟨rfl, rfl⟩
              go_wp2_with fail
              refine (hexadecimal_any (s.extract (p + 2) hi) false _ (by rw [part_size hhi]; omega)).mono ?_
              rintro e w1 ⟨rfl, rfl⟩
              go_wp2
              go_ret2
              exact parse_of (HR.out.trans (by rw [Lib.extract_data])) HB3.out.below
        · have hp1 := negAt_lt hn
          have cn := prefix_neg s lo hi hhi wc
          rw [hn] at cn
          have hcore : parseOf s = restOf s (lo + 1) hi true := by rw [HC.out, coreOf, hn]; rfl
          have c2 := cell_of_one hb.lo
          have f2 := free_of_one hb.lo
          have hb2 := hb.setLo (lo + 1) (.int .i64 ((lo : Int) + 1)) (by go_num)
          have HB2 := Lib.hid hb2
          have HCORE := Lib.hid hcore
          clear hn HC hb hb2 hcore
          go_wp2_with fail
          refine cl.mono ?_
          rintro e w1 ⟨rfl, rfl⟩
          go_wp2_with fail
          refine cn.mono ?_
          rintro e w1 ⟨rfl, rfl⟩
          clear cn cl
          go_wp2_with fail
          have hb2 := HB2.out
          have hcore := HCORE.out
          clear HB2 HCORE c2 f2
          generalize wc.setCell ⟨g, 0, none⟩ (.int .i64 ((lo : Int) + 1)) = W2 at *
          generalize lo + 1 = p at *
          have hple := hp1
          have c2 := cell_of_one hb2.lo
          have f2 := free_of_one hb2.lo
          have cl := left_any s w g h p hi W2 hb2 hple hhi
          have CORE := Lib.hid hcore
          have HB := Lib.hid hb2
          clear hcore hb2
          cases hx : lowX s p hi
          · cases hy : bigX s p hi
            · have cp := prefix_low s p hi hhi W2
              have cq := prefix_big s p hi hhi W2
              rw [hx] at cp
              rw [hy] at cq
              have HR := Lib.hid (CORE.out.trans (rest_no true hx hy))
              clear hx hy
              go_wp2_with fail
              refine cl.mono ?_
              rintro e w1 ⟨rfl, rfl⟩
              go_wp2_with fail
              refine cp.mono ?_
              rintro e w1 ⟨rfl, rfl⟩
              go_wp2_with fail
              refine cl.mono ?_
              rintro e w1 ⟨rfl, rfl⟩
              go_wp2_with fail
              refine cq.mono ?_
              rintro e w1 ⟨rfl, rfl⟩
              go_wp2_with fail
              refine cl.mono ?_
              rintro e w1 ⟨rfl, rfl⟩
              go_wp2_with fail
              refine (decimal_any (s.extract p hi) true W2 (by rw [part_size hhi]; omega) (HV.out.below HB.out.below)).mono ?_
              rintro e w3 ⟨rfl, hb3⟩
              go_wp2
              go_ret2
              exact parse_of (HR.out.trans (by rw [Lib.extract_data])) (grew_trans HB.out.below hb3)
            · have cp := prefix_low s p hi hhi W2
              have cq := prefix_big s p hi hhi W2
              rw [hx] at cp
              rw [hy] at cq
              have hp2 := bigX_lt hy
              have HR := Lib.hid (CORE.out.trans (rest_big true hy))
              clear hx hy
              have HB3 := Lib.hid (HB.out.setLo (p + 2) (.int .i64 ((p : Int) + 2)) (by go_num))
              go_wp2_with fail
              refine cl.mono ?_
              rintro e w1 ⟨rfl, rfl⟩
              go_wp2_with fail
              refine cp.mono ?_
              rintro e w1 ⟨rfl, rfl⟩
              go_wp2_with fail
              refine cl.mono ?_
              rintro e w1 ⟨rfl, rfl⟩
              go_wp2_with fail
              refine cq.mono ?_
              rintro e w1 ⟨rfl, rfl⟩
              go_wp2_with fail
              refine (left_any s w g h (p + 2) hi _ HB3.out hp2 hhi).mono ?_
              rintro e w1 ⟨rfl, rfl⟩
              go_wp2_with fail
              refine (hexadecimal_any (s.extract (p + 2) hi) true _ (by rw [part_size hhi]; omega)).mono ?_
              rintro e w1 ⟨rfl, rfl⟩
              go_wp2
              go_ret2
              exact parse_of (HR.out.trans (by rw [Lib.extract_data])) HB3.out.below
          · have cp := prefix_low s p hi hhi W2
            rw [hx] at cp
            have hp2 := lowX_lt hx
            have HR := Lib.hid (CORE.out.trans (rest_low true hx))
            clear hx
            have HB3 := Lib.hid (HB.out.setLo (p + 2) (.int .i64 ((p : Int) + 2)) (by go_num))
            go_wp2_with fail
            refine cl.mono ?_
            rintro e w1 ⟨rfl, rfl⟩
            go_wp2_with fail
            refine cp.mono ?_
            rintro e w1 ⟨rfl, rfl⟩
            go_wp2_with fail
            refine (left_any s w g h (p + 2) hi _ HB3.out hp2 hhi).mono ?_
            rintro e w1 ⟨rfl, rfl⟩
            go_wp2_with fail
            refine (hexadecimal_any (s.extract (p + 2) hi) true _ (by rw [part_size hhi]; omega)).mono ?_
            rintro e w1 ⟨rfl, rfl⟩
            go_wp2
            go_ret2
            exact parse_of (HR.out.trans (by rw [Lib.extract_data])) HB3.out.below

end Go.Proofs.YtajeghkmgcpgiaaGreatDoor.Num
