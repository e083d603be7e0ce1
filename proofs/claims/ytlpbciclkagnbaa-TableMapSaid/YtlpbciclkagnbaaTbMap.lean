/-
  Layer 13: the law TableMap, over what the calls say: the sets (written by takes.py out of tb-map.src).
-/
import Derived.Test.YtlpbciclkagnbaaTbMapS
import Derived.Test.YtlpbciclkagnbaaTbMapN
namespace Go.Proofs.Ytlpbciclkagnbaa.Tb
open Go Go.RowKit Go.Proofs.Ytlpbciclkagnbaa.Pl Go.Maps

theorem val_in (z : Int) (h0 : -2 ≤ z) (h1 : z ≤ 2) : (valV z).In := by
  unfold valV
  split
  · exact in_vl _ _ (by decide) (by decide) (by decide)
  · exact in_vl _ _ (by decide) (by omega) (by omega)
set_option maxHeartbeats 8000000 in
set_option maxRecDepth 1000000 in
theorem map_walk (TA : TableP) (H : TableSays TA) (keys values : Value) (ks vs : List Int) (w : World) (hk : LstP (fun _ => True) w keys (ints ks)) (hv : LstP (fun _ => True) w values (ints vs)) (hi : ∀ z ∈ ks, In64 z) :
    Calls Try.prog 4 #[keys, values] w (fun e w' => e = .returned (.bool true) ∧ Below w.heap.size w w') := by
  obtain ⟨aw, cw, rfl, hcw, hlw⟩ := hk.slice
  obtain ⟨av, cv, rfl, hcv, hlv⟩ := hv.slice
  rw [ints_len] at hcw hlw hk hcv hlv hv
  rw [ints_len, ints_len]
  obtain ⟨n, hn⟩ : ∃ n, n = ks.length := ⟨_, rfl⟩
  obtain ⟨nv, hnv⟩ : ∃ n, n = vs.length := ⟨_, rfl⟩
  rw [← hn] at hcw hlw hk ⊢
  rw [← hnv] at hcv hlv hv ⊢
  have HN := Lib.hid hn
  have HNV := Lib.hid hnv
  have HK := Lib.hid hk
  have HV := Lib.hid hv
  have HI := Lib.hid hi
  have HA := Lib.hid (awake_fn TA H)
  unfold Len at hlw hlv
  have kn := H.new w
  unfold NewSays at kn
  have hmm := @run_makeMap Try.prog
  clear hn hnv hk hv hi
  go_enter Try.func4, Try.ntmps4
  go_wp2_with fail
  refine kn.mono ?_
  rintro e w1 ⟨b, F, rfl, hp, hF, hb1⟩
  have ht1 : TblAt TA w b [] [] w1 := ⟨F, hp, hF, hb1, fun p hp => by cases hp⟩
  have H1 := Lib.hid (show St TA w b w1.heap.size (tabOf []) (lookF []) 0 (.slice none 0 0) (([] : Km).map (·.1)) (.slice none 0 0) [] [] (w1.alloc (.map #[] 0)) from
    ⟨hb1.size, .map #[] 0, [], [], ht1.alloc H (.map #[] 0), map_new, .inl ⟨rfl, none, rfl⟩, .inl ⟨rfl, none, rfl⟩, (fun p hp => by cases hp), (fun p hp => by cases hp), (fun p hp => by cases hp)⟩)
  have HMB := Lib.hid hb1.size
  clear hp hF hb1 kn ht1
  go_upto_block 0 with fail
  clear hmm
  generalize w1.alloc (.map #[] 0) = w2 at *
  generalize w1.heap.size = mb at *
  go_cut [7, 8, 9, 10, 11, 12, 13, 14, 16, 17, 18] from 32 to 116 (fun vo _ _ _ _ _ _ _ _ _ _ wx => ∃ (L : Km) (N : Nat), KmOk L ∧ St TA w b mb (tabOf L) (lookF L) N vo (L.map (·.1)) (.slice none 0 0) [] [] wx)
  case first =>
    go_wp2_with fail
    go_loopg [7, 8] n (fun r vo i wr => ∃ (k : Nat) (L : Km) (N : Nat), r = n - k ∧ i = .int .i64 k ∧ k ≤ n ∧ k ≤ 100 ∧ N ≤ k ∧ KmOk L ∧ St TA w b mb (tabOf L) (lookF L) N vo (L.map (·.1)) (.slice none 0 0) [] [] wr)
    case atStart => exact ⟨0, [], 0, rfl, rfl, Nat.zero_le _, Nat.zero_le _, Nat.le_refl _, ⟨List.nodup_nil, fun p hp => absurd hp (List.not_mem_nil)⟩, H1.out⟩
    case round =>
      obtain ⟨k, L, N, rfl, rfl, hk, hk2, hNk, hok, hst⟩ := hrel
      have HT := Lib.hid hst
      have HOK := Lib.hid hok
      have HNK := Lib.hid hNk
      clear hst hok hNk
      by_cases hlt : k < n ∧ k < 100
      · obtain ⟨hlt, hlt2⟩ := hlt
        have hlt' : (k : Int) < n := by omega
        have hlt2' : (k : Int) < 100 := by omega
        have hkz : k < ks.length := by have := HN.out; omega
        obtain ⟨gw, off, cap, -, hg, hvv, -, c0⟩ := HK.out.item (i := k) (by rw [ints_len]; exact hkz)
        rw [ints_get _ _ hkz] at c0
        injection hvv with hv1 hv2 hv3
        subst hv1
        rw [← HT.out.low.cell (p := ⟨gw, off + k, none⟩) hg] at c0
        have hzi := HI.out _ (List.getElem_mem hkz)
        clear hg hv2 hv3
        generalize ks[k] = z at *
        have hm0 := Int.emod_nonneg z (show (20 : Int) ≠ 0 by decide)
        have hm1 := Int.emod_lt_of_pos z (show (0 : Int) < 20 by decide)
        have KP := Lib.hid (fun w' => pick_kit z 20 w' hzi (by constructor <;> decide) (by decide))
        generalize z % 20 = q at *
        obtain ⟨z2, hz2⟩ : ∃ z2 : Int, z2 = (if h : k < vs.length then (vs[k]).tmod 3 else 0) := ⟨_, rfl⟩
        have hb2 : -2 ≤ z2 ∧ z2 ≤ 2 := by
          rw [hz2]
          split
          · rename_i h
            have h1 := Int.tmod_lt_of_pos (vs[k]) (show (0 : Int) < 3 by decide)
            have h2 := Int.tmod_eq_emod (a := vs[k]) (b := 3)
            have h3 := Int.emod_nonneg (vs[k]) (show (3 : Int) ≠ 0 by decide)
            split at h2 <;> omega
          · omega
        have HZ := Lib.hid hz2
        go_wp2_with fail
        refine (KP.out _).mono ?_
        rintro e w3 ⟨rfl, rfl⟩
        clear c0
        go_upto_if 50 with fail
        go_cut [10] from 32 to 116 (fun nn wx => nn = .int .i64 z2 ∧ wx = wr)
        case first =>
          by_cases hkv : k < nv
          · have hkv' : (k : Int) < nv := by omega
            have hkx : k < vs.length := by have := HNV.out; omega
            obtain ⟨gv, off2, cap2, -, hg2, hvv2, -, d0⟩ := HV.out.item (i := k) (by rw [ints_len]; exact hkx)
            rw [ints_get _ _ hkx] at d0
            injection hvv2 with hv1 hv2 hv3
            subst hv1
            rw [← HT.out.low.cell (p := ⟨gv, off2 + k, none⟩) hg2] at d0
            rw [dif_pos hkx] at hz2
            clear hg2 hv2 hv3
            generalize vs[k] = y at *
            have hw0 := IntWalk.i64_in (y.tmod 3) (by omega)
            have HZ2 := Lib.hid hz2
            clear hz2 hb2
            go_wp2_with fail
            go_meet
            exact ⟨by rw [HZ2.out], rfl⟩
          · have hkv' : ¬ (k : Int) < nv := by omega
            rw [dif_neg (by have := HNV.out; omega)] at hz2
            subst hz2
            go_wp2_with fail
            go_meet
            exact ⟨rfl, rfl⟩
        case rest =>
          obtain ⟨rfl, rfl⟩ := hcut
          clear HZ hz2
          go_wp2_with fail
          refine (num_fn z2 _).mono ?_
          rintro e w3 ⟨rfl, hb3⟩
          have ht3 := HT.out.below H hb3
          have hvw : w.heap.size ≤ w3.heap.size := ht3.low.size
          have HVB := Lib.hid hvw
          have HT3 := Lib.hid (ht3.alloc H (.cells #[.int .u8 3, .int .i64 z2] 24 (0, 0)))
          clear ht3 hb3 hvw
          go_upto_region 13 with fail
          generalize w3.alloc (.cells #[.int .u8 3, .int .i64 z2] 24) = W3 at *
          generalize w3.heap.size = vb at *
          go_upto_if 59 with fail
          go_cut [] from 32 to 116 (fun wx => St TA w b mb (tabOf L) (lookF L) N u7 (L.map (·.1)) (.slice none 0 0) [] [(vb, .cells (valV z2).cells 24 (0, 0))] wx)
          case first =>
            by_cases hz0 : z2 = 0
            · subst hz0
              have c0 := (HT3.out.two (List.mem_singleton.2 rfl)).1
              have c1 := (HT3.out.two (List.mem_singleton.2 rfl)).2
              have f0 := free_of (HT3.out.block (List.mem_singleton.2 rfl)) 0
              have f1 := free_of (HT3.out.block (List.mem_singleton.2 rfl)) 1
              have HT4 := Lib.hid ((HT3.out.put H HVB.out (fun p hp => absurd hp (List.not_mem_nil)) 0 (.int .u8 0)).put H HVB.out (fun p hp => absurd hp (List.not_mem_nil)) 1 (.int .i64 0))
              go_wp2_with fail
              go_meet
              exact HT4.out
            · have hz1 : (z2 == 0) = false := beq_eq_false_iff_ne.2 hz0
              have HT4 := Lib.hid (show St TA w b mb (tabOf L) (lookF L) N u7 (L.map (·.1)) (.slice none 0 0) [] [(vb, .cells (valV z2).cells 24 (0, 0))] W3 by unfold valV; rw [if_neg hz0]; exact HT3.out)
              go_wp2_with fail
              go_meet
              exact HT4.out
          case rest =>
            have HT4 := Lib.hid hcut
            clear hcut HT3
            have hkin : (numV (q - 5)).In := in_vl _ _ (by decide) (by omega) (by omega)
            have hvin := val_in z2 hb2.1 hb2.2
            have HSET := Lib.hid (show ∀ w', St TA w b mb (tabOf L) (lookF L) N u7 (L.map (·.1)) (.slice none 0 0) [] [(vb, .cells (valV z2).cells 24 (0, 0))] w' → _ from fun w' h => h.set H (numV (q - 5)) (valV z2) 0 hkin hvin (show (tabOf L).length < 65536 by have := ok_len HOK.out; unfold tabOf; rw [List.length_map]; omega) (tab_set L q z2 (by have := ok_len HOK.out; omega)))
            have e5 := IntWalk.i64_in (q - 5) (by omega)
            go_upto_region 15 with fail
            generalize hV : valV z2 = V at *
            obtain ⟨vk, vn⟩ := V
            clear hV
            have HTd := Lib.hid (HT4.out.below H ((Below.refl wc.heap.size wc).drew))
            refine wp_region_held_drew (S := fun w' => w'.cell? ⟨vb, 0, none⟩ = some (.int .u8 (vk : Int)) ∧ w'.cell? ⟨vb, 1, none⟩ = some (.int .i64 vn)) mixed (HTd.out.two (List.mem_singleton.2 rfl)) (fun hS => ?_)
            refine wpAnyH_take (i := 0) (v := ?va0) rfl (by kernel_rfl) (by kernel_rfl) (by kernel_rfl) (fun _ _ _ h => h) (.inl ⟨by rfl, ?ha0⟩) hS ?ra0
            case ha0 =>
              intro w' hs
              (try dsimp only at hs)
              go_split_ands
              go_simp
              try with_reducible rfl
            simp only [List.getElem_toArray, List.getElem_cons_zero, Act.put, List.setIfInBounds_toArray, List.set_cons_zero, List.set_cons_succ]
            refine wpAnyH_take (i := 1) (v := ?va1) rfl (by kernel_rfl) (by kernel_rfl) (by kernel_rfl) (fun _ _ _ h => h) (.inl ⟨by rfl, ?ha1⟩) hS ?ra1
            case ha1 =>
              intro w' hs
              (try dsimp only at hs)
              go_split_ands
              go_simp
              try with_reducible rfl
            simp only [List.getElem_toArray, List.getElem_cons_succ, List.getElem_cons_zero, Act.put, List.setIfInBounds_toArray, List.set_cons_zero, List.set_cons_succ]
            refine wpAnyH_take (i := 2) (v := ?va2) rfl (by kernel_rfl) (by kernel_rfl) (by kernel_rfl) (fun _ _ _ h => h) (.inl ⟨by rfl, ?ha2⟩) hS ?ra2
            case ha2 =>
              intro w' hs
              (try dsimp only at hs)
              go_split_ands
              go_simp
              try with_reducible rfl
            simp only [List.getElem_toArray, List.getElem_cons_succ, List.getElem_cons_zero, Act.put, List.setIfInBounds_toArray, List.set_cons_zero, List.set_cons_succ]
            refine wpAnyH_take (i := 4) (v := ?va4) rfl (by kernel_rfl) (by kernel_rfl) (by kernel_rfl) (fun _ _ _ h => h) (.inl ⟨by rfl, ?ha4⟩) hS ?ra4
            case ha4 =>
              intro w' hs
              (try dsimp only at hs)
              go_split_ands
              go_simp
              try with_reducible rfl
            simp only [List.getElem_toArray, List.getElem_cons_succ, List.getElem_cons_zero, Act.put, List.setIfInBounds_toArray, List.set_cons_zero, List.set_cons_succ]
            refine wpAnyH_ready (rs := [3]) (by kernel_rfl) (by simp) (AllReadyH.cons rfl (fun K hK => ?_) AllReadyH.nil)
            go_simp
            go_at_call 16
            refine (num_fn (q - 5) _).mono ?_
            rintro e w5 ⟨rfl, hb5⟩
            have HT5 := Lib.hid (HTd.out.below H hb5)
            clear hb5
            go_wp2_with fail
            refine hK.out _ _ (HT5.out.two (List.mem_singleton.2 rfl)) (fun hS => ?_)
            clear hK
            refine wpAnyH_ready (rs := [5]) (by kernel_rfl) (by simp) (AllReadyH.cons rfl (fun K hK => ?_) AllReadyH.nil)
            go_simp
            go_at_call 8
            refine (show Calls _ _ #[_, .agg #[.int .u8 3, .int .i64 (q - 5)], .agg #[.int .u8 (vk : Int), .int .i64 vn]] _ _ from HSET.out _ HT5.out).mono ?_
            rintro e w6 ⟨rfl, ht6⟩
            have HT6 := Lib.hid ht6
            clear ht6
            go_wp2_with fail
            refine hK.out _ _ (HT6.out.two (List.mem_singleton.2 rfl)) (fun hS => ?_)
            clear hK
            refine wpAnyH_take (i := 6) (v := ?vb6) rfl (by kernel_rfl) (by kernel_rfl) (by kernel_rfl) (fun _ _ _ h => h) (.inl ⟨by rfl, ?hb6⟩) hS ?rb6
            case hb6 =>
              intro w' hs
              (try dsimp only at hs)
              go_split_ands
              go_simp
              try with_reducible rfl
            simp only [List.getElem_toArray, List.getElem_cons_succ, List.getElem_cons_zero, Act.put, List.setIfInBounds_toArray, List.set_cons_zero, List.set_cons_succ]
            refine wpAnyH_done (by kernel_rfl) ?_ _
            have HT7 := Lib.hid (show St TA w b mb (tabOf (stepK L q z2)) (lookF L) N u7 (L.map (·.1)) (.slice none 0 0) [] [] w6 from HT6.out.fewer (fun p hp => absurd hp (List.not_mem_nil)))
            clear hS HT6 HT5 HTd HT4 HSET hkin hvin e5
            have hqi : In64 q := by constructor <;> omega
            have hzi2 : In64 z2 := by constructor <;> omega
            have hlk := HT7.out.look_ok q hqi
            have HSK := Lib.hid (show stepK L q z2 = match lookF L q with | some _ => setK L q z2 | none => if z2 = 0 then L else L.filter liveK ++ [(q, z2)] from rfl)
            have HOK2 := Lib.hid (step_ok HOK.out z2 hm0 (show q ≤ 19 by omega))
            have e1 := IntWalk.i64_in ((k : Int) + 1) (by omega)
            cases hlo : lookF L q with
            | some o =>
              rw [hlo] at hlk HSK
              have hlk : (Instr.lookup 46 (.map (some mb)) (.int .i64 q) true).run Try.prog w6 = .ok (.tuple #[.int .i64 o, .bool true]) w6 := hlk
              obtain ⟨w7, hst, hS7⟩ := HT7.out.store H (by have := HNK.out; omega) q z2 hqi hzi2
              have HT8 := Lib.hid hS7
              have HLO := Lib.hid hlo
              clear hS7 hlo
              go_wp2_with fail
              go_roundg (n - (k + 1))
              case measure => omega
              case rel =>
                refine ⟨k + 1, stepK L q z2, N + 1, rfl, by go_num, by omega, by omega, by have := HNK.out; omega, HOK2.out, ?_⟩
                have h9 := HT8.out
                rw [HSK.out] at h9 ⊢
                rw [kset_keys]
                refine h9.congr (fun j => ?_)
                rw [look_set, HLO.out]
                by_cases hj : j = q
                · rw [if_pos hj, if_pos ⟨hj, rfl⟩]
                · rw [if_neg hj, if_neg (fun x => hj x.1)]
            | none =>
              rw [hlo] at hlk HSK
              have hlk : (Instr.lookup 46 (.map (some mb)) (.int .i64 q) true).run Try.prog w6 = .ok (.tuple #[.int .i64 0, .bool false]) w6 := hlk
              have HLO := Lib.hid hlo
              clear hlo
              by_cases hz0 : z2 = 0
              · have HSK2 := Lib.hid (HSK.out.trans (if_pos hz0))
                subst hz0
                go_wp2_with fail
                go_roundg (n - (k + 1))
                case measure => omega
                case rel =>
                  refine ⟨k + 1, L, N, rfl, by go_num, by omega, by omega, by have := HNK.out; omega, HOK.out, ?_⟩
                  have h9 := HT7.out
                  rw [HSK2.out] at h9
                  exact h9
              · have HSK2 := Lib.hid (HSK.out.trans (if_neg hz0))
                have hz1 : (z2 == 0) = false := beq_eq_false_iff_ne.2 hz0
                obtain ⟨ao, co, rfl, hco⟩ := HT7.out.lens.1
                rw [List.length_map] at *
                have hsl : ∀ W : World, (Instr.slice 44 (.slice ao L.length co) none (some (.int .i64 0)) (some (.int .i64 0))).run Try.prog W = .ok (.slice ao 0 0) W := fun W => by
                  have ht : Try.prog.underlying 44 = some (.slice (Try.prog.elem 44)) := by kernel_rfl
                  have hrun := run_slice_hm (P := Try.prog) W 44 ao L.length co ht .i64 .i64 0 0 (by decide) (by decide) (by omega)
                  rw [hrun, elemInts, sizeInt]
                  rfl
                have HIT := Lib.hid (HT7.out.begin ao)
                have hl20 := ok_len HOK.out
                have HL20 := Lib.hid hl20
                have HNOD := Lib.hid HOK.out.nod
                have HRG := Lib.hid HOK.out.range
                generalize hT2 : tabOf (stepK L q z2) = T2 at HIT ⊢
                have HT2 := Lib.hid hT2
                clear hT2
                go_wp2_with fail
                clear hlk hsl HT HT7
                generalize hll : L.length = ll at *
                have HLL := Lib.hid hll
                clear hll
                go_loopg [14, 84] ll (fun r vl i wr => ∃ j : Nat, r = ll - j ∧ i = .int .i64 j ∧ j ≤ ll ∧ St TA w b mb T2 (cutF L j) N (.slice ao ll co) (L.map (·.1)) vl (((L.take j).filter liveK).map (·.1)) [] wr)
                case atStart => exact ⟨0, rfl, rfl, Nat.zero_le _, HIT.out.congr (fun x => cut_zero L x)⟩
                case round =>
                  obtain ⟨j, rfl, rfl, hj, hs⟩ := hrel
                  have HR := Lib.hid hs
                  clear hs
                  have e2 := IntWalk.i64_in ((j : Int) + 1) (by omega)
                  by_cases hjl : j < ll
                  · have hjl' : (j : Int) < ll := by omega
                    have hjL : j < L.length := by have := HLL.out; omega
                    obtain ⟨g, cap, ev, hx⟩ := HR.out.item j (by rw [List.length_map]; exact hjL)
                    rw [List.getElem_map] at hx
                    injection ev with ev1 ev2 ev3
                    subst ev1
                    subst ev3
                    have hxr := HRG.out _ (List.getElem_mem hjL)
                    have hxi : In64 L[j].1 := by constructor <;> omega
                    have hlk := HR.out.look L[j].1 hxi
                    rw [cut_here HNOD.out j hjL] at hlk
                    have hlk : (Instr.lookup 46 (.map (some mb)) (.int .i64 L[j].1) false).run Try.prog wr = .ok (.int .i64 L[j].2) wr := hlk
                    obtain ⟨w7, hdr, hS7⟩ := HR.out.drop H L[j].1 hxi 0
                    have HD := Lib.hid hS7
                    have HTK := Lib.hid (show (L.take (j + 1)).filter liveK = (L.take j).filter liveK ++ (if liveK L[j] = true then [L[j]] else []) by
                      rw [List.take_succ_eq_append_getElem hjL, List.filter_append]
                      congr 1
                      rw [List.filter_cons]
                      rfl)
                    have HKP := Lib.hid (fun h => cut_keep HNOD.out j hjL h)
                    have HDP := Lib.hid (fun h => cut_drop HNOD.out j hjL h)
                    have HLV := Lib.hid (show liveK L[j] = decide (L[j].2 ≠ 0) from rfl)
                    have hflen : (((L.take j).filter liveK).map (·.1)).length < 1000 := by
                      rw [List.length_map]
                      have h1 : ((L.take j).filter liveK).length ≤ (L.take j).length := List.length_filter_le ..
                      have h2 : (L.take j).length ≤ L.length := by rw [List.length_take]; omega
                      have := HL20.out
                      have := HLL.out
                      omega
                    have HFL := Lib.hid hflen
                    clear hS7 ev2 hflen
                    have hpair : L[j] = (L[j].1, L[j].2) := rfl
                    generalize L[j] = pj at *
                    obtain ⟨x, y⟩ := pj
                    dsimp only at *
                    clear hpair
                    by_cases hy : y = 0
                    · have HDP2 := Lib.hid (HDP.out hy)
                      have HLV2 := Lib.hid (show liveK (x, y) = false by rw [HLV.out]; exact decide_eq_false (fun h => h hy))
                      subst hy
                      go_wp2_with fail
                      go_roundg (ll - (j + 1))
                      case measure => omega
                      case rel =>
                        refine ⟨j + 1, rfl, by go_num, by omega, ?_⟩
                        rw [HTK.out, HLV2.out, if_neg (by decide), List.append_nil]
                        exact HD.out.congr (fun i => HDP2.out i)
                    · have hy1 : (y != 0) = true := by rw [bne_iff_ne]; exact hy
                      have HKP2 := Lib.hid (HKP.out hy)
                      have HLV2 := Lib.hid (show liveK (x, y) = true by rw [HLV.out]; exact decide_eq_true hy)
                      go_wp2_with (at_builtin; go_loud (refine wpList_append_left H rfl (.tmp 92) (.tmp 94) rfl HR.out rfl x rfl HFL.out ?_))
                      intro v8 w8 hs8
                      have HS8 := Lib.hid hs8
                      clear hs8
                      go_wp2_with fail
                      go_roundg (ll - (j + 1))
                      case measure => omega
                      case rel =>
                        refine ⟨j + 1, rfl, by go_num, by omega, ?_⟩
                        rw [HTK.out, HLV2.out, if_pos rfl, List.map_append]
                        exact HS8.out.congr (fun i => HKP2.out i)
                  · have hjl' : ¬ (j : Int) < ll := by omega
                    obtain rfl : j = ll := by omega
                    have hflen : (((L.take j).filter liveK).map (·.1)).length < 1000 := by
                      rw [List.length_map]
                      have h1 : ((L.take j).filter liveK).length ≤ (L.take j).length := List.length_filter_le ..
                      have h2 : (L.take j).length ≤ L.length := by rw [List.length_take]; omega
                      have := HL20.out
                      have := HLL.out
                      omega
                    have HFL := Lib.hid hflen
                    clear hflen
                    go_wp2_with (at_builtin; go_loud (refine wpList_append_left H rfl (.tmp 99) (.tmp 101) rfl HR.out rfl q rfl HFL.out ?_))
                    intro v8 w8 hs8
                    have hcq : cutF L j q = none := by unfold cutF; rw [HLO.out]
                    have hlk := hs8.look_ok q hqi
                    rw [hcq] at hlk
                    have hlk : (Instr.lookup 46 (.map (some mb)) (.int .i64 q) true).run Try.prog w8 = .ok (.tuple #[.int .i64 0, .bool false]) w8 := hlk
                    obtain ⟨w9, hst, hS9⟩ := hs8.shift.store H (by have := HNK.out; omega) q z2 hqi hzi2
                    have HS9 := Lib.hid hS9
                    clear hs8 hS9 hcq
                    go_wp2_with fail
                    go_roundg (n - (k + 1))
                    case measure => omega
                    case rel =>
                      refine ⟨k + 1, stepK L q z2, N + 1, rfl, by go_num, by omega, by omega, by have := HNK.out; omega, HOK2.out, ?_⟩
                      have h9 := HS9.out
                      rw [← HT2.out] at h9
                      rw [HSK2.out] at h9 ⊢
                      have htk : L.take j = L := List.take_of_length_le (by have := HLL.out; omega)
                      rw [htk] at h9
                      rw [List.map_append]
                      refine h9.congr (fun i => ?_)
                      rw [look_app]
                      have hca : cutF L j i = lookF (L.filter liveK) i := by
                        have := cut_all HNOD.out i
                        rwa [HLL.out] at this
                      rw [hca]
                      by_cases hi : i = q
                      · subst hi
                        rw [if_pos rfl, look_filter HNOD.out, HLO.out]
                        dsimp only
                        rw [if_pos rfl]
                      · rw [if_neg hi]
                        cases lookF (L.filter liveK) i with
                        | some _ => rfl
                        | none =>
                          dsimp only
                          rw [if_neg (fun e => hi e.symm)]
      · have hex : (¬ (k : Int) < n) ∨ ((k : Int) < n ∧ ¬ (k : Int) < 100) := by omega
        clear hlt
        rcases hex with hex | ⟨hex1, hex2⟩
        · go_wp2_with fail
          go_meet
          exact ⟨L, N, HOK.out, HT.out⟩
        · go_wp2_with fail
          go_meet
          exact ⟨L, N, HOK.out, HT.out⟩
  case rest =>
    obtain ⟨L, N, hok, hs⟩ := hcut
    have HT := Lib.hid hs
    have HOK := Lib.hid hok
    obtain ⟨ao, co, rfl, hco⟩ := hs.lens.1
    rw [List.length_map] at *
    have hl20 : (L.length : Int) ≤ 20 := by have := ok_len hok; omega
    clear hs hok H1
    generalize hll : L.length = ll at *
    have HLL := Lib.hid hll
    clear hll
    go_upto_region 32 with fail
    have HAB := Lib.hid HT.out.low.size
    have HT2 := Lib.hid (HT.out.alloc H (.cells #[.int .u8 0, .int .i64 0] 24 (0, 0)))
    generalize wc.alloc (.cells #[.int .u8 0, .int .i64 0] 24) = W2 at *
    generalize wc.heap.size = ab at *
    clear HT
    go_wp2_with fail
    go_loopg [120] ll (fun r i wr => ∃ j : Nat, r = ll - j ∧ i = .int .i64 j ∧ j ≤ ll ∧ St TA w b mb (tabOf L) (lookF L) N (.slice ao ll co) (L.map (·.1)) (.slice none 0 0) [] [(ab, .cells (lastV L j).cells 24 (0, 0))] wr)
    case atStart => exact ⟨0, rfl, rfl, Nat.zero_le _, HT2.out⟩
    case round =>
      obtain ⟨j, rfl, rfl, hj, hs⟩ := hrel
      have HR := Lib.hid hs
      clear hs
      have e2 := IntWalk.i64_in ((j : Int) + 1) (by omega)
      by_cases hjl : j < ll
      · have hjl' : (j : Int) < ll := by omega
        have hjL : j < L.length := by have := HLL.out; omega
        obtain ⟨g, cap, ev, hx⟩ := HR.out.item j (by rw [List.length_map]; exact hjL)
        rw [List.getElem_map] at hx
        injection ev with ev1 ev2 ev3
        subst ev1
        subst ev3
        have hxr := HOK.out.range _ (List.getElem_mem hjL)
        have hxi : In64 L[j].1 := by constructor <;> omega
        have hlf := look_of_mem HOK.out.nod (List.getElem_mem hjL)
        have hlk := HR.out.look L[j].1 hxi
        rw [hlf] at hlk
        have hlk : (Instr.lookup 46 (.map (some mb)) (.int .i64 L[j].1) false).run Try.prog wr = .ok (.int .i64 L[j].2) wr := hlk
        have HLF := Lib.hid hlf
        have hnx := next_here HOK.out.nod j hjL
        have HGJ := Lib.hid (tab_get HOK.out.nod j hjL)
        have HLD := Lib.hid (fun h => last_dead (L := L) j hjL h)
        have HLI := Lib.hid (fun h => last_live (L := L) j hjL h)
        clear ev2 hlf
        have hpair : L[j] = (L[j].1, L[j].2) := rfl
        generalize L[j] = pj at *
        obtain ⟨x, y⟩ := pj
        dsimp only at *
        clear hpair
        by_cases hy : y = 0
        · have HLD2 := Lib.hid (HLD.out hy)
          subst hy
          clear hnx
          go_wp2_with fail
          go_roundg (ll - (j + 1))
          case measure => omega
          case rel =>
            refine ⟨j + 1, rfl, by go_num, by omega, ?_⟩
            rw [HLD2.out]
            exact HR.out
        · have hy1 : (y == 0) = false := beq_eq_false_iff_ne.2 hy
          have HLI2 := Lib.hid (HLI.out hy)
          have hnx2 := hnx hy
          clear hnx
          obtain ⟨lk, ln, hlv, l1, l2, l3⟩ := last_range HOK.out j
          have hgj := HGJ.out
          unfold valV at hgj
          rw [if_neg hy] at hgj
          have HGJ2 := Lib.hid hgj
          rw [hlv] at hnx2
          have HR2 := Lib.hid (show St TA w b mb (tabOf L) (lookF L) N (.slice (some ⟨g, 0, none⟩) ll co) (L.map (·.1)) (.slice none 0 0) [] [(ab, .cells #[.int .u8 (lk : Int), .int .i64 ln] 24 (0, 0))] wr by have h := HR.out; rw [hlv] at h; exact h)
          have c0 := (HR2.out.two (List.mem_singleton.2 rfl)).1
          have c1 := (HR2.out.two (List.mem_singleton.2 rfl)).2
          have KNX := Lib.hid (HR2.out.next H ⟨lk, ln⟩ (numV (x - 5)) (numV y) 0 (in_vl _ _ l1 (by omega) (by omega)) hnx2)
          clear hgj hnx2 hlv
          go_wp2_with fail
          refine (show Calls _ _ #[_, .agg #[.int .u8 (lk : Int), .int .i64 ln]] _ (fun e w' => e = .returned (.tuple #[.agg #[.int .u8 3, .int .i64 (x - 5)], .agg #[.int .u8 3, .int .i64 y], .int .i64 0]) ∧ _) from KNX.out).mono ?_
          rintro e w4 ⟨rfl, hs4⟩
          have HT4 := Lib.hid hs4
          clear hs4 c0 c1
          go_upto_region 37 with fail
          have hxs : w.heap.size ≤ w4.heap.size := HT4.out.low.size
          have hAs : ab < w4.heap.size := lt_of_get (HT4.out.block (List.mem_singleton.2 rfl))
          have hs5 := (HT4.out.alloc H (.cells #[.int .u8 3, .int .i64 (x - 5)] 24 (0, 0))).alloc H (.cells #[.int .u8 3, .int .i64 y] 24 (0, 0))
          rw [show (w4.alloc (.cells #[.int .u8 3, .int .i64 (x - 5)] 24 (0, 0))).heap.size = w4.heap.size + 1 from by simp] at hs5
          have HT5 := Lib.hid hs5
          clear hs5 HT4
          generalize (w4.alloc (.cells #[.int .u8 3, .int .i64 (x - 5)] 24)).alloc (.cells #[.int .u8 3, .int .i64 y] 24) = W5 at *
          generalize hxb : w4.heap.size = xb at *
          have HXB := Lib.hid (And.intro hxs hAs)
          clear hxb hxs hAs
          have hmx : (xb, Obj.cells #[.int .u8 3, .int .i64 (x - 5)] 24 (0, 0)) ∈ [(xb + 1, Obj.cells #[.int .u8 3, .int .i64 y] 24 (0, 0)), (xb, Obj.cells #[.int .u8 3, .int .i64 (x - 5)] 24 (0, 0)), (ab, Obj.cells #[.int .u8 (lk : Int), .int .i64 ln] 24 (0, 0))] := List.mem_cons_of_mem _ (List.mem_cons_self ..)
          have hmv : (xb + 1, Obj.cells #[.int .u8 3, .int .i64 y] 24 (0, 0)) ∈ [(xb + 1, Obj.cells #[.int .u8 3, .int .i64 y] 24 (0, 0)), (xb, Obj.cells #[.int .u8 3, .int .i64 (x - 5)] 24 (0, 0)), (ab, Obj.cells #[.int .u8 (lk : Int), .int .i64 ln] 24 (0, 0))] := List.mem_cons_self ..
          have HMX := Lib.hid hmx
          have HMV := Lib.hid hmv
          clear hmx hmv
          have HCC := Lib.hid (fun w' (h : St TA w b mb (tabOf L) (lookF L) N (.slice (some ⟨g, 0, none⟩) ll co) (L.map (·.1)) (.slice none 0 0) [] [(xb + 1, Obj.cells #[.int .u8 3, .int .i64 y] 24 (0, 0)), (xb, Obj.cells #[.int .u8 3, .int .i64 (x - 5)] 24 (0, 0)), (ab, Obj.cells #[.int .u8 (lk : Int), .int .i64 ln] 24 (0, 0))] w') => (show (w'.cell? ⟨xb, 0, none⟩ = some (.int .u8 3) ∧ w'.cell? ⟨xb, 1, none⟩ = some (.int .i64 (x - 5))) ∧ (w'.cell? ⟨xb + 1, 0, none⟩ = some (.int .u8 3) ∧ w'.cell? ⟨xb + 1, 1, none⟩ = some (.int .i64 y)) from ⟨h.two HMX.out, h.two HMV.out⟩))
          have e5 := IntWalk.i64_in (x - 5) (by omega)
          have HTd := Lib.hid (HT5.out.below H ((Below.refl W5.heap.size W5).drew))
          refine wp_region_held_drew (S := fun w' => (w'.cell? ⟨xb, 0, none⟩ = some (.int .u8 3) ∧ w'.cell? ⟨xb, 1, none⟩ = some (.int .i64 (x - 5))) ∧ (w'.cell? ⟨xb + 1, 0, none⟩ = some (.int .u8 3) ∧ w'.cell? ⟨xb + 1, 1, none⟩ = some (.int .i64 y))) mixed (HCC.out _ HTd.out) (fun hS => ?_)
          refine wpAnyH_take (i := 0) (v := ?vga0) rfl (by kernel_rfl) (by kernel_rfl) (by kernel_rfl) (fun _ _ _ h => h) (.inl ⟨by rfl, ?hga0⟩) hS ?rga0
          case hga0 =>
            intro w' hs
            (try dsimp only at hs)
            go_split_ands
            go_simp
            try with_reducible rfl
          simp only [List.getElem_toArray, List.getElem_cons_zero, Act.put, List.setIfInBounds_toArray, List.set_cons_zero, List.set_cons_succ]
          refine wpAnyH_take (i := 1) (v := ?vga1) rfl (by kernel_rfl) (by kernel_rfl) (by kernel_rfl) (fun _ _ _ h => h) (.inl ⟨by rfl, ?hga1⟩) hS ?rga1
          case hga1 =>
            intro w' hs
            (try dsimp only at hs)
            go_split_ands
            go_simp
            try with_reducible rfl
          simp only [List.getElem_toArray, List.getElem_cons_succ, List.getElem_cons_zero, Act.put, List.setIfInBounds_toArray, List.set_cons_zero, List.set_cons_succ]
          refine wpAnyH_take (i := 2) (v := ?vga2) rfl (by kernel_rfl) (by kernel_rfl) (by kernel_rfl) (fun _ _ _ h => h) (.inl ⟨by rfl, ?hga2⟩) hS ?rga2
          case hga2 =>
            intro w' hs
            (try dsimp only at hs)
            go_split_ands
            go_simp
            try with_reducible rfl
          simp only [List.getElem_toArray, List.getElem_cons_succ, List.getElem_cons_zero, Act.put, List.setIfInBounds_toArray, List.set_cons_zero, List.set_cons_succ]
          refine wpAnyH_take (i := 3) (v := ?vga3) rfl (by kernel_rfl) (by kernel_rfl) (by kernel_rfl) (fun _ _ _ h => h) (.inl ⟨by rfl, ?hga3⟩) hS ?rga3
          case hga3 =>
            intro w' hs
            (try dsimp only at hs)
            go_split_ands
            go_simp
            try with_reducible rfl
          simp only [List.getElem_toArray, List.getElem_cons_succ, List.getElem_cons_zero, Act.put, List.setIfInBounds_toArray, List.set_cons_zero, List.set_cons_succ]
          refine wpAnyH_take (i := 4) (v := ?vga4) rfl (by kernel_rfl) (by kernel_rfl) (by kernel_rfl) (fun _ _ _ h => h) (.inl ⟨by rfl, ?hga4⟩) hS ?rga4
          case hga4 =>
            intro w' hs
            (try dsimp only at hs)
            go_split_ands
            go_simp
            try with_reducible rfl
          simp only [List.getElem_toArray, List.getElem_cons_succ, List.getElem_cons_zero, Act.put, List.setIfInBounds_toArray, List.set_cons_zero, List.set_cons_succ]
          refine wpAnyH_take (i := 5) (v := ?vga5) rfl (by kernel_rfl) (by kernel_rfl) (by kernel_rfl) (fun _ _ _ h => h) (.inl ⟨by rfl, ?hga5⟩) hS ?rga5
          case hga5 =>
            intro w' hs
            (try dsimp only at hs)
            go_split_ands
            go_simp
            try with_reducible rfl
          simp only [List.getElem_toArray, List.getElem_cons_succ, List.getElem_cons_zero, Act.put, List.setIfInBounds_toArray, List.set_cons_zero, List.set_cons_succ]
          refine wpAnyH_ready (rs := [6]) (by kernel_rfl) (by simp) (AllReadyH.cons rfl (fun K hK => ?_) AllReadyH.nil)
          go_simp
          go_at_call 16
          refine (num_fn (x - 5) _).mono ?_
          rintro e w6 ⟨rfl, hb6⟩
          have HT6 := Lib.hid (HTd.out.below H hb6)
          clear hb6
          go_wp2_with fail
          refine hK.out _ _ (HCC.out _ HT6.out) (fun hS => ?_)
          clear hK
          have hlk6 := HT6.out.look x hxi
          rw [HLF.out] at hlk6
          have hlk6 : (Instr.lookup 46 (.map (some mb)) (.int .i64 x) false).run Try.prog w6 = .ok (.int .i64 y) w6 := hlk6
          refine wpAnyH_take (i := 7) (v := ?vgb7) rfl (by kernel_rfl) (by kernel_rfl) (by kernel_rfl) (fun _ _ _ h => h) (.inl ⟨by rfl, ?hgb7⟩) hS ?rgb7
          case hgb7 =>
            intro w' hs
            (try dsimp only at hs)
            go_split_ands
            go_simp
            try with_reducible rfl
          simp only [List.getElem_toArray, List.getElem_cons_succ, List.getElem_cons_zero, Act.put, List.setIfInBounds_toArray, List.set_cons_zero, List.set_cons_succ]
          refine wpAnyH_take (i := 8) (v := ?vgb8) rfl (by kernel_rfl) (by kernel_rfl) (by kernel_rfl) (fun _ _ _ h => h) (.inl ⟨by rfl, ?hgb8⟩) hS ?rgb8
          case hgb8 =>
            intro w' hs
            (try dsimp only at hs)
            go_split_ands
            go_simp
            try with_reducible rfl
          simp only [List.getElem_toArray, List.getElem_cons_succ, List.getElem_cons_zero, Act.put, List.setIfInBounds_toArray, List.set_cons_zero, List.set_cons_succ]
          refine wpAnyH_take (i := 9) (v := ?vgb9) rfl (by kernel_rfl) (by kernel_rfl) (by kernel_rfl) (fun _ _ _ h => h) (.inl ⟨by rfl, ?hgb9⟩) hS ?rgb9
          case hgb9 =>
            intro w' hs
            (try dsimp only at hs)
            go_split_ands
            go_simp
            try with_reducible rfl
          simp only [List.getElem_toArray, List.getElem_cons_succ, List.getElem_cons_zero, Act.put, List.setIfInBounds_toArray, List.set_cons_zero, List.set_cons_succ]
          refine wpAnyH_take (i := 10) (v := ?vgb10) rfl (by kernel_rfl) (by kernel_rfl) (by kernel_rfl) (fun _ _ _ h => h) (.inl ⟨by rfl, ?hgb10⟩) hS ?rgb10
          case hgb10 =>
            intro w' hs
            (try dsimp only at hs)
            go_split_ands
            go_simp
            try with_reducible rfl
          simp only [List.getElem_toArray, List.getElem_cons_succ, List.getElem_cons_zero, Act.put, List.setIfInBounds_toArray, List.set_cons_zero, List.set_cons_succ]
          refine wpAnyH_take (i := 11) (v := ?vgb11) rfl (by kernel_rfl) (by kernel_rfl) (by kernel_rfl) (fun _ _ _ h => h) (.inl ⟨by rfl, ?hgb11⟩) hS ?rgb11
          case hgb11 =>
            intro w' hs
            (try dsimp only at hs)
            go_split_ands
            go_simp
            try with_reducible rfl
          simp only [List.getElem_toArray, List.getElem_cons_succ, List.getElem_cons_zero, Act.put, List.setIfInBounds_toArray, List.set_cons_zero, List.set_cons_succ]
          refine wpAnyH_take (i := 12) (v := ?vgb12) rfl (by kernel_rfl) (by kernel_rfl) (by kernel_rfl) (fun _ _ _ h => h) (.inl ⟨by rfl, ?hgb12⟩) hS ?rgb12
          case hgb12 =>
            intro w' hs
            (try dsimp only at hs)
            go_split_ands
            go_simp
            try with_reducible rfl
          simp only [List.getElem_toArray, List.getElem_cons_succ, List.getElem_cons_zero, Act.put, List.setIfInBounds_toArray, List.set_cons_zero, List.set_cons_succ]
          refine wpAnyH_ready (rs := [13]) (by kernel_rfl) (by simp) (AllReadyH.cons rfl (fun K hK => ?_) AllReadyH.nil)
          go_simp
          refine hK.out _ _ (HCC.out _ HT6.out) (fun hS => ?_)
          clear hK
          refine wpAnyH_ready (rs := [14]) (by kernel_rfl) (by simp) (AllReadyH.cons rfl (fun K hK => ?_) AllReadyH.nil)
          go_simp
          go_at_call 16
          refine (num_fn y _).mono ?_
          rintro e w7 ⟨rfl, hb7⟩
          have HT7 := Lib.hid (HT6.out.below H hb7)
          clear hb7 hlk6
          go_wp2_with fail
          refine hK.out _ _ (HCC.out _ HT7.out) (fun hS => ?_)
          clear hK
          refine wpAnyH_take (i := 15) (v := ?vgc15) rfl (by kernel_rfl) (by kernel_rfl) (by kernel_rfl) (fun _ _ _ h => h) (.inl ⟨by rfl, ?hgc15⟩) hS ?rgc15
          case hgc15 =>
            intro w' hs
            (try dsimp only at hs)
            go_split_ands
            go_simp
            try with_reducible rfl
          simp only [List.getElem_toArray, List.getElem_cons_succ, List.getElem_cons_zero, Act.put, List.setIfInBounds_toArray, List.set_cons_zero, List.set_cons_succ]
          refine wpAnyH_take (i := 16) (v := ?vgc16) rfl (by kernel_rfl) (by kernel_rfl) (by kernel_rfl) (fun _ _ _ h => h) (.inl ⟨by rfl, ?hgc16⟩) hS ?rgc16
          case hgc16 =>
            intro w' hs
            (try dsimp only at hs)
            go_split_ands
            go_simp
            try with_reducible rfl
          simp only [List.getElem_toArray, List.getElem_cons_succ, List.getElem_cons_zero, Act.put, List.setIfInBounds_toArray, List.set_cons_zero, List.set_cons_succ]
          refine wpAnyH_take (i := 17) (v := ?vgc17) rfl (by kernel_rfl) (by kernel_rfl) (by kernel_rfl) (fun _ _ _ h => h) (.inl ⟨by rfl, ?hgc17⟩) hS ?rgc17
          case hgc17 =>
            intro w' hs
            (try dsimp only at hs)
            go_split_ands
            go_simp
            try with_reducible rfl
          simp only [List.getElem_toArray, List.getElem_cons_succ, List.getElem_cons_zero, Act.put, List.setIfInBounds_toArray, List.set_cons_zero, List.set_cons_succ]
          refine wpAnyH_take (i := 18) (v := ?vgc18) rfl (by kernel_rfl) (by kernel_rfl) (by kernel_rfl) (fun _ _ _ h => h) (.inl ⟨by rfl, ?hgc18⟩) hS ?rgc18
          case hgc18 =>
            intro w' hs
            (try dsimp only at hs)
            go_split_ands
            go_simp
            try with_reducible rfl
          simp only [List.getElem_toArray, List.getElem_cons_succ, List.getElem_cons_zero, Act.put, List.setIfInBounds_toArray, List.set_cons_zero, List.set_cons_succ]
          refine wpAnyH_take (i := 19) (v := ?vgc19) rfl (by kernel_rfl) (by kernel_rfl) (by kernel_rfl) (fun _ _ _ h => h) (.inl ⟨by rfl, ?hgc19⟩) hS ?rgc19
          case hgc19 =>
            intro w' hs
            (try dsimp only at hs)
            go_split_ands
            go_simp
            try with_reducible rfl
          simp only [List.getElem_toArray, List.getElem_cons_succ, List.getElem_cons_zero, Act.put, List.setIfInBounds_toArray, List.set_cons_zero, List.set_cons_succ]
          refine wpAnyH_take (i := 21) (v := ?vgc21) rfl (by kernel_rfl) (by kernel_rfl) (by kernel_rfl) (fun _ _ _ h => h) (.inl ⟨by rfl, ?hgc21⟩) hS ?rgc21
          case hgc21 =>
            intro w' hs
            (try dsimp only at hs)
            go_split_ands
            go_simp
            try with_reducible rfl
          simp only [List.getElem_toArray, List.getElem_cons_succ, List.getElem_cons_zero, Act.put, List.setIfInBounds_toArray, List.set_cons_zero, List.set_cons_succ]
          refine wpAnyH_ready (rs := [20]) (by kernel_rfl) (by simp) (AllReadyH.cons rfl (fun K hK => ?_) AllReadyH.nil)
          go_simp
          go_at_call 9
          refine (show Calls _ _ #[_, .agg #[.int .u8 3, .int .i64 (x - 5)]] _ (fun e w' => e = .returned (.agg #[.int .u8 3, .int .i64 y]) ∧ _) from HT7.out.get H (numV (x - 5)) (numV y) (in_vl _ _ (by decide) (by omega) (by omega)) HGJ2.out).mono ?_
          rintro e w8 ⟨rfl, hs8⟩
          have HT8 := Lib.hid hs8
          clear hs8
          go_wp2_with fail
          refine hK.out _ _ (HCC.out _ HT8.out) (fun hS => ?_)
          clear hK
          refine wpAnyH_take (i := 22) (v := ?vgd22) rfl (by kernel_rfl) (by kernel_rfl) (by kernel_rfl) (fun _ _ _ h => h) (.inl ⟨by rfl, ?hgd22⟩) hS ?rgd22
          case hgd22 =>
            intro w' hs
            (try dsimp only at hs)
            go_split_ands
            go_simp
            try with_reducible rfl
          simp only [List.getElem_toArray, List.getElem_cons_succ, List.getElem_cons_zero, Act.put, List.setIfInBounds_toArray, List.set_cons_zero, List.set_cons_succ]
          refine wpAnyH_take (i := 23) (v := ?vgd23) rfl (by kernel_rfl) (by kernel_rfl) (by kernel_rfl) (fun _ _ _ h => h) (.inl ⟨by rfl, ?hgd23⟩) hS ?rgd23
          case hgd23 =>
            intro w' hs
            (try dsimp only at hs)
            go_split_ands
            go_simp
            try with_reducible rfl
          simp only [List.getElem_toArray, List.getElem_cons_succ, List.getElem_cons_zero, Act.put, List.setIfInBounds_toArray, List.set_cons_zero, List.set_cons_succ]
          refine wpAnyH_done (by kernel_rfl) ?_ _
          have hs9 : St TA w b mb (tabOf L) (lookF L) N (.slice (some ⟨g, 0, none⟩) ll co) (L.map (·.1)) (.slice none 0 0) [] [(ab, Obj.cells #[.int .u8 (lk : Int), .int .i64 ln] 24 (0, 0))] w8 := HT8.out.fewer (fun p hp => List.mem_cons_of_mem _ (List.mem_cons_of_mem _ hp))
          have HT9 := Lib.hid ((hs9.put H HAB.out (fun p hp => absurd hp (List.not_mem_nil)) 0 (.int .u8 3)).put H HAB.out (fun p hp => absurd hp (List.not_mem_nil)) 1 (.int .i64 (x - 5)))
          have d0 := (hs9.two (List.mem_singleton.2 rfl)).1
          have d1 := (hs9.two (List.mem_singleton.2 rfl)).2
          have f0 := free_of (hs9.block (List.mem_singleton.2 rfl)) 0
          have f1 := free_of (hs9.block (List.mem_singleton.2 rfl)) 1
          have c2 := (HCC.out _ HT8.out).1.1
          have c3 := (HCC.out _ HT8.out).1.2
          clear hs9 hS hlk
          go_wp2_with fail
          go_roundg (ll - (j + 1))
          case measure => omega
          case rel =>
            refine ⟨j + 1, rfl, by go_num, by omega, ?_⟩
            rw [HLI2.out]
            exact HT9.out
      · have hjl' : ¬ (j : Int) < ll := by omega
        obtain rfl : j = ll := by omega
        obtain ⟨lk, ln, hlv, l1, l2, l3⟩ := last_range HOK.out j
        have hen := next_end HOK.out.nod
        rw [HLL.out, hlv] at hen
        have HR2 := Lib.hid (show St TA w b mb (tabOf L) (lookF L) N (.slice ao j co) (L.map (·.1)) (.slice none 0 0) [] [(ab, .cells #[.int .u8 (lk : Int), .int .i64 ln] 24 (0, 0))] wr by have h := HR.out; rw [hlv] at h; exact h)
        have c0 := (HR2.out.two (List.mem_singleton.2 rfl)).1
        have c1 := (HR2.out.two (List.mem_singleton.2 rfl)).2
        have KNX := Lib.hid (HR2.out.next H ⟨lk, ln⟩ nilV nilV 0 (in_vl _ _ l1 (by omega) (by omega)) hen)
        clear hen hlv
        go_wp2_with fail
        refine (show Calls _ _ #[_, .agg #[.int .u8 (lk : Int), .int .i64 ln]] _ (fun e w' => e = .returned (.tuple #[.agg #[.int .u8 0, .int .i64 0], .agg #[.int .u8 0, .int .i64 0], .int .i64 0]) ∧ _) from KNX.out).mono ?_
        rintro e w4 ⟨rfl, hs4⟩
        have HT4 := Lib.hid hs4
        clear hs4 c0 c1
        have hb5 : Below w.heap.size w ((w4.alloc (.cells #[.int .u8 0, .int .i64 0] 24 (0, 0))).alloc (.cells #[.int .u8 0, .int .i64 0] 24 (0, 0))) := (HT4.out.low.alloc HT4.out.low.size _).alloc (by simp; exact Nat.le_succ_of_le HT4.out.low.size) _
        have HB5 := Lib.hid hb5
        clear hb5
        go_wp2_with fail
        refine (HA.out _).mono ?_
        rintro e w9 ⟨rfl, b9⟩
        have HB9 := Lib.hid (HB5.out.trans (b9.mono HB5.out.size))
        clear b9
        go_wp2_with fail
        go_ret
        exact ⟨rfl, HB9.out⟩
end Go.Proofs.Ytlpbciclkagnbaa.Tb
