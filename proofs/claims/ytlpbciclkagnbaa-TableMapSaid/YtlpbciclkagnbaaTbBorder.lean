/-
  Layer 13: the law TableBorder, over what the calls say (written by takes.py out of tb-border.src).
-/
import Derived.Test.YtlpbciclkagnbaaTbAwake
namespace Go.Proofs.Ytlpbciclkagnbaa.Tb
open Go Go.RowKit Go.Proofs.Ytlpbciclkagnbaa.Pl

theorem put_len (t : Tbl) (k v : Vl) : (putT t k v).length = t.length := List.length_map _
theorem set_len (t : Tbl) (k v : Vl) : (setT t k v).1.length ≤ t.length + 1 := by
  unfold setT
  split
  · split
    · rw [put_len]; exact Nat.le_succ _
    · split
      · exact Nat.le_succ _
      · split
        · have := List.length_filter_le alive t; dsimp only; omega
        · have := List.length_filter_le alive t; dsimp only; rw [List.length_append]; simp; omega
  · exact Nat.le_succ _
theorem set_keys (t : Tbl) (k v x : Vl) (h : x ∈ (setT t k v).1.map (·.1)) : x = k ∨ x ∈ t.map (·.1) := by
  have hf : ∀ x, x ∈ (t.filter alive).map (·.1) → x ∈ t.map (·.1) := fun x h => by
    obtain ⟨p, h1, h2⟩ := List.mem_map.1 h
    exact List.mem_map.2 ⟨p, (List.mem_filter.1 h1).1, h2⟩
  unfold setT at h
  split at h
  · split at h
    · rw [put_keys] at h; exact .inr h
    · split at h
      · exact .inr h
      · split at h
        · exact .inr (hf x h)
        · rw [List.map_append] at h
          rcases List.mem_append.1 h with h | h
          · exact .inr (hf x h)
          · exact .inl (List.mem_singleton.1 h)
  · exact .inr h
theorem set_ok (t : Tbl) (k v : Vl) (hk : keyB k = true) (hv : valB v = true) (hl : t.length < 65536) : (setT t k v).2 = 0 := by
  unfold setT
  rw [hk, hv]
  have := List.length_filter_le alive t
  rw [if_pos (show (true && true) = true from rfl)]
  split
  · rfl
  · split
    · rfl
    · rw [if_neg (by omega)]
/-- All keys are numbers from 1 to 12. -/
def Twelve (t : Tbl) : Prop := ∀ x ∈ t.map (·.1), ∃ i : Int, 1 ≤ i ∧ i ≤ 12 ∧ x = numV i
theorem twelve_border {t : Tbl} {n : Nat} (h : Twelve t) (hb : BorderT t n) : n ≤ 12 := by
  rcases Nat.lt_or_ge 12 n with h1 | h1
  · exfalso
    have h2 := hb.1 12 h1
    have h3 : hasT t (numV ((12 : Nat) + 1)) = false := by
      cases h4 : hasT t (numV ((12 : Nat) + 1)) with
      | false => rfl
      | true =>
        obtain ⟨i, h5, h6, h7⟩ := h _ ((has_iff _ _).1 h4)
        injection h7 with _ h7
        omega
    rw [get_none _ _ h3] at h2
    exact h2 rfl
  · exact h1
theorem pick_kit (x n : Int) (w : World) (hx : In64 x) (hn : In64 n) (h : 1 ≤ n) : Calls Try.prog 15 #[.int .i64 x, .int .i64 n] w fun e w' => e = .returned (.int .i64 (x % n)) ∧ w = w' := by
  obtain ⟨hx1, hx2⟩ := hx
  obtain ⟨hn1, hn2⟩ := hn
  have hne : (n == 0) = false := by rw [beq_eq_false_iff_ne]; omega
  have hq := Int.emod_nonneg x (show n ≠ 0 by omega)
  have hq2 := Int.emod_lt_of_pos x (show 0 < n by omega)
  have h1n : ¬ n < 1 := by omega
  by_cases h0 : x.tmod n < 0
  · have ha : x.tmod n + n = x % n := by
      have := Int.tmod_eq_emod (a := x) (b := n)
      split at this <;> omega
    have hw : IntKind.i64.wrap (x.tmod n + n) = x % n := by rw [ha]; exact IntWalk.i64_in _ (by omega)
    have hw0 := IntWalk.i64_in (x.tmod n) (by omega)
    generalize x % n = q at *
    obtain ⟨r, hr⟩ : ∃ r, x.tmod n = r := ⟨_, rfl⟩
    rw [hr] at h0 hw hw0 ha
    go_enter Try.func15, Try.ntmps15
    go_wp2_with fail
    go_ret
    exact ⟨by go_num, rfl⟩
  · have ha : x.tmod n = x % n := by
      have := Int.tmod_eq_emod (a := x) (b := n)
      split at this <;> omega
    have hw0 := IntWalk.i64_in (x.tmod n) (by omega)
    obtain ⟨r, hr⟩ : ∃ r, x.tmod n = r := ⟨_, rfl⟩
    rw [hr] at h0 hw0 ha
    rw [← ha]
    go_enter Try.func15, Try.ntmps15
    go_wp2_with fail
    go_ret
    exact ⟨by go_num, rfl⟩
/-- A store into the law's own block. -/
theorem TblAt.put {TA : TableP} {w0 w : World} {b : Nat} {t : Tbl} {k : Nat} {cs : Array Value} {T : TypeId} (H : TableSays TA) (h : TblAt TA w0 b t [(k, .cells cs T (0, 0))] w) (hk : w0.heap.size ≤ k) (j : Nat) (v : Value) :
    TblAt TA w0 b t [(k, .cells (cs.setIfInBounds j v) T (0, 0))] (w.setCell ⟨k, j, none⟩ v) := by
  obtain ⟨F, hp, hF, h0, hK⟩ := h
  obtain ⟨h1, h2⟩ := hK _ (List.mem_singleton.2 rfl)
  refine ⟨F, H.keep (G := [k]) hp ⟨rfl, rfl, rfl, by simp, fun i _ hn => heap_setCell_other w ⟨k, j, none⟩ i v (fun e => hn (List.mem_singleton.2 e))⟩ (fun i hi hg => h2 (by rw [← List.mem_singleton.1 hg]; exact hi)), hF, h0.setCell hk _, fun p hp => ?_⟩
  obtain rfl := List.mem_singleton.1 hp
  exact ⟨heap_setCell_same w k j cs T v h1, h2⟩

set_option maxHeartbeats 8000000 in
set_option maxRecDepth 1000000 in
theorem border_walk (TA : TableP) (H : TableSays TA) (keys values : Value) (ks vs : List Int) (w : World) (hk : LstP (fun _ => True) w keys (ints ks)) (hv : LstP (fun _ => True) w values (ints vs)) (hi : ∀ z ∈ ks, In64 z) :
    Calls Try.prog 6 #[keys, values] w (fun e w' => e = .returned (.bool true) ∧ Below w.heap.size w w') := by
  obtain ⟨aw, cw, rfl, hcw, hlw⟩ := hk.slice
  obtain ⟨av, cv, rfl, hcv, hlv⟩ := hv.slice
  rw [ints_len] at hcw hlw hk hcv hlv hv
  rw [ints_len, ints_len]
  obtain ⟨n, hn⟩ : ∃ n, n = ks.length := ⟨_, rfl⟩
  obtain ⟨nv, hnv⟩ : ∃ n, n = vs.length := ⟨_, rfl⟩
  rw [← hn] at hcw hlw hk ⊢
  rw [← hnv] at hcv hlv hv ⊢
  have HN := Lib.hid hn
  have HNV := Lib.hid hnv
  have HK := Lib.hid hk
  have HV := Lib.hid hv
  have HI := Lib.hid hi
  have HA := Lib.hid (awake_fn TA H)
  unfold Len at hlw hlv
  have kn := H.new w
  unfold NewSays at kn
  clear hn hnv hk hv hi
  go_enter Try.func6, Try.ntmps6
  go_wp2_with fail
  refine kn.mono ?_
  rintro e w1 ⟨b, F, rfl, hp, hF, hb1⟩
  have H1 := Lib.hid (show TblAt TA w b [] [] w1 from ⟨F, hp, hF, hb1, fun p hp => by cases hp⟩)
  clear hp hF hb1 kn
  go_upto_block 0 with fail
  go_cut [6, 7] from 13 to 47 (fun _ _ wx => ∃ t, Twelve t ∧ TblAt TA w b t [] wx)
  case first =>
    go_wp2_with fail
    go_loopg [6] n (fun r i wr => ∃ (k : Nat) (t : Tbl), r = n - k ∧ i = .int .i64 k ∧ k ≤ n ∧ k ≤ 100 ∧ t.length ≤ k ∧ Twelve t ∧ TblAt TA w b t [] wr)
    case atStart => exact ⟨0, [], rfl, rfl, Nat.zero_le _, Nat.zero_le _, Nat.zero_le _, (fun x h => by cases h), H1.out⟩
    case round =>
      obtain ⟨k, t, rfl, rfl, hk, hk2, htl, htw, ht⟩ := hrel
      have HT := Lib.hid ht
      have HTL := Lib.hid htl
      have HTW := Lib.hid htw
      clear ht htl htw
      by_cases hlt : k < n ∧ k < 100
      · obtain ⟨hlt, hlt2⟩ := hlt
        have hlt' : (k : Int) < n := by omega
        have hlt2' : (k : Int) < 100 := by omega
        have hkz : k < ks.length := by have := HN.out; omega
        go_upto_region 8 with fail
        have ha := HT.out.alloc H (.cells #[.int .u8 0, .int .i64 0] 24 (0, 0))
        have hvb := HT.out.low.size
        generalize hW : wr.alloc (.cells #[.int .u8 0, .int .i64 0] 24) = W2 at *
        generalize wr.heap.size = vb at *
        have HT2 := Lib.hid ha
        have HVB := Lib.hid hvb
        clear ha hvb hW
        go_cut [35] from 13 to 47 (fun c wx => (∃ β : Bool, c = .bool β) ∧ wx = W2)
        case first =>
          by_cases hv : k < nv
          · have hv' : (k : Int) < nv := by omega
            have hkv : k < vs.length := by rw [← HNV.out]; exact hv
            obtain ⟨gw, off, cap, -, hg, hvv, -, c0⟩ := HV.out.item (i := k) (by rw [ints_len]; exact hkv)
            rw [ints_get _ _ hkv] at c0
            injection hvv with hv1 hv2 hv3
            subst hv1
            rw [← HT2.out.low.cell (p := ⟨gw, off + k, none⟩) hg] at c0
            clear hg hv2 hv3
            generalize vs[k] = z at *
            go_wp2_with fail
            go_meet
            exact ⟨⟨_, rfl⟩, rfl⟩
          · have hv' : ¬ (k : Int) < nv := by omega
            go_wp2_with fail
            go_meet
            exact ⟨⟨_, rfl⟩, rfl⟩
        case rest =>
          obtain ⟨⟨β, rfl⟩, rfl⟩ := hcut
          go_upto_if 35 with fail
          go_cut [] from 13 to 47 (fun wx => ∃ v : Vl, (v = nilV ∨ v = numV 1) ∧ TblAt TA w b t [(vb, .cells v.cells 24 (0, 0))] wx)
          case first =>
            cases β with
            | true =>
              go_wp2_with fail
              refine (num_fn 1 wc).mono ?_
              rintro e w5 ⟨rfl, hb5⟩
              have ht5 := HT2.out.below H hb5
              have c0 := (ht5.two (List.mem_singleton.2 rfl)).1
              have c1 := (ht5.two (List.mem_singleton.2 rfl)).2
              have f0 := free_of (ht5.own (List.mem_singleton.2 rfl)) 0
              have f1 := free_of (ht5.own (List.mem_singleton.2 rfl)) 1
              have HT5 := Lib.hid ((ht5.put H HVB.out 0 (.int .u8 3)).put H HVB.out 1 (.int .i64 1))
              clear ht5 hb5
              go_wp2_with fail
              go_meet
              exact ⟨numV 1, .inr rfl, HT5.out⟩
            | false =>
              go_wp2_with fail
              go_meet
              exact ⟨nilV, .inl rfl, HT2.out⟩
          case rest =>
            obtain ⟨v, hv, ht6⟩ := hcut
            obtain ⟨gw, off, cap, -, hg, hvv, -, c0⟩ := HK.out.item (i := k) (by rw [ints_len]; exact hkz)
            rw [ints_get _ _ hkz] at c0
            injection hvv with hv1 hv2 hv3
            subst hv1
            have hzi := HI.out _ (List.getElem_mem hkz)
            generalize ks[k] = z at *
            have hcell : ∀ (w' : World) (t' : Tbl) (K : Own), TblAt TA w b t' K w' → w'.cell? ⟨gw, off + k, none⟩ = some (.int .i64 z) := fun _ _ _ h => by rw [h.low.cell (p := ⟨gw, off + k, none⟩) hg]; exact c0
            have HC := Lib.hid hcell
            have hm0 := Int.emod_nonneg z (show (12 : Int) ≠ 0 by decide)
            have hm1 := Int.emod_lt_of_pos z (show (0 : Int) < 12 by decide)
            have kp := fun w' => pick_kit z 12 w' hzi (by constructor <;> decide) (by decide)
            generalize z % 12 = q at *
            have e0 := IntWalk.i64_in (1 + q) (by omega)
            have hvB : valB v = true ∧ v.In := by
              rcases hv with rfl | rfl
              · exact ⟨rfl, in_vl _ _ (by decide) (by decide) (by decide)⟩
              · exact ⟨rfl, in_vl _ _ (by decide) (by decide) (by decide)⟩
            have hkB : keyB (numV (1 + q)) = true := rfl
            have hks : (numV (1 + q)).In := in_vl _ _ (by decide) (by omega) (by omega)
            have hts : t.length < 65536 := by have := HTL.out; omega
            have HS := Lib.hid (And.intro (set_ok t (numV (1 + q)) v hkB hvB.1 hts) (And.intro (show (setT t (numV (1 + q)) v).1.length ≤ k + 1 from Nat.le_trans (set_len ..) (Nat.succ_le_succ HTL.out)) (show Twelve (setT t (numV (1 + q)) v).1 from fun x hx => (set_keys t _ v x hx).elim (fun e => ⟨1 + q, by omega, by omega, e⟩) (HTW.out x))))
            have HSET := Lib.hid (show ∀ w', TblAt TA w b t [(vb, .cells v.cells 24 (0, 0))] w' → _ from fun w' h => set_at H (numV (1 + q)) v _ _ hks hvB.2 hts (show setT t (numV (1 + q)) v = ((setT t (numV (1 + q)) v).1, 0) from by rw [← HS.out.1]) h)
            have HT6 := Lib.hid ht6
            have KP := Lib.hid kp
            clear ht6 kp hv hvB hkB hks hts c0 hg hv2 hv3 hzi hcell
            obtain ⟨vk, vn⟩ := v
            unfold Vl.cells at HT6 HSET
            dsimp only at HT6 HSET
            go_upto_region 10 with fail
            have HTd := Lib.hid (HT6.out.below H ((Below.refl wc.heap.size wc).drew))
            refine wp_region_held_drew (S := fun w' => (w'.cell? ⟨vb, 0, none⟩ = some (.int .u8 (vk : Int)) ∧ w'.cell? ⟨vb, 1, none⟩ = some (.int .i64 vn)) ∧ w'.cell? ⟨gw, off + k, none⟩ = some (.int .i64 z)) mixed ⟨HTd.out.two (List.mem_singleton.2 rfl), HC.out _ _ _ HTd.out⟩ (fun hS => ?_)
            refine wpAnyH_take (i := 0) (v := ?va0) rfl (by kernel_rfl) (by kernel_rfl) (by kernel_rfl) (fun _ _ _ h => h) (.inl ⟨by rfl, ?ha0⟩) hS ?ra0
            case ha0 =>
              intro w' hs
              (try dsimp only at hs)
              go_split_ands
              go_simp
              try with_reducible rfl
            simp only [List.getElem_toArray, List.getElem_cons_zero, Act.put, List.setIfInBounds_toArray, List.set_cons_zero, List.set_cons_succ]
            refine wpAnyH_take (i := 1) (v := ?va1) rfl (by kernel_rfl) (by kernel_rfl) (by kernel_rfl) (fun _ _ _ h => h) (.inl ⟨by rfl, ?ha1⟩) hS ?ra1
            case ha1 =>
              intro w' hs
              (try dsimp only at hs)
              go_split_ands
              go_simp
              try with_reducible rfl
            simp only [List.getElem_toArray, List.getElem_cons_succ, List.getElem_cons_zero, Act.put, List.setIfInBounds_toArray, List.set_cons_zero, List.set_cons_succ]
            refine wpAnyH_take (i := 2) (v := ?va2) rfl (by kernel_rfl) (by kernel_rfl) (by kernel_rfl) (fun _ _ _ h => h) (.inl ⟨by rfl, ?ha2⟩) hS ?ra2
            case ha2 =>
              intro w' hs
              (try dsimp only at hs)
              go_split_ands
              go_simp
              try with_reducible rfl
            simp only [List.getElem_toArray, List.getElem_cons_succ, List.getElem_cons_zero, Act.put, List.setIfInBounds_toArray, List.set_cons_zero, List.set_cons_succ]
            refine wpAnyH_take (i := 3) (v := ?va3) rfl (by kernel_rfl) (by kernel_rfl) (by kernel_rfl) (fun _ _ _ h => h) (.inl ⟨by rfl, ?ha3⟩) hS ?ra3
            case ha3 =>
              intro w' hs
              (try dsimp only at hs)
              go_split_ands
              go_simp
              try with_reducible rfl
            simp only [List.getElem_toArray, List.getElem_cons_succ, List.getElem_cons_zero, Act.put, List.setIfInBounds_toArray, List.set_cons_zero, List.set_cons_succ]
            refine wpAnyH_take (i := 4) (v := ?va4) rfl (by kernel_rfl) (by kernel_rfl) (by kernel_rfl) (fun _ _ _ h => h) (.inl ⟨by rfl, ?ha4⟩) hS ?ra4
            case ha4 =>
              intro w' hs
              (try dsimp only at hs)
              go_split_ands
              go_simp
              try with_reducible rfl
            simp only [List.getElem_toArray, List.getElem_cons_succ, List.getElem_cons_zero, Act.put, List.setIfInBounds_toArray, List.set_cons_zero, List.set_cons_succ]
            refine wpAnyH_take (i := 8) (v := ?va8) rfl (by kernel_rfl) (by kernel_rfl) (by kernel_rfl) (fun _ _ _ h => h) (.inl ⟨by rfl, ?ha8⟩) hS ?ra8
            case ha8 =>
              intro w' hs
              (try dsimp only at hs)
              go_split_ands
              go_simp
              try with_reducible rfl
            simp only [List.getElem_toArray, List.getElem_cons_succ, List.getElem_cons_zero, Act.put, List.setIfInBounds_toArray, List.set_cons_zero, List.set_cons_succ]
            refine wpAnyH_ready (rs := [5]) (by kernel_rfl) (by simp) (AllReadyH.cons rfl (fun K hK => ?_) AllReadyH.nil)
            go_simp
            go_at_call 15
            refine (KP.out _).mono ?_
            rintro e w7 ⟨rfl, rfl⟩
            go_wp2_with fail
            refine hK.out _ _ ⟨HTd.out.two (List.mem_singleton.2 rfl), HC.out _ _ _ HTd.out⟩ (fun hS => ?_)
            clear hK
            refine wpAnyH_take (i := 6) (v := ?va6) rfl (by kernel_rfl) (by kernel_rfl) (by kernel_rfl) (fun _ _ _ h => h) (.inl ⟨by rfl, ?ha6⟩) hS ?ra6
            case ha6 =>
              intro w' hs
              (try dsimp only at hs)
              go_split_ands
              go_simp
              try with_reducible rfl
            simp only [List.getElem_toArray, List.getElem_cons_succ, List.getElem_cons_zero, Act.put, List.setIfInBounds_toArray, List.set_cons_zero, List.set_cons_succ]
            refine wpAnyH_ready (rs := [7]) (by kernel_rfl) (by simp) (AllReadyH.cons rfl (fun K hK => ?_) AllReadyH.nil)
            go_simp
            go_at_call 16
            refine (num_fn (1 + q) _).mono ?_
            rintro e w8 ⟨rfl, hb8⟩
            have HT8 := Lib.hid (HTd.out.below H hb8)
            clear hb8
            go_wp2_with fail
            refine hK.out _ _ ⟨HT8.out.two (List.mem_singleton.2 rfl), HC.out _ _ _ HT8.out⟩ (fun hS => ?_)
            clear hK
            refine wpAnyH_ready (rs := [9]) (by kernel_rfl) (by simp) (AllReadyH.cons rfl (fun K hK => ?_) AllReadyH.nil)
            go_simp
            go_at_call 8
            refine (show Calls _ _ #[_, .agg #[.int .u8 3, .int .i64 (1 + q)], .agg #[.int .u8 (vk : Int), .int .i64 vn]] _ _ from HSET.out _ HT8.out).mono ?_
            rintro e w9 ⟨rfl, ht9⟩
            have HT9 := Lib.hid ht9
            clear ht9
            go_wp2_with fail
            refine hK.out _ _ ⟨HT9.out.two (List.mem_singleton.2 rfl), HC.out _ _ _ HT9.out⟩ (fun hS => ?_)
            clear hK
            refine wpAnyH_take (i := 10) (v := ?va10) rfl (by kernel_rfl) (by kernel_rfl) (by kernel_rfl) (fun _ _ _ h => h) (.inl ⟨by rfl, ?ha10⟩) hS ?ra10
            case ha10 =>
              intro w' hs
              (try dsimp only at hs)
              go_split_ands
              go_simp
              try with_reducible rfl
            simp only [List.getElem_toArray, List.getElem_cons_succ, List.getElem_cons_zero, Act.put, List.setIfInBounds_toArray, List.set_cons_zero, List.set_cons_succ]
            refine wpAnyH_done (by kernel_rfl) ?_ _
            have e1 := IntWalk.i64_in ((k : Int) + 1) (by omega)
            clear hS
            go_wp2_with fail
            go_roundg (n - (k + 1))
            case measure => omega
            case rel => exact ⟨k + 1, _, rfl, by go_num, by omega, by omega, HS.out.2.1, HS.out.2.2, HT9.out.fewer (fun p hp => by cases hp)⟩
      · have hex : (¬ (k : Int) < n) ∨ ((k : Int) < n ∧ ¬ (k : Int) < 100) := by omega
        clear hlt
        rcases hex with hex | ⟨hex1, hex2⟩
        · go_wp2_with fail
          go_meet
          exact ⟨t, HTW.out, HT.out⟩
        · go_wp2_with fail
          go_meet
          exact ⟨t, HTW.out, HT.out⟩
  case rest =>
    obtain ⟨t, htw, ht⟩ := hcut
    have HT := Lib.hid ht
    have HTW := Lib.hid htw
    clear ht htw H1
    go_wp2_with fail
    refine (len_at H HT.out).mono ?_
    rintro e w2 ⟨m, rfl, hm, ht2⟩
    have hm12 := twelve_border HTW.out hm
    have HT2 := Lib.hid ht2
    have HM := Lib.hid hm
    clear ht2 hm
    have h12 : (m : Int) ≤ 12 := by omega
    have h0 : (0 : Int) ≤ m := by omega
    go_wp2_with fail
    go_loopg [9] 20 (fun r i wr => ∃ j : Nat, r = 20 - j ∧ i = .int .i64 ((j : Int) + 1) ∧ j ≤ m ∧ TblAt TA w b t [] wr)
    case atStart => exact ⟨0, rfl, rfl, Nat.zero_le _, HT2.out⟩
    case round =>
      obtain ⟨j, rfl, rfl, hj, ht3⟩ := hrel
      have HT3 := Lib.hid ht3
      clear ht3
      by_cases hlt : j < m
      · have hlt' : (j : Int) + 1 ≤ m := by omega
        have hin : (numV ((j : Int) + 1)).In := in_vl _ _ (by decide) (by omega) (by omega)
        have hk0 := HM.out.1 j hlt
        have e0 := IntWalk.i64_in ((j : Int) + 1 + 1) (by omega)
        obtain ⟨gv, hgv⟩ : ∃ g, g = getT t (numV ((j : Int) + 1)) := ⟨_, rfl⟩
        rw [← hgv] at hk0
        have HGET := Lib.hid (show ∀ w', TblAt TA w b t [] w' → _ from fun w' h => get_at H (numV ((j : Int) + 1)) gv hin hgv.symm h)
        clear hgv hin
        obtain ⟨gk, gn⟩ := gv
        have hk1 : ((gk : Int) == 0) = false := beq_eq_false_iff_ne.2 (by dsimp only at hk0; omega)
        have hfd : ∀ w : World, (Instr.field 24 (.agg #[.int .u8 (gk : Int), .int .i64 gn]) 0).run Try.prog w = .ok (.int .u8 (gk : Int)) w := fun _ => by kernel_rfl
        clear hk0
        go_wp2_with fail
        refine (num_fn ((j : Int) + 1) wr).mono ?_
        rintro e w4 ⟨rfl, hb4⟩
        have HT4 := Lib.hid (HT3.out.below H hb4)
        clear hb4
        go_wp2_with fail
        refine (show Calls _ _ #[_, .agg #[.int .u8 3, .int .i64 ((j : Int) + 1)]] _ (fun e w' => e = .returned (.agg #[.int .u8 (gk : Int), .int .i64 gn]) ∧ TblAt TA w b t [] w') from HGET.out _ HT4.out).mono ?_
        rintro e w5 ⟨rfl, ht5⟩
        have HT5 := Lib.hid ht5
        clear ht5
        go_wp2_with fail
        go_roundg (20 - (j + 1))
        case measure => omega
        case rel => exact ⟨j + 1, rfl, by go_num, by omega, HT5.out⟩
      · obtain rfl : j = m := by omega
        have hnl : ¬ (j : Int) + 1 ≤ j := by omega
        have hin : (numV ((j : Int) + 1)).In := in_vl _ _ (by decide) (by omega) (by omega)
        have hk0 := HM.out.2
        have e0 := IntWalk.i64_in ((j : Int) + 1) (by omega)
        obtain ⟨gv, hgv⟩ : ∃ g, g = getT t (numV ((j : Int) + 1)) := ⟨_, rfl⟩
        rw [← hgv] at hk0
        have HGET := Lib.hid (show ∀ w', TblAt TA w b t [] w' → _ from fun w' h => get_at H (numV ((j : Int) + 1)) gv hin hgv.symm h)
        clear hgv hin
        obtain ⟨gk, gn⟩ := gv
        have hk1 : gk = 0 := hk0
        subst hk1
        have hfd : ∀ w : World, (Instr.field 24 (.agg #[.int .u8 (0 : Int), .int .i64 gn]) 0).run Try.prog w = .ok (.int .u8 (0 : Int)) w := fun _ => by kernel_rfl
        clear hk0
        go_wp2_with fail
        refine (num_fn ((j : Int) + 1) wr).mono ?_
        rintro e w4 ⟨rfl, hb4⟩
        have HT4 := Lib.hid (HT3.out.below H hb4)
        clear hb4
        go_wp2_with fail
        refine (show Calls _ _ #[_, .agg #[.int .u8 3, .int .i64 ((j : Int) + 1)]] _ (fun e w' => e = .returned (.agg #[.int .u8 0, .int .i64 gn]) ∧ TblAt TA w b t [] w') from HGET.out _ HT4.out).mono ?_
        rintro e w5 ⟨rfl, ht5⟩
        have HT5 := Lib.hid ht5
        clear ht5
        go_wp2_with fail
        refine (HA.out _).mono ?_
        rintro e w6 ⟨rfl, hb6⟩
        have H6 := Lib.hid (HT5.out.low.trans (hb6.mono HT5.out.low.size))
        clear hb6
        go_wp2_with fail
        go_ret
        exact ⟨rfl, H6.out⟩
end Go.Proofs.Ytlpbciclkagnbaa.Tb
