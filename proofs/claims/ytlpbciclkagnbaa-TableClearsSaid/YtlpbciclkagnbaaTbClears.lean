/-
  Layer 13: the law TableClears, over what the calls say (written by takes.py out of tb-clears.src).
-/
import Derived.Test.YtlpbciclkagnbaaTbDead
namespace Go.Proofs.Ytlpbciclkagnbaa.Tb
open Go Go.RowKit Go.Proofs.Ytlpbciclkagnbaa.Pl

/-- All keys are numbers below 40. -/
def Forty (t : Tbl) : Prop := ∀ x ∈ t.map (·.1), ∃ i : Int, 0 ≤ i ∧ i ≤ 39 ∧ x = numV i
structure Grown1 (t : Tbl) (k : Nat) : Prop where
  len : t.length ≤ k
  live : AllAlive t
  nod : (t.map (·.1)).Nodup
  forty : Forty t
theorem grown_set {t : Tbl} {k : Nat} (h : Grown1 t k) (hk : k < 60) (q i : Int) (h0 : 0 ≤ q) (h1 : q ≤ 39) :
    (setT t (numV q) (numV i)).2 = 0 ∧ Grown1 (setT t (numV q) (numV i)).1 (k + 1) ∧ ((setT t (numV q) (numV i)).1.length = if hasT t (numV q) then t.length else t.length + 1) := by
  cases hh : hasT t (numV q) with
  | true =>
    rw [set_old (v := numV i) rfl rfl hh, if_pos rfl]
    exact ⟨rfl, ⟨by rw [put_len]; have := h.len; omega, alive_put h.live (show (3 : Nat) ≠ 0 by decide), by rw [put_keys]; exact h.nod, fun x hx => by rw [put_keys] at hx; exact h.forty x hx⟩, put_len ..⟩
  | false =>
    rw [set_new (v := numV i) h.live rfl rfl (show (3 : Nat) ≠ 0 by decide) (by have := h.len; omega) hh, if_neg (by decide)]
    refine ⟨rfl, ⟨by rw [List.length_append]; simp; exact h.len, fun p hp => ?_, ?_, fun x hx => ?_⟩, by rw [List.length_append]; rfl⟩
    · rcases List.mem_append.1 hp with hp | hp
      · exact h.live p hp
      · rw [List.mem_singleton.1 hp]; rfl
    · rw [List.map_append]
      refine List.nodup_append.2 ⟨h.nod, by simp, fun x hx y hy e => ?_⟩
      have hy : y = numV q := List.mem_singleton.1 hy
      have := (has_iff t (numV q)).2 (by rw [← hy, ← e]; exact hx)
      rw [hh] at this; cases this
    · rw [List.map_append] at hx
      rcases List.mem_append.1 hx with hx | hx
      · exact h.forty x hx
      · exact ⟨q, h0, h1, List.mem_singleton.1 hx⟩

set_option maxHeartbeats 8000000 in
set_option maxRecDepth 1000000 in
theorem clears_walk (TA : TableP) (H : TableSays TA) (keys : Value) (ks : List Int) (w : World) (hk : LstP (fun _ => True) w keys (ints ks)) (hi : ∀ z ∈ ks, In64 z) :
    Calls Try.prog 5 #[keys] w (fun e w' => e = .returned (.bool true) ∧ Below w.heap.size w w') := by
  obtain ⟨aw, cw, rfl, hcw, hlw⟩ := hk.slice
  rw [ints_len] at hcw hlw hk
  rw [ints_len]
  obtain ⟨n, hn⟩ : ∃ n, n = ks.length := ⟨_, rfl⟩
  rw [← hn] at hcw hlw hk ⊢
  have HN := Lib.hid hn
  have HK := Lib.hid hk
  have HI := Lib.hid hi
  have HA := Lib.hid (awake_fn TA H)
  unfold Len at hlw
  have kn := H.new w
  unfold NewSays at kn
  clear hn hk hi
  go_enter Try.func5, Try.ntmps5
  go_wp2_with fail
  refine kn.mono ?_
  rintro e w1 ⟨b, F, rfl, hp, hF, hb1⟩
  have H1 := Lib.hid (show TblAt TA w b [] [] w1 from ⟨F, hp, hF, hb1, fun p hp => by cases hp⟩)
  clear hp hF hb1 kn
  go_upto_block 0 with fail
  go_cut [4, 5, 6] from 15 to 43 (fun nn _ _ wx => ∃ t, nn = .int .i64 (t.length : Int) ∧ Grown1 t 60 ∧ TblAt TA w b t [] wx)
  case first =>
    go_wp2_with fail
    go_loopg [4, 5] n (fun r nn i wr => ∃ (k : Nat) (t : Tbl), r = n - k ∧ nn = .int .i64 (t.length : Int) ∧ i = .int .i64 k ∧ k ≤ n ∧ k ≤ 60 ∧ Grown1 t k ∧ TblAt TA w b t [] wr)
    case atStart => exact ⟨0, [], rfl, rfl, rfl, Nat.zero_le _, Nat.zero_le _, ⟨Nat.zero_le _, (fun p h => by cases h), List.nodup_nil, (fun x h => by cases h)⟩, H1.out⟩
    case round =>
      obtain ⟨k, t, rfl, rfl, rfl, hk, hk2, hg, ht⟩ := hrel
      have HT := Lib.hid ht
      have HG := Lib.hid hg
      clear ht hg
      by_cases hlt : k < n ∧ k < 60
      · obtain ⟨hlt, hlt2⟩ := hlt
        have hlt' : (k : Int) < n := by omega
        have hlt2' : (k : Int) < 60 := by omega
        have hkz : k < ks.length := by have := HN.out; omega
        obtain ⟨gw, off, cap, -, hg, hvv, -, c0⟩ := HK.out.item (i := k) (by rw [ints_len]; exact hkz)
        rw [ints_get _ _ hkz] at c0
        injection hvv with hv1 hv2 hv3
        subst hv1
        rw [← HT.out.low.cell (p := ⟨gw, off + k, none⟩) hg] at c0
        have hzi := HI.out _ (List.getElem_mem hkz)
        clear hg hv2 hv3
        generalize ks[k] = z at *
        have hm0 := Int.emod_nonneg z (show (40 : Int) ≠ 0 by decide)
        have hm1 := Int.emod_lt_of_pos z (show (0 : Int) < 40 by decide)
        have KP := Lib.hid (fun w' => pick_kit z 40 w' hzi (by constructor <;> decide) (by decide))
        generalize z % 40 = q at *
        have hks : (numV q).In := in_vl _ _ (by decide) (by omega) (by omega)
        have hvs : (numV (k : Int)).In := in_vl _ _ (by decide) (by omega) (by omega)
        have hlen : t.length ≤ 60 := Nat.le_trans HG.out.len hk2
        have HGR := Lib.hid (grown_set HG.out hlt2 q (k : Int) hm0 (by omega))
        obtain ⟨gv, hgv⟩ : ∃ g, g = getT t (numV q) := ⟨_, rfl⟩
        obtain ⟨β, hβ⟩ : ∃ β, β = hasT t (numV q) := ⟨_, rfl⟩
        have hgh := get_has (k := numV q) HG.out.live
        rw [← hgv, ← hβ] at hgh
        have HGET := Lib.hid (show ∀ K w', TblAt TA w b t K w' → _ from fun K w' h => get_at H (numV q) gv hks hgv.symm h)
        have HSET := Lib.hid (show ∀ K w', TblAt TA w b t K w' → _ from fun K w' h => set_at H (numV q) (numV (k : Int)) (setT t (numV q) (numV (k : Int))).1 0 hks hvs (by omega) (show setT t (numV q) (numV (k : Int)) = ((setT t (numV q) (numV (k : Int))).1, 0) from by rw [← HGR.out.1]) h)
        rw [← hβ] at HGR
        clear hgv hβ hks hvs hzi
        obtain ⟨gk, gn⟩ := gv
        have hfd : ∀ w : World, (Instr.field 24 (.agg #[.int .u8 (gk : Int), .int .i64 gn]) 0).run Try.prog w = .ok (.int .u8 (gk : Int)) w := fun _ => by kernel_rfl
        have hl1 : wrap64 ((t.length : Int) + 1) = (t.length : Int) + 1 := IntWalk.wrap64_in _ (by omega)
        go_wp2_with fail
        refine (KP.out _).mono ?_
        rintro e w2 ⟨rfl, rfl⟩
        go_wp2_with fail
        refine (num_fn q _).mono ?_
        rintro e w3 ⟨rfl, hb3⟩
        have ht3 := HT.out.below H hb3
        have ha := ht3.alloc H (.cells #[.int .u8 3, .int .i64 q] 24 (0, 0))
        have HT3 := Lib.hid ha
        clear ha ht3 hb3 c0
        go_upto_region 9 with fail
        generalize hW : w3.alloc (.cells #[.int .u8 3, .int .i64 q] 24) = W3 at *
        generalize w3.heap.size = kb at *
        clear hW
        have c0 := (HT3.out.two (List.mem_singleton.2 rfl)).1
        have c1 := (HT3.out.two (List.mem_singleton.2 rfl)).2
        go_wp2_with fail
        refine (show Calls _ _ #[_, .agg #[.int .u8 3, .int .i64 q]] _ (fun e w' => e = .returned (.agg #[.int .u8 (gk : Int), .int .i64 gn]) ∧ TblAt TA w b t [(kb, .cells #[.int .u8 3, .int .i64 q] 24 (0, 0))] w') from HGET.out _ _ HT3.out).mono ?_
        rintro e w4 ⟨rfl, ht4⟩
        have HT4 := Lib.hid ht4
        clear ht4 c0 c1
        obtain ⟨L2, hL2⟩ : ∃ L : Int, L = (if β then (t.length : Int) else (t.length : Int) + 1) := ⟨_, rfl⟩
        have HL0 := Lib.hid hL2
        clear hL2
        go_upto_if 35 with fail
        go_cut [4] from 15 to 43 (fun nn wx => nn = .int .i64 L2 ∧ wx = w4)
        case first =>
          cases β with
          | true =>
            have hk0 : ¬ gk = 0 := fun e => by have := hgh.1 e; cases this
            have hk1 : ((gk : Int) == 0) = false := beq_eq_false_iff_ne.2 (by omega)
            clear hgh
            go_wp2_with fail
            go_meet
            exact ⟨by rw [HL0.out]; rfl, rfl⟩
          | false =>
            obtain rfl : gk = 0 := hgh.2 rfl
            clear hgh
            go_wp2_with fail
            go_meet
            exact ⟨by rw [HL0.out]; go_num, rfl⟩
        case rest =>
          obtain ⟨rfl, rfl⟩ := hcut
          go_upto_region 11 with fail
          have HTd := Lib.hid (HT4.out.below H ((Below.refl wc.heap.size wc).drew))
          refine wp_region_held_drew (S := fun w' => w'.cell? ⟨kb, 0, none⟩ = some (.int .u8 3) ∧ w'.cell? ⟨kb, 1, none⟩ = some (.int .i64 q)) mixed (HTd.out.two (List.mem_singleton.2 rfl)) (fun hS => ?_)
          refine wpAnyH_take (i := 0) (v := ?va0) rfl (by kernel_rfl) (by kernel_rfl) (by kernel_rfl) (fun _ _ _ h => h) (.inl ⟨by rfl, ?ha0⟩) hS ?ra0
          case ha0 =>
            intro w' hs
            (try dsimp only at hs)
            go_split_ands
            go_simp
            try with_reducible rfl
          simp only [List.getElem_toArray, List.getElem_cons_zero, Act.put, List.setIfInBounds_toArray, List.set_cons_zero, List.set_cons_succ]
          refine wpAnyH_take (i := 1) (v := ?va1) rfl (by kernel_rfl) (by kernel_rfl) (by kernel_rfl) (fun _ _ _ h => h) (.inl ⟨by rfl, ?ha1⟩) hS ?ra1
          case ha1 =>
            intro w' hs
            (try dsimp only at hs)
            go_split_ands
            go_simp
            try with_reducible rfl
          simp only [List.getElem_toArray, List.getElem_cons_succ, List.getElem_cons_zero, Act.put, List.setIfInBounds_toArray, List.set_cons_zero, List.set_cons_succ]
          refine wpAnyH_take (i := 2) (v := ?va2) rfl (by kernel_rfl) (by kernel_rfl) (by kernel_rfl) (fun _ _ _ h => h) (.inl ⟨by rfl, ?ha2⟩) hS ?ra2
          case ha2 =>
            intro w' hs
            (try dsimp only at hs)
            go_split_ands
            go_simp
            try with_reducible rfl
          simp only [List.getElem_toArray, List.getElem_cons_succ, List.getElem_cons_zero, Act.put, List.setIfInBounds_toArray, List.set_cons_zero, List.set_cons_succ]
          refine wpAnyH_ready (rs := [3]) (by kernel_rfl) (by simp) (AllReadyH.cons rfl (fun K hK => ?_) AllReadyH.nil)
          go_simp
          go_at_call 16
          refine (num_fn (k : Int) _).mono ?_
          rintro e w5 ⟨rfl, hb5⟩
          have HT5 := Lib.hid (HTd.out.below H hb5)
          clear hb5
          go_wp2_with fail
          refine hK.out _ _ (HT5.out.two (List.mem_singleton.2 rfl)) (fun hS => ?_)
          clear hK
          refine wpAnyH_ready (rs := [4]) (by kernel_rfl) (by simp) (AllReadyH.cons rfl (fun K hK => ?_) AllReadyH.nil)
          go_simp
          go_at_call 8
          refine (show Calls _ _ #[_, .agg #[.int .u8 3, .int .i64 q], .agg #[.int .u8 3, .int .i64 (k : Int)]] _ _ from HSET.out _ _ HT5.out).mono ?_
          rintro e w6 ⟨rfl, ht6⟩
          have HT6 := Lib.hid ht6
          clear ht6
          go_wp2_with fail
          refine hK.out _ _ (HT6.out.two (List.mem_singleton.2 rfl)) (fun hS => ?_)
          clear hK
          refine wpAnyH_take (i := 5) (v := ?va5) rfl (by kernel_rfl) (by kernel_rfl) (by kernel_rfl) (fun _ _ _ h => h) (.inl ⟨by rfl, ?ha5⟩) hS ?ra5
          case ha5 =>
            intro w' hs
            (try dsimp only at hs)
            go_split_ands
            go_simp
            try with_reducible rfl
          simp only [List.getElem_toArray, List.getElem_cons_succ, List.getElem_cons_zero, Act.put, List.setIfInBounds_toArray, List.set_cons_zero, List.set_cons_succ]
          refine wpAnyH_done (by kernel_rfl) ?_ _
          have e1 := IntWalk.i64_in ((k : Int) + 1) (by omega)
          have hlen2 := HGR.out.2.2
          have HL2 := Lib.hid (show L2 = ((setT t (numV q) (numV (k : Int))).1.length : Int) from by rw [HL0.out, hlen2]; cases β <;> simp)
          clear hS hlen2
          go_wp2_with fail
          go_roundg (n - (k + 1))
          case measure => omega
          case rel => exact ⟨k + 1, _, rfl, by rw [HL2.out], by go_num, by omega, by omega, HGR.out.2.1, HT6.out.fewer (fun p hp => by cases hp)⟩
      · have hex : (¬ (k : Int) < n) ∨ ((k : Int) < n ∧ ¬ (k : Int) < 60) := by omega
        have HG60 := Lib.hid (show Grown1 t 60 from ⟨Nat.le_trans HG.out.len hk2, HG.out.live, HG.out.nod, HG.out.forty⟩)
        clear hlt
        rcases hex with hex | ⟨hex1, hex2⟩
        · go_wp2_with fail
          go_meet
          exact ⟨t, rfl, HG60.out, HT.out⟩
        · go_wp2_with fail
          go_meet
          exact ⟨t, rfl, HG60.out, HT.out⟩
  case rest =>
    obtain ⟨t, rfl, hg, ht⟩ := hcut
    obtain ⟨hl60, hlive, hnod, hforty⟩ := hg
    have HT := Lib.hid ht
    have hkind : ∀ x ∈ t.map (·.1), x.kind ≠ 0 := fun x hx => by
      obtain ⟨j, _, _, e⟩ := hforty x hx
      rw [e]; exact (show (3 : Nat) ≠ 0 by decide)
    have HNX := Lib.hid (show ∀ i, i ≤ t.length → _ from fun i h => next_dead (i := i) hlive hnod hkind h)
    have HPD := Lib.hid (show ∀ i (h : i < t.length), _ from fun i h => put_dead i t h hnod)
    have HFO := Lib.hid hforty
    have HLV := Lib.hid hlive
    obtain ⟨N, hN⟩ : ∃ N, N = t.length := ⟨_, rfl⟩
    rw [← hN] at hl60 ⊢
    have HNN := Lib.hid hN
    have h60 : (N : Int) ≤ 60 := by omega
    clear ht hlive hnod hforty hkind hN H1
    go_upto_region 14 with fail
    have ha := HT.out.alloc H (.cells #[.int .u8 0, .int .i64 0] 24 (0, 0))
    have hab := HT.out.low.size
    generalize hW : wc.alloc (.cells #[.int .u8 0, .int .i64 0] 24) = W2 at *
    generalize wc.heap.size = ab at *
    have HT2 := Lib.hid ha
    have HAB := Lib.hid hab
    clear ha hab hW
    go_wp2_with fail
    go_loopg [8] (N + 1) (fun r x wr => ∃ (i : Nat) (a : Vl), r = N + 1 - i ∧ x = .int .i64 i ∧ i ≤ N + 1 ∧ (i ≤ N → a = lastT i t) ∧ TblAt TA w b (deadT (min i N) t) [(ab, .cells a.cells 24 (0, 0))] wr)
    case atStart => exact ⟨0, nilV, rfl, rfl, Nat.zero_le _, fun _ => rfl, by rw [Nat.zero_min, dead_zero]; exact HT2.out⟩
    case round =>
      obtain ⟨i, a, rfl, rfl, hi, hal, ht⟩ := hrel
      have e0 := IntWalk.i64_in ((i : Int) + 1) (by omega)
      by_cases hle : i ≤ N
      · have hle' : (i : Int) ≤ N := by omega
        rw [Nat.min_eq_left hle] at ht
        have hnx := HNX.out i (by rw [← HNN.out]; exact hle)
        rw [← hal hle] at hnx
        have hain : a.In := by
          rw [hal hle]
          unfold lastT
          split
          · rename_i h
            obtain ⟨j, j0, j1, je⟩ := HFO.out _ (List.mem_map.2 ⟨t[i - 1], List.getElem_mem h.2, rfl⟩)
            rw [je]
            exact in_vl _ _ (by decide) (by omega) (by omega)
          · exact in_vl _ _ (by decide) (by decide) (by decide)
        have HT3 := Lib.hid ht
        clear ht
        by_cases hlt : i < N
        · have hlt' : (i : Int) < N := by omega
          have hne : ((i : Int) == (N : Int)) = false := beq_eq_false_iff_ne.2 (by omega)
          have hit : i < t.length := by rw [← HNN.out]; exact hlt
          obtain ⟨j, j0, j1, je⟩ := HFO.out _ (List.mem_map.2 ⟨t[i], List.getElem_mem hit, rfl⟩)
          have hset : setT (deadT i t) t[i].1 nilV = (deadT (i + 1) t, 0) := by
            rw [set_old (by rw [je]; rfl) rfl ((has_iff _ _).2 (by rw [dead_keys]; exact List.mem_map.2 ⟨t[i], List.getElem_mem hit, rfl⟩)), HPD.out i hit]
          have hlast : lastT (i + 1) t = t[i].1 := by
            unfold lastT
            rw [dif_pos ⟨Nat.succ_pos _, by simpa using hit⟩]; rfl
          have hhere : hereT i t = (t[i].1, t[i].2) := by unfold hereT; rw [List.getElem?_eq_getElem hit]
          rw [hhere] at hnx
          have hdl : (deadT i t).length < 65536 := by rw [dead_len, ← HNN.out]; omega
          rw [je] at hset hlast hnx
          generalize t[i].2 = hv2 at *
          obtain ⟨hk2, hn2⟩ := hv2
          have HLAST := Lib.hid hlast
          have HSET := Lib.hid (show ∀ K w', TblAt TA w b (deadT i t) K w' → _ from fun K w' h => set_at H (numV j) nilV _ 0 (in_vl _ _ (by decide) (by omega) (by omega)) (in_vl _ _ (by decide) (by decide) (by decide)) hdl hset h)
          have KNX := Lib.hid (show ∀ K w', TblAt TA w b (deadT i t) K w' → _ from fun K w' h => next_at H a (numV j) ⟨hk2, hn2⟩ 0 hain hnx h)
          clear hset hlast hhere hnx hain hdl hit je hal
          obtain ⟨ak, an⟩ := a
          unfold Vl.cells at HT3
          dsimp only at HT3
          generalize hjj : j = hn at *
          clear hjj
          have c0 := (HT3.out.two (List.mem_singleton.2 rfl)).1
          have c1 := (HT3.out.two (List.mem_singleton.2 rfl)).2
          go_wp2_with fail
          refine (show Calls _ _ #[_, .agg #[.int .u8 (ak : Int), .int .i64 an]] _ (fun e w' => e = .returned (.tuple #[.agg #[.int .u8 (3), .int .i64 hn], .agg #[.int .u8 (hk2 : Int), .int .i64 hn2], .int .i64 0]) ∧ TblAt TA w b (deadT i t) [(ab, .cells #[.int .u8 (ak : Int), .int .i64 an] 24 (0, 0))] w') from KNX.out _ _ HT3.out).mono ?_
          rintro e w5 ⟨rfl, ht5⟩
          have ha5 := (ht5.alloc H (.cells #[.int .u8 (3), .int .i64 hn] 24 (0, 0))).alloc H (.cells #[.int .u8 (hk2 : Int), .int .i64 hn2] 24 (0, 0))
          rw [show (w5.alloc (.cells #[.int .u8 (3), .int .i64 hn] 24 (0, 0))).heap.size = w5.heap.size + 1 from by simp] at ha5
          have HT5 := Lib.hid ha5
          clear ha5 ht5 c0 c1
          go_upto_region 18 with fail
          generalize hW : (w5.alloc (.cells #[.int .u8 (3), .int .i64 hn] 24 (0, 0))).alloc (.cells #[.int .u8 (hk2 : Int), .int .i64 hn2] 24 (0, 0)) = W5 at *
          generalize w5.heap.size = kb at *
          clear hW
          have c0 := (HT5.out.two (show (kb, Obj.cells #[.int .u8 (3), .int .i64 hn] 24 (0, 0)) ∈ _ by simp)).1
          have c1 := (HT5.out.two (show (kb, Obj.cells #[.int .u8 (3), .int .i64 hn] 24 (0, 0)) ∈ _ by simp)).2
          go_wp2_with fail
          refine (show Calls _ _ #[_, .agg #[.int .u8 3, .int .i64 hn], .agg #[.int .u8 0, .int .i64 0]] _ _ from HSET.out _ _ HT5.out).mono ?_
          rintro e w6 ⟨rfl, ht6⟩
          have HT6 := Lib.hid ht6
          clear ht6 c0 c1
          have c0 := (HT6.out.two (show (kb, Obj.cells #[.int .u8 3, .int .i64 hn] 24 (0, 0)) ∈ _ by simp)).1
          have c1 := (HT6.out.two (show (kb, Obj.cells #[.int .u8 3, .int .i64 hn] 24 (0, 0)) ∈ _ by simp)).2
          have d0 := (HT6.out.two (show (ab, Obj.cells #[.int .u8 (ak : Int), .int .i64 an] 24 (0, 0)) ∈ _ by simp)).1
          have d1 := (HT6.out.two (show (ab, Obj.cells #[.int .u8 (ak : Int), .int .i64 an] 24 (0, 0)) ∈ _ by simp)).2
          have f0 := free_of (HT6.out.own (show (ab, Obj.cells #[.int .u8 (ak : Int), .int .i64 an] 24 (0, 0)) ∈ _ by simp)) 0
          have f1 := free_of (HT6.out.own (show (ab, Obj.cells #[.int .u8 (ak : Int), .int .i64 an] 24 (0, 0)) ∈ _ by simp)) 1
          have HT7 := Lib.hid ((((HT6.out.fewer (K' := [(ab, .cells #[.int .u8 (ak : Int), .int .i64 an] 24 (0, 0))]) (fun p hp => by rw [List.mem_singleton.1 hp]; simp)).put H HAB.out 0 (.int .u8 (3))).put H HAB.out 1 (.int .i64 hn)))
          go_wp2_with fail
          go_roundg (N + 1 - (i + 1))
          case measure => omega
          case rel => exact ⟨i + 1, numV hn, rfl, by go_num, by omega, fun _ => HLAST.out.symm, by rw [Nat.min_eq_left (by omega)]; exact HT7.out⟩
        · obtain rfl : i = N := by omega
          have hhere : hereT i t = (nilV, nilV) := by unfold hereT; rw [List.getElem?_eq_none (by rw [← HNN.out]; exact Nat.le_refl _)]
          rw [hhere] at hnx
          obtain ⟨hn, hhn⟩ : ∃ hn : Int, hn = 0 := ⟨_, rfl⟩
          obtain ⟨hk2, hhk⟩ : ∃ hk2 : Nat, hk2 = 0 := ⟨_, rfl⟩
          obtain ⟨hn2, hhn2⟩ : ∃ hn2 : Int, hn2 = 0 := ⟨_, rfl⟩
          have KNX := Lib.hid (show ∀ K w', TblAt TA w b (deadT i t) K w' → _ from fun K w' h => next_at H a ⟨0, hn⟩ ⟨hk2, hn2⟩ 0 hain (by rw [hnx, hhn, hhk, hhn2]; rfl) h)
          have HHN := Lib.hid hhn
          clear hhere hnx hain hal hhn hhk hhn2
          obtain ⟨ak, an⟩ := a
          unfold Vl.cells at HT3
          dsimp only at HT3
          have c0 := (HT3.out.two (List.mem_singleton.2 rfl)).1
          have c1 := (HT3.out.two (List.mem_singleton.2 rfl)).2
          go_wp2_with fail
          refine (show Calls _ _ #[_, .agg #[.int .u8 (ak : Int), .int .i64 an]] _ (fun e w' => e = .returned (.tuple #[.agg #[.int .u8 (0), .int .i64 hn], .agg #[.int .u8 (hk2 : Int), .int .i64 hn2], .int .i64 0]) ∧ TblAt TA w b (deadT i t) [(ab, .cells #[.int .u8 (ak : Int), .int .i64 an] 24 (0, 0))] w') from KNX.out _ _ HT3.out).mono ?_
          rintro e w5 ⟨rfl, ht5⟩
          have ha5 := (ht5.alloc H (.cells #[.int .u8 (0), .int .i64 hn] 24 (0, 0))).alloc H (.cells #[.int .u8 (hk2 : Int), .int .i64 hn2] 24 (0, 0))
          rw [show (w5.alloc (.cells #[.int .u8 (0), .int .i64 hn] 24 (0, 0))).heap.size = w5.heap.size + 1 from by simp] at ha5
          have HT5 := Lib.hid ha5
          clear ha5 ht5 c0 c1
          go_upto_region 18 with fail
          generalize hW : (w5.alloc (.cells #[.int .u8 (0), .int .i64 hn] 24 (0, 0))).alloc (.cells #[.int .u8 (hk2 : Int), .int .i64 hn2] 24 (0, 0)) = W5 at *
          generalize w5.heap.size = kb at *
          clear hW
          have c0 := (HT5.out.two (show (kb, Obj.cells #[.int .u8 (0), .int .i64 hn] 24 (0, 0)) ∈ _ by simp)).1
          have c1 := (HT5.out.two (show (kb, Obj.cells #[.int .u8 (0), .int .i64 hn] 24 (0, 0)) ∈ _ by simp)).2
          have d0 := (HT5.out.two (show (ab, Obj.cells #[.int .u8 (ak : Int), .int .i64 an] 24 (0, 0)) ∈ _ by simp)).1
          have d1 := (HT5.out.two (show (ab, Obj.cells #[.int .u8 (ak : Int), .int .i64 an] 24 (0, 0)) ∈ _ by simp)).2
          have f0 := free_of (HT5.out.own (show (ab, Obj.cells #[.int .u8 (ak : Int), .int .i64 an] 24 (0, 0)) ∈ _ by simp)) 0
          have f1 := free_of (HT5.out.own (show (ab, Obj.cells #[.int .u8 (ak : Int), .int .i64 an] 24 (0, 0)) ∈ _ by simp)) 1
          have HT7 := Lib.hid ((((HT5.out.fewer (K' := [(ab, .cells #[.int .u8 (ak : Int), .int .i64 an] 24 (0, 0))]) (fun p hp => by rw [List.mem_singleton.1 hp]; simp)).put H HAB.out 0 (.int .u8 (0))).put H HAB.out 1 (.int .i64 hn)))
          go_wp2_with fail
          go_roundg (i + 1 - (i + 1))
          case measure => omega
          case rel => exact ⟨i + 1, ⟨0, hn⟩, rfl, by go_num, by omega, fun h => absurd h (by omega), by rw [Nat.min_eq_right (Nat.le_succ _)]; exact HT7.out⟩
      · obtain rfl : i = N + 1 := by omega
        rw [Nat.min_eq_right (Nat.le_succ _)] at ht
        have hgt : ¬ ((N + 1 : Nat) : Int) ≤ (N : Int) := by omega
        have HT3 := Lib.hid ht
        have HC0 := Lib.hid (show (countT (deadT N t) : Int) = 0 by rw [HNN.out, count_dead]; rfl)
        have HB0 := Lib.hid (show BorderT (deadT N t) 0 from ⟨fun i h => absurd h (Nat.not_lt_zero _), by rw [HNN.out]; exact get_dead t _⟩)
        clear ht hle hal
        generalize ((N + 1 : Nat) : Int) = zz at *
        go_wp2_with fail
        refine (count_at H 0 HC0.out HT3.out).mono ?_
        rintro e w5 ⟨rfl, ht5⟩
        have HT5 := Lib.hid ht5
        clear ht5
        go_wp2_with fail
        refine (len_at H HT5.out).mono ?_
        rintro e w6 ⟨m, rfl, hm, ht6⟩
        obtain rfl : m = 0 := border_one hm HB0.out
        have HT6 := Lib.hid ht6
        clear ht6 hm
        go_wp2_with fail
        refine (HA.out _).mono ?_
        rintro e w7 ⟨rfl, hb7⟩
        have H7 := Lib.hid (HT6.out.low.trans (hb7.mono HT6.out.low.size))
        clear hb7
        go_wp2_with fail
        go_ret
        exact ⟨rfl, H7.out⟩
end Go.Proofs.Ytlpbciclkagnbaa.Tb
