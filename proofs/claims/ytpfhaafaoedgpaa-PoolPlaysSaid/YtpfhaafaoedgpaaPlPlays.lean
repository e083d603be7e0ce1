/-
  Layer 12: the law PoolPlays, over what the calls say (written by takes.py out of pl-plays.src).
-/
import Derived.Test.YtpfhaafaoedgpaaPlPlayAt
namespace Go.Proofs.Ytpfhaafaoedgpaa.Pl
open Go Go.RowKit

/-- A step of the script. -/
structure Op3 where
  kind : Int
  id : Int
  size : Int
instance : Inhabited Op3 := ⟨⟨0, 0, 0⟩⟩
def Op3.C (cs : Array Value) (o : Op3) : Prop := cs = #[.int .i64 o.kind, .int .i64 o.id, .int .i64 o.size] ∧ In64 o.kind ∧ In64 o.id ∧ In64 o.size

set_option maxHeartbeats 8000000 in
set_option maxRecDepth 1000000 in
theorem plays_walk (PA : PoolP) (H : PoolSays PA) (bound : Int) (hb : In64 bound) (script : Value) (os : List Op3) (w : World) (hw : RowsP 3 Op3.C (fun _ => True) w script os) :
    Calls Try.prog 4 #[.int .i64 bound, script] w (fun e w' => e = .returned (.bool true) ∧ Below w.heap.size w w') := by
  obtain ⟨aw, cw, rfl, hcw, hlw⟩ := hw.slice
  obtain ⟨n, hn⟩ : ∃ n, n = os.length := ⟨_, rfl⟩
  rw [← hn] at hcw hlw hw ⊢
  have HN := Lib.hid hn
  have HWK := Lib.hid hw
  have HA := Lib.hid (awake_fn PA H)
  unfold Len at hlw
  clear hn hw
  by_cases hbad : bound < 0 ∨ 1073741824 < bound
  · have hbb : badBound bound = true := by
      unfold badBound
      rcases hbad with h | h
      · rw [decide_eq_true h]; rfl
      · rw [decide_eq_true h, Bool.or_true]
    have KN := Lib.hid (H.newBad bound w hb hbad)
    have HBB := Lib.hid hbb
    clear hbb hbad hb
    go_enter Try.func4, Try.ntmps4
    go_wp2_with fail
    refine KN.out.mono ?_
    rintro e w1 ⟨rfl, hb1⟩
    have HB1 := Lib.hid hb1
    clear hb1
    go_wp2_with fail
    have kn := new_fn bound w1
    unfold NewPost at kn
    rw [HBB.out] at kn
    refine kn.mono ?_
    rintro e w2 ⟨rfl, hb2⟩
    have HB2 := Lib.hid (HB1.out.trans (hb2.mono HB1.out.size))
    clear hb2 kn
    go_wp2_with fail
    refine (HA.out _).mono ?_
    rintro e w3 ⟨rfl, h3⟩
    have H3 := Lib.hid ((HB2.out.alloc HB2.out.size (.cells #[.int .i64 0, .slice none 0 0, .slice none 0 0] 38)).trans (h3.mono (by simp; have := HB2.out.size; omega)))
    clear h3
    go_wp2_with fail
    go_ret
    exact ⟨rfl, H3.out⟩
  · have h0 : 0 ≤ bound := by omega
    have h1 : bound ≤ 1073741824 := by omega
    have hbb : badBound bound = false := by
      unfold badBound
      rw [decide_eq_false (show ¬ bound < 0 by omega), decide_eq_false (show ¬ 1073741824 < bound by omega)]; rfl
    have HBB := Lib.hid hbb
    have KN := Lib.hid (H.new bound w h0 h1)
    clear hbb hbad hb
    go_enter Try.func4, Try.ntmps4
    go_wp2_with fail
    refine KN.out.mono ?_
    rintro e w1 ⟨b, F, rfl, hp, hF, hb1⟩
    have HP := Lib.hid hp
    have HF := Lib.hid hF
    have HB1 := Lib.hid hb1
    clear hp hF hb1
    go_wp2_with fail
    have kn := new_fn bound w1
    unfold NewPost at kn
    rw [HBB.out] at kn
    refine kn.mono ?_
    rintro e w2 ⟨rfl, hb2⟩
    have hP : PlayAt PA w b w2.heap.size bound [] [] F none 0 0 none 0 (w2.alloc (.cells #[.int .i64 bound, .slice none 0 0, .slice none 0 0] 38)) := by
      have hb3 := hb2.alloc hb2.size (.cells #[.int .i64 bound, .slice none 0 0, .slice none 0 0] 38)
      exact ⟨H.keep (G := []) HP.out (Turns.of_below hb3) (fun _ _ x => by cases x), new_block _ _, LstP.nil _ _, LstP.nil _ _, fun hm => absurd ((H.mem HP.out).2 _ hm) (Nat.not_lt.2 hb2.size), HF.out, Nat.le_trans HB1.out.size hb2.size, HB1.out.trans (hb3.mono HB1.out.size)⟩
    have HPL := Lib.hid hP
    clear hP hb2 kn
    go_wp2_with fail
    generalize w2.heap.size = bw at *
    go_loopg [5, 9] n (fun r p i wr => ∃ (k b : Nat) (l : Ob) (F : List Nat) (ai : Option Addr) (n1 ci : Nat) (au : Option Addr) (cu : Nat), r = n - k ∧ p = .pointer (some ⟨b, 0, none⟩) ∧ i = .int .i64 k ∧ k ≤ n ∧ k ≤ 60 ∧ PlayAt PA w b bw bound l l F ai n1 ci au cu wr)
    case atStart => exact ⟨0, b, [], F, none, 0, 0, none, 0, rfl, rfl, rfl, Nat.zero_le _, Nat.zero_le _, HPL.out⟩
    case round =>
      obtain ⟨k, b, l, F, ai, n1, ci, au, cu, rfl, rfl, rfl, hk, hk2, hP⟩ := hrel
      have HP1 := Lib.hid hP
      clear hP HP HF HPL
      by_cases hlt : k < n
      · by_cases hlt2 : k < 60
        · have hlt' : (k : Int) < n := by omega
          have hlt2' : (k : Int) < 60 := by omega
          have hkz : k < os.length := by have := HN.out; omega
          obtain ⟨gw, off, cap, cs, -, hg, hv, ⟨rfl, hi0, hi1, hi2⟩, hcell⟩ := HWK.out.item (i := k) hkz
          injection hv with hv1 hv2 hv3
          subst hv1
          obtain ⟨_, c0⟩ := hcell 0 (by decide)
          obtain ⟨_, c1⟩ := hcell 1 (by decide)
          obtain ⟨_, c2⟩ := hcell 2 (by decide)
          have hlow := HP1.out.low
          rw [← hlow.cell (p := ⟨gw, off + k * 3 + 0, none⟩) hg] at c0
          rw [← hlow.cell (p := ⟨gw, off + k * 3 + 1, none⟩) hg] at c1
          rw [← hlow.cell (p := ⟨gw, off + k * 3 + 2, none⟩) hg] at c2
          have c0 : wr.cell? ⟨gw, off + k * 3, none⟩ = some (.int .i64 os[k].kind) := c0
          have c1 : wr.cell? ⟨gw, off + k * 3 + 1, none⟩ = some (.int .i64 os[k].id) := c1
          have c2 : wr.cell? ⟨gw, off + k * 3 + 2, none⟩ = some (.int .i64 os[k].size) := c2
          generalize os[k] = o at *
          obtain ⟨kind, id, size⟩ := o
          dsimp only at c0 c1 c2 hi0 hi1 hi2
          have HI0 := Lib.hid hi0
          have HI1 := Lib.hid hi1
          have HI2 := Lib.hid hi2
          have hal := (Below.refl wr.heap.size wr).alloc (Nat.le_refl _) (.cells #[.int .i64 kind, .int .i64 id, .int .i64 size] 42)
          have hP2 := HP1.out.below H hal
          have hB2 : Beside wr.heap.size bw (.cells #[.int .i64 kind, .int .i64 id, .int .i64 size] 42 (0, 0)) F (wr.alloc (.cells #[.int .i64 kind, .int .i64 id, .int .i64 size] 42)) :=
            ⟨new_block _ _, fun hm => absurd ((H.mem HP1.out.pool).2 _ hm) (Nat.lt_irrefl _), fun e => absurd (lt_of_get HP1.out.box) (by rw [← e]; exact Nat.lt_irrefl _)⟩
          have HP2 := Lib.hid hP2
          have HB2 := Lib.hid hB2
          clear hal hP2 hB2 hlow hcell hg hv2 hv3 hi0 hi1 hi2 HB1
          go_upto_block 2 with fail
          generalize hW : wr.alloc (.cells #[.int .i64 kind, .int .i64 id, .int .i64 size] 42) = W2 at *
          generalize hbo : wr.heap.size = bo at *
          clear hW hbo c0 c1 c2
          go_cut [5, 11, 12, 13, 14, 15] from 63 to 121 (fun p x y _ _ _ wx => ∃ (b : Nat) (l : Ob) (F : List Nat) (ai : Option Addr) (n1 ci : Nat) (au : Option Addr) (cu : Nat) (e : Int), p = .pointer (some ⟨b, 0, none⟩) ∧ x = .int .i64 e ∧ y = .int .i64 e ∧ PlayAt PA w b bw bound l l F ai n1 ci au cu wx ∧ Beside bo bw (.cells #[.int .i64 kind, .int .i64 id, .int .i64 size] 42 (0, 0)) F wx)
          case first =>
            by_cases hk1 : kind = 1
            · subst hk1
              have d1 := cell_of HB2.out.1 1 _ rfl
              have d2 := cell_of HB2.out.1 2 _ rfl
              go_wp2_with fail
              refine (H.take size HP2.out.pool HI2.out).mono ?_
              rintro e w3 ⟨rfl, F', hp3, ht3, hf3⟩
              have hP3 := HP2.out.call ht3 hp3 hf3
              have hB3 := HB2.out.call ht3 hf3
              have HOK := Lib.hid (rp_ok (H.ok HP2.out.pool))
              have kt := take_fn (P := fun k => k ∉ F' ∧ k ≠ bw) _ (rpOf bound l) size w3 hP3.rp HOK.out HI2.out.2
              unfold TakePost at kt
              rw [link_take bound l size (used_pos l (H.ok HP2.out.pool).pos)] at kt
              have d1 := cell_of hB3.1 1 _ rfl
              have d2 := cell_of hB3.1 2 _ rfl
              have q0 := cell_of hP3.box 0 _ rfl
              have q1 := cell_of hP3.box 1 _ rfl
              have q2 := cell_of hP3.box 2 _ rfl
              have HP3 := Lib.hid hP3
              have HB3 := Lib.hid hB3
              have KT := Lib.hid kt
              clear hp3 ht3 hf3 hP3 hB3 kt
              go_wp2_with fail
              refine KT.out.mono ?_
              rintro e w4 ⟨v4, rfl, hr4, hb4⟩
              obtain ⟨ai4, n4, ci4, au4, cu4, rfl, hP5⟩ := HP3.out.next H hb4 hr4
              have hP4 := HP3.out.below H hb4
              have hB4 := (HB3.out.below hb4).store (.int .i64 bound) (.slice ai4 n4 ci4) (.slice au4 n4 cu4)
              have q0 := cell_of hP4.box 0 _ rfl
              have q1 := cell_of hP4.box 1 _ rfl
              have q2 := cell_of hP4.box 2 _ rfl
              have f0 := free_of hP4.box 0
              have f1 := free_of hP4.box 1
              have f2 := free_of hP4.box 2
              have HP5 := Lib.hid hP5
              have HB5 := Lib.hid hB4
              clear hr4 hb4 hP5 hP4 hB4
              generalize (takeL bound l size).2.1 = x1 at *
              go_wp2_with fail
              go_meet
              exact ⟨b, _, _, ai4, n4, ci4, au4, cu4, _, rfl, rfl, rfl, HP5.out, HB5.out⟩
            · by_cases hk2 : kind = 2
              · subst hk2
                have d1 := cell_of HB2.out.1 1 _ rfl
                have d2 := cell_of HB2.out.1 2 _ rfl
                go_wp2_with fail
                refine (H.give id HP2.out.pool HI1.out).mono ?_
                rintro e w3 ⟨rfl, F', hp3, ht3, hf3⟩
                have hP3 := HP2.out.call ht3 hp3 hf3
                have hB3 := HB2.out.call ht3 hf3
                have HOK := Lib.hid (rp_ok (H.ok HP2.out.pool))
                have kt := give_fn (P := fun k => k ∉ F' ∧ k ≠ bw) _ (rpOf bound l) id w3 hP3.rp HOK.out
                unfold GivePost at kt
                rw [link_give bound l id] at kt
                have d1 := cell_of hB3.1 1 _ rfl
                have d2 := cell_of hB3.1 2 _ rfl
                have q0 := cell_of hP3.box 0 _ rfl
                have q1 := cell_of hP3.box 1 _ rfl
                have q2 := cell_of hP3.box 2 _ rfl
                have HP3 := Lib.hid hP3
                have HB3 := Lib.hid hB3
                have KT := Lib.hid kt
                clear hp3 ht3 hf3 hP3 hB3 kt
                go_wp2_with fail
                refine KT.out.mono ?_
                rintro e w4 ⟨v4, rfl, hr4, hb4⟩
                obtain ⟨ai4, n4, ci4, au4, cu4, rfl, hP5⟩ := HP3.out.next H hb4 hr4
                have hP4 := HP3.out.below H hb4
                have hB4 := (HB3.out.below hb4).store (.int .i64 bound) (.slice ai4 n4 ci4) (.slice au4 n4 cu4)
                have q0 := cell_of hP4.box 0 _ rfl
                have q1 := cell_of hP4.box 1 _ rfl
                have q2 := cell_of hP4.box 2 _ rfl
                have f0 := free_of hP4.box 0
                have f1 := free_of hP4.box 1
                have f2 := free_of hP4.box 2
                have HP5 := Lib.hid hP5
                have HB5 := Lib.hid hB4
                clear hr4 hb4 hP5 hP4 hB4
                go_wp2_with fail
                go_meet
                exact ⟨b, _, _, ai4, n4, ci4, au4, cu4, _, rfl, rfl, rfl, HP5.out, HB5.out⟩
              · by_cases hk3 : kind = 3
                · subst hk3
                  have d1 := cell_of HB2.out.1 1 _ rfl
                  have d2 := cell_of HB2.out.1 2 _ rfl
                  go_wp2_with fail
                  refine (H.resize id size HP2.out.pool HI1.out HI2.out).mono ?_
                  rintro e w3 ⟨rfl, F', hp3, ht3, hf3⟩
                  have hP3 := HP2.out.call ht3 hp3 hf3
                  have hB3 := HB2.out.call ht3 hf3
                  have HOK := Lib.hid (rp_ok (H.ok HP2.out.pool))
                  have kt := resize_fn (P := fun k => k ∉ F' ∧ k ≠ bw) _ (rpOf bound l) id size w3 hP3.rp HOK.out HI2.out.2
                  unfold ResizePost at kt
                  rw [link_resize bound l id size (H.ok HP2.out.pool).pos] at kt
                  have d1 := cell_of hB3.1 1 _ rfl
                  have d2 := cell_of hB3.1 2 _ rfl
                  have q0 := cell_of hP3.box 0 _ rfl
                  have q1 := cell_of hP3.box 1 _ rfl
                  have q2 := cell_of hP3.box 2 _ rfl
                  have HP3 := Lib.hid hP3
                  have HB3 := Lib.hid hB3
                  have KT := Lib.hid kt
                  clear hp3 ht3 hf3 hP3 hB3 kt
                  go_wp2_with fail
                  refine KT.out.mono ?_
                  rintro e w4 ⟨v4, rfl, hr4, hb4⟩
                  obtain ⟨ai4, n4, ci4, au4, cu4, rfl, hP5⟩ := HP3.out.next H hb4 hr4
                  have hP4 := HP3.out.below H hb4
                  have hB4 := (HB3.out.below hb4).store (.int .i64 bound) (.slice ai4 n4 ci4) (.slice au4 n4 cu4)
                  have q0 := cell_of hP4.box 0 _ rfl
                  have q1 := cell_of hP4.box 1 _ rfl
                  have q2 := cell_of hP4.box 2 _ rfl
                  have f0 := free_of hP4.box 0
                  have f1 := free_of hP4.box 1
                  have f2 := free_of hP4.box 2
                  have HP5 := Lib.hid hP5
                  have HB5 := Lib.hid hB4
                  clear hr4 hb4 hP5 hP4 hB4
                  go_wp2_with fail
                  go_meet
                  exact ⟨b, _, _, ai4, n4, ci4, au4, cu4, _, rfl, rfl, rfl, HP5.out, HB5.out⟩
                · have kb1 : (kind == 1) = false := beq_eq_false_iff_ne.2 hk1
                  have kb2 : (kind == 2) = false := beq_eq_false_iff_ne.2 hk2
                  have kb3 : (kind == 3) = false := beq_eq_false_iff_ne.2 hk3
                  by_cases hk4 : kind = 4
                  · subst hk4
                    clear kb1 kb2 kb3 hk1 hk2 hk3
                    go_wp2_with fail
                    refine (H.copy HP2.out.pool).mono ?_
                    rintro e w3 ⟨b3, F3, rfl, hp3, hF3, hb3⟩
                    have HP3 := Lib.hid (HP2.out.below H hb3)
                    have HC3 := Lib.hid hp3
                    have HF3 := Lib.hid hF3
                    have HB3 := Lib.hid hb3
                    clear hp3 hF3 hb3
                    go_wp2_with fail
                    refine (H.take 0 HP3.out.pool (in_small _ (by decide) (by decide))).mono ?_
                    rintro e w4 ⟨rfl, F4, hp4, ht4, hf4⟩
                    have HC4 := Lib.hid (H.keep HC3.out ht4 (fun k hk hm => absurd (HF3.out k hk) (Nat.not_le.2 ((H.mem HP2.out.pool).2 k hm))))
                    have HP4 := Lib.hid hp4
                    have HT4 := Lib.hid ht4
                    have HF4 := Lib.hid hf4
                    clear hp4 ht4 hf4
                    go_wp2_with fail
                    refine (H.give 1 HP4.out (in_small _ (by decide) (by decide))).mono ?_
                    rintro e w5 ⟨rfl, F5, hp5, ht5, hf5⟩
                    have hc5 := H.keep HC4.out ht5 (fun k hk hm => (HF4.out k hm).elim (fun x => absurd (HF3.out k hk) (Nat.not_le.2 ((H.mem HP2.out.pool).2 k x))) (fun x => absurd ((H.mem HC3.out).2 k hk) (Nat.not_lt.2 x)))
                    have htt : Turns F W2 w5 := (Turns.trans (F := F) (Turns.of_below HB3.out) HT4.out (fun _ hx => .inl hx)).trans ht5 (fun x hx => (HF4.out x hx).imp (fun y => y) (fun y => Nat.le_trans HB3.out.size y))
                    have hfr : Fresh F F3 W2 := fun x hx => .inr (HF3.out x hx)
                    have HP6 := Lib.hid (HP2.out.call htt hc5 hfr)
                    have HB6 := Lib.hid (HB2.out.call htt hfr)
                    clear hp5 ht5 hf5 hc5 htt hfr
                    go_wp2_with fail
                    go_meet
                    exact ⟨b3, l, F3, ai, n1, ci, au, cu, 0, rfl, rfl, rfl, HP6.out, HB6.out⟩
                  · have kb4 : (kind == 4) = false := beq_eq_false_iff_ne.2 hk4
                    clear hk1 hk2 hk3 hk4
                    go_wp2_with fail
                    go_meet
                    exact ⟨b, l, F, ai, n1, ci, au, cu, 0, rfl, rfl, rfl, HP2.out, HB2.out⟩
          case rest =>
            obtain ⟨b5, l5, F5, ai5, n5, ci5, au5, cu5, e5, rfl, rfl, rfl, hP5, hB5⟩ := hcut
            have HP5 := Lib.hid hP5
            have HB5 := Lib.hid hB5
            have d1 := cell_of hB5.1 1 _ rfl
            have HOK := Lib.hid (rp_ok (H.ok hP5.pool))
            have hn5 : (cntL l5 : Int) = (n5 : Int) := by
              obtain ⟨_, _, e, _⟩ := hP5.li.slice
              injection e with _ e _
              rw [ints_len, ids_len] at e
              rw [e]
            have HN5 := Lib.hid hn5
            have hfew : (idsL 1 l5).length ≤ 1000000000 := by rw [ids_len]; have := (H.ok hP5.pool).few; omega
            have HFEW := Lib.hid hfew
            clear hP5 hB5 hn5 hfew HP2 HB2 HP1
            go_wp2_with fail
            refine (H.size id HP5.out.pool HI1.out).mono ?_
            rintro e w6 ⟨rfl, hb6⟩
            have HP6 := Lib.hid (HP5.out.below H hb6)
            have d1 := cell_of (HB5.out.below hb6).1 1 _ rfl
            have q0 := cell_of HP6.out.box 0 _ rfl
            have q1 := cell_of HP6.out.box 1 _ rfl
            have q2 := cell_of HP6.out.box 2 _ rfl
            have ks := size_fn _ (rpOf bound l5) id w6 HP6.out.rp HOK.out
            rw [link_size] at ks
            have KS := Lib.hid ks
            clear hb6 ks
            go_wp2_with fail
            refine KS.out.mono ?_
            rintro e w7 ⟨rfl, hb7⟩
            have HP7 := Lib.hid (HP6.out.below H hb7)
            clear hb7 KS
            generalize (sizeL l5 id).1 = s1 at *
            generalize (sizeL l5 id).2 = s2 at *
            clear q0 q1 q2 d1
            go_wp2_with fail
            have HPd := Lib.hid (HP7.out.below H ((Below.refl w7.heap.size w7).drew))
            refine wp_region_held_drew (S := fun w' => w'.cell? ⟨bw, 0, none⟩ = some (.int .i64 bound) ∧ w'.cell? ⟨bw, 1, none⟩ = some (.slice ai5 n5 ci5) ∧ w'.cell? ⟨bw, 2, none⟩ = some (.slice au5 n5 cu5)) mixed ⟨cell_of HPd.out.box 0 _ rfl, cell_of HPd.out.box 1 _ rfl, cell_of HPd.out.box 2 _ rfl⟩ (fun hS => ?_)
            refine wpAnyH_take (i := 0) (v := ?va0) rfl (by kernel_rfl) (by kernel_rfl) (by kernel_rfl) (fun _ _ _ h => h) (.inl ⟨by rfl, ?ha0⟩) hS ?ra0
            case ha0 =>
              intro w' hs
              (try dsimp only at hs)
              go_split_ands
              go_simp
              try with_reducible rfl
            simp only [List.getElem_toArray, List.getElem_cons_zero, Act.put, List.setIfInBounds_toArray, List.set_cons_zero, List.set_cons_succ]
            refine wpAnyH_take (i := 1) (v := ?va1) rfl (by kernel_rfl) (by kernel_rfl) (by kernel_rfl) (fun _ _ _ h => h) (.inl ⟨by rfl, ?ha1⟩) hS ?ra1
            case ha1 =>
              intro w' hs
              (try dsimp only at hs)
              go_split_ands
              go_simp
              try with_reducible rfl
            simp only [List.getElem_toArray, List.getElem_cons_succ, List.getElem_cons_zero, Act.put, List.setIfInBounds_toArray, List.set_cons_zero, List.set_cons_succ]
            refine wpAnyH_take (i := 2) (v := ?va2) rfl (by kernel_rfl) (by kernel_rfl) (by kernel_rfl) (fun _ _ _ h => h) (.inl ⟨by rfl, ?ha2⟩) hS ?ra2
            case ha2 =>
              intro w' hs
              (try dsimp only at hs)
              go_split_ands
              go_simp
              try with_reducible rfl
            simp only [List.getElem_toArray, List.getElem_cons_succ, List.getElem_cons_zero, Act.put, List.setIfInBounds_toArray, List.set_cons_zero, List.set_cons_succ]
            refine wpAnyH_take (i := 3) (v := ?va3) rfl (by kernel_rfl) (by kernel_rfl) (by kernel_rfl) (fun _ _ _ h => h) (.inl ⟨by rfl, ?ha3⟩) hS ?ra3
            case ha3 =>
              intro w' hs
              (try dsimp only at hs)
              go_split_ands
              go_simp
              try with_reducible rfl
            simp only [List.getElem_toArray, List.getElem_cons_succ, List.getElem_cons_zero, Act.put, List.setIfInBounds_toArray, List.set_cons_zero, List.set_cons_succ]
            refine wpAnyH_take (i := 4) (v := ?va4) rfl (by kernel_rfl) (by kernel_rfl) (by kernel_rfl) (fun _ _ _ h => h) (.inl ⟨by rfl, ?ha4⟩) hS ?ra4
            case ha4 =>
              intro w' hs
              (try dsimp only at hs)
              go_split_ands
              go_simp
              try with_reducible rfl
            simp only [List.getElem_toArray, List.getElem_cons_succ, List.getElem_cons_zero, Act.put, List.setIfInBounds_toArray, List.set_cons_zero, List.set_cons_succ]
            refine wpAnyH_take (i := 5) (v := ?va5) rfl (by kernel_rfl) (by kernel_rfl) (by kernel_rfl) (fun _ _ _ h => h) (.inl ⟨by rfl, ?ha5⟩) hS ?ra5
            case ha5 =>
              intro w' hs
              (try dsimp only at hs)
              go_split_ands
              go_simp
              try with_reducible rfl
            simp only [List.getElem_toArray, List.getElem_cons_succ, List.getElem_cons_zero, Act.put, List.setIfInBounds_toArray, List.set_cons_zero, List.set_cons_succ]
            refine wpAnyH_take (i := 6) (v := ?va6) rfl (by kernel_rfl) (by kernel_rfl) (by kernel_rfl) (fun _ _ _ h => h) (.inl ⟨by rfl, ?ha6⟩) hS ?ra6
            case ha6 =>
              intro w' hs
              (try dsimp only at hs)
              go_split_ands
              go_simp
              try with_reducible rfl
            simp only [List.getElem_toArray, List.getElem_cons_succ, List.getElem_cons_zero, Act.put, List.setIfInBounds_toArray, List.set_cons_zero, List.set_cons_succ]
            refine wpAnyH_take (i := 7) (v := ?va7) rfl (by kernel_rfl) (by kernel_rfl) (by kernel_rfl) (fun _ _ _ h => h) (.inl ⟨by rfl, ?ha7⟩) hS ?ra7
            case ha7 =>
              intro w' hs
              (try dsimp only at hs)
              go_split_ands
              go_simp
              try with_reducible rfl
            simp only [List.getElem_toArray, List.getElem_cons_succ, List.getElem_cons_zero, Act.put, List.setIfInBounds_toArray, List.set_cons_zero, List.set_cons_succ]
            refine wpAnyH_take (i := 8) (v := ?va8) rfl (by kernel_rfl) (by kernel_rfl) (by kernel_rfl) (fun _ _ _ h => h) (.inl ⟨by rfl, ?ha8⟩) hS ?ra8
            case ha8 =>
              intro w' hs
              (try dsimp only at hs)
              go_split_ands
              go_simp
              try with_reducible rfl
            simp only [List.getElem_toArray, List.getElem_cons_succ, List.getElem_cons_zero, Act.put, List.setIfInBounds_toArray, List.set_cons_zero, List.set_cons_succ]
            refine wpAnyH_take (i := 9) (v := ?va9) rfl (by kernel_rfl) (by kernel_rfl) (by kernel_rfl) (fun _ _ _ h => h) (.inl ⟨by rfl, ?ha9⟩) hS ?ra9
            case ha9 =>
              intro w' hs
              (try dsimp only at hs)
              go_split_ands
              go_simp
              try with_reducible rfl
            simp only [List.getElem_toArray, List.getElem_cons_succ, List.getElem_cons_zero, Act.put, List.setIfInBounds_toArray, List.set_cons_zero, List.set_cons_succ]
            refine wpAnyH_take (i := 10) (v := ?va10) rfl (by kernel_rfl) (by kernel_rfl) (by kernel_rfl) (fun _ _ _ h => h) (.inl ⟨by rfl, ?ha10⟩) hS ?ra10
            case ha10 =>
              intro w' hs
              (try dsimp only at hs)
              go_split_ands
              go_simp
              try with_reducible rfl
            simp only [List.getElem_toArray, List.getElem_cons_succ, List.getElem_cons_zero, Act.put, List.setIfInBounds_toArray, List.set_cons_zero, List.set_cons_succ]
            refine wpAnyH_take (i := 11) (v := ?va11) rfl (by kernel_rfl) (by kernel_rfl) (by kernel_rfl) (fun _ _ _ h => h) (.inl ⟨by rfl, ?ha11⟩) hS ?ra11
            case ha11 =>
              intro w' hs
              (try dsimp only at hs)
              go_split_ands
              go_simp
              try with_reducible rfl
            simp only [List.getElem_toArray, List.getElem_cons_succ, List.getElem_cons_zero, Act.put, List.setIfInBounds_toArray, List.set_cons_zero, List.set_cons_succ]
            refine wpAnyH_take (i := 12) (v := ?va12) rfl (by kernel_rfl) (by kernel_rfl) (by kernel_rfl) (fun _ _ _ h => h) (.inl ⟨by rfl, ?ha12⟩) hS ?ra12
            case ha12 =>
              intro w' hs
              (try dsimp only at hs)
              go_split_ands
              go_simp
              try with_reducible rfl
            simp only [List.getElem_toArray, List.getElem_cons_succ, List.getElem_cons_zero, Act.put, List.setIfInBounds_toArray, List.set_cons_zero, List.set_cons_succ]
            refine wpAnyH_take (i := 13) (v := ?va13) rfl (by kernel_rfl) (by kernel_rfl) (by kernel_rfl) (fun _ _ _ h => h) (.inl ⟨by rfl, ?ha13⟩) hS ?ra13
            case ha13 =>
              intro w' hs
              (try dsimp only at hs)
              go_split_ands
              go_simp
              try with_reducible rfl
            simp only [List.getElem_toArray, List.getElem_cons_succ, List.getElem_cons_zero, Act.put, List.setIfInBounds_toArray, List.set_cons_zero, List.set_cons_succ]
            refine wpAnyH_take (i := 14) (v := ?va14) rfl (by kernel_rfl) (by kernel_rfl) (by kernel_rfl) (fun _ _ _ h => h) (.inl ⟨by rfl, ?ha14⟩) hS ?ra14
            case ha14 =>
              intro w' hs
              (try dsimp only at hs)
              go_split_ands
              go_simp
              try with_reducible rfl
            simp only [List.getElem_toArray, List.getElem_cons_succ, List.getElem_cons_zero, Act.put, List.setIfInBounds_toArray, List.set_cons_zero, List.set_cons_succ]
            refine wpAnyH_take (i := 16) (v := ?va16) rfl (by kernel_rfl) (by kernel_rfl) (by kernel_rfl) (fun _ _ _ h => h) (.inl ⟨by rfl, ?ha16⟩) hS ?ra16
            case ha16 =>
              intro w' hs
              (try dsimp only at hs)
              go_split_ands
              go_simp
              try with_reducible rfl
            simp only [List.getElem_toArray, List.getElem_cons_succ, List.getElem_cons_zero, Act.put, List.setIfInBounds_toArray, List.set_cons_zero, List.set_cons_succ]
            refine wpAnyH_ready (rs := [15]) (by kernel_rfl) (by simp) (AllReadyH.cons rfl (fun K hK => ?_) AllReadyH.nil)
            go_simp
            go_at_call 14
            refine (H.used HPd.out.pool).mono ?_
            rintro e w8 ⟨rfl, hb8⟩
            have HP8 := Lib.hid (HPd.out.below H hb8)
            clear hb8
            go_wp2_with fail
            refine hK.out _ _ ⟨cell_of HP8.out.box 0 _ rfl, cell_of HP8.out.box 1 _ rfl, cell_of HP8.out.box 2 _ rfl⟩ (fun hS => ?_)
            clear hK
            have ku := used_fn _ (rpOf bound l5) w8 HP8.out.rp HOK.out
            rw [show (rpOf bound l5).sizes = sizesL l5 from rfl, sizes_sum] at ku
            have KU := Lib.hid ku
            clear ku
            refine wpAnyH_ready (rs := [17]) (by kernel_rfl) (by simp) (AllReadyH.cons rfl (fun K hK => ?_) AllReadyH.nil)
            go_simp
            go_at_call 22
            refine (KU.out).mono ?_
            rintro e w9 ⟨rfl, hb9⟩
            have HP9 := Lib.hid (HP8.out.below H hb9)
            clear hb9
            go_wp2_with fail
            refine hK.out _ _ ⟨cell_of HP9.out.box 0 _ rfl, cell_of HP9.out.box 1 _ rfl, cell_of HP9.out.box 2 _ rfl⟩ (fun hS => ?_)
            clear hK
            refine wpAnyH_take (i := 18) (v := ?vb18) rfl (by kernel_rfl) (by kernel_rfl) (by kernel_rfl) (fun _ _ _ h => h) (.inl ⟨by rfl, ?hb18⟩) hS ?rb18
            case hb18 =>
              intro w' hs
              (try dsimp only at hs)
              go_split_ands
              go_simp
              try with_reducible rfl
            simp only [List.getElem_toArray, List.getElem_cons_succ, List.getElem_cons_zero, Act.put, List.setIfInBounds_toArray, List.set_cons_zero, List.set_cons_succ]
            refine wpAnyH_take (i := 19) (v := ?vb19) rfl (by kernel_rfl) (by kernel_rfl) (by kernel_rfl) (fun _ _ _ h => h) (.inl ⟨by rfl, ?hb19⟩) hS ?rb19
            case hb19 =>
              intro w' hs
              (try dsimp only at hs)
              go_split_ands
              go_simp
              try with_reducible rfl
            simp only [List.getElem_toArray, List.getElem_cons_succ, List.getElem_cons_zero, Act.put, List.setIfInBounds_toArray, List.set_cons_zero, List.set_cons_succ]
            refine wpAnyH_take (i := 20) (v := ?vb20) rfl (by kernel_rfl) (by kernel_rfl) (by kernel_rfl) (fun _ _ _ h => h) (.inl ⟨by rfl, ?hb20⟩) hS ?rb20
            case hb20 =>
              intro w' hs
              (try dsimp only at hs)
              go_split_ands
              go_simp
              try with_reducible rfl
            simp only [List.getElem_toArray, List.getElem_cons_succ, List.getElem_cons_zero, Act.put, List.setIfInBounds_toArray, List.set_cons_zero, List.set_cons_succ]
            refine wpAnyH_take (i := 21) (v := ?vb21) rfl (by kernel_rfl) (by kernel_rfl) (by kernel_rfl) (fun _ _ _ h => h) (.inl ⟨by rfl, ?hb21⟩) hS ?rb21
            case hb21 =>
              intro w' hs
              (try dsimp only at hs)
              go_split_ands
              go_simp
              try with_reducible rfl
            simp only [List.getElem_toArray, List.getElem_cons_succ, List.getElem_cons_zero, Act.put, List.setIfInBounds_toArray, List.set_cons_zero, List.set_cons_succ]
            refine wpAnyH_take (i := 23) (v := ?vb23) rfl (by kernel_rfl) (by kernel_rfl) (by kernel_rfl) (fun _ _ _ h => h) (.inl ⟨by rfl, ?hb23⟩) hS ?rb23
            case hb23 =>
              intro w' hs
              (try dsimp only at hs)
              go_split_ands
              go_simp
              try with_reducible rfl
            simp only [List.getElem_toArray, List.getElem_cons_succ, List.getElem_cons_zero, Act.put, List.setIfInBounds_toArray, List.set_cons_zero, List.set_cons_succ]
            refine wpAnyH_take (i := 24) (v := ?vb24) rfl (by kernel_rfl) (by kernel_rfl) (by kernel_rfl) (fun _ _ _ h => h) (.inl ⟨by rfl, ?hb24⟩) hS ?rb24
            case hb24 =>
              intro w' hs
              (try dsimp only at hs)
              go_split_ands
              go_simp
              try with_reducible rfl
            simp only [List.getElem_toArray, List.getElem_cons_succ, List.getElem_cons_zero, Act.put, List.setIfInBounds_toArray, List.set_cons_zero, List.set_cons_succ]
            refine wpAnyH_take (i := 25) (v := ?vb25) rfl (by kernel_rfl) (by kernel_rfl) (by kernel_rfl) (fun _ _ _ h => h) (.inl ⟨by rfl, ?hb25⟩) hS ?rb25
            case hb25 =>
              intro w' hs
              (try dsimp only at hs)
              go_split_ands
              go_simp
              try with_reducible rfl
            simp only [List.getElem_toArray, List.getElem_cons_succ, List.getElem_cons_zero, Act.put, List.setIfInBounds_toArray, List.set_cons_zero, List.set_cons_succ]
            have kc := H.count HP9.out.pool
            rw [HN5.out] at kc
            have KC := Lib.hid kc
            clear kc
            refine wpAnyH_ready (rs := [22]) (by kernel_rfl) (by simp) (AllReadyH.cons rfl (fun K hK => ?_) AllReadyH.nil)
            go_simp
            go_at_call 13
            refine (KC.out).mono ?_
            rintro e w10 ⟨rfl, hb10⟩
            have HP10 := Lib.hid (HP9.out.below H hb10)
            clear hb10
            go_wp2_with fail
            refine hK.out _ _ ⟨cell_of HP10.out.box 0 _ rfl, cell_of HP10.out.box 1 _ rfl, cell_of HP10.out.box 2 _ rfl⟩ (fun hS => ?_)
            clear hK
            refine wpAnyH_take (i := 26) (v := ?vb26) rfl (by kernel_rfl) (by kernel_rfl) (by kernel_rfl) (fun _ _ _ h => h) (.inl ⟨by rfl, ?hb26⟩) hS ?rb26
            case hb26 =>
              intro w' hs
              (try dsimp only at hs)
              go_split_ands
              go_simp
              try with_reducible rfl
            simp only [List.getElem_toArray, List.getElem_cons_succ, List.getElem_cons_zero, Act.put, List.setIfInBounds_toArray, List.set_cons_zero, List.set_cons_succ]
            refine wpAnyH_take (i := 27) (v := ?vb27) rfl (by kernel_rfl) (by kernel_rfl) (by kernel_rfl) (fun _ _ _ h => h) (.inl ⟨by rfl, ?hb27⟩) hS ?rb27
            case hb27 =>
              intro w' hs
              (try dsimp only at hs)
              go_split_ands
              go_simp
              try with_reducible rfl
            simp only [List.getElem_toArray, List.getElem_cons_succ, List.getElem_cons_zero, Act.put, List.setIfInBounds_toArray, List.set_cons_zero, List.set_cons_succ]
            refine wpAnyH_take (i := 28) (v := ?vb28) rfl (by kernel_rfl) (by kernel_rfl) (by kernel_rfl) (fun _ _ _ h => h) (.inl ⟨by rfl, ?hb28⟩) hS ?rb28
            case hb28 =>
              intro w' hs
              (try dsimp only at hs)
              go_split_ands
              go_simp
              try with_reducible rfl
            simp only [List.getElem_toArray, List.getElem_cons_succ, List.getElem_cons_zero, Act.put, List.setIfInBounds_toArray, List.set_cons_zero, List.set_cons_succ]
            refine wpAnyH_take (i := 29) (v := ?vb29) rfl (by kernel_rfl) (by kernel_rfl) (by kernel_rfl) (fun _ _ _ h => h) (.inl ⟨by rfl, ?hb29⟩) hS ?rb29
            case hb29 =>
              intro w' hs
              (try dsimp only at hs)
              go_split_ands
              go_simp
              try with_reducible rfl
            simp only [List.getElem_toArray, List.getElem_cons_succ, List.getElem_cons_zero, Act.put, List.setIfInBounds_toArray, List.set_cons_zero, List.set_cons_succ]
            refine wpAnyH_take (i := 31) (v := ?vb31) rfl (by kernel_rfl) (by kernel_rfl) (by kernel_rfl) (fun _ _ _ h => h) (.inl ⟨by rfl, ?hb31⟩) hS ?rb31
            case hb31 =>
              intro w' hs
              (try dsimp only at hs)
              go_split_ands
              go_simp
              try with_reducible rfl
            simp only [List.getElem_toArray, List.getElem_cons_succ, List.getElem_cons_zero, Act.put, List.setIfInBounds_toArray, List.set_cons_zero, List.set_cons_succ]
            refine wpAnyH_take (i := 32) (v := ?vb32) rfl (by kernel_rfl) (by kernel_rfl) (by kernel_rfl) (fun _ _ _ h => h) (.inl ⟨by rfl, ?hb32⟩) hS ?rb32
            case hb32 =>
              intro w' hs
              (try dsimp only at hs)
              go_split_ands
              go_simp
              try with_reducible rfl
            simp only [List.getElem_toArray, List.getElem_cons_succ, List.getElem_cons_zero, Act.put, List.setIfInBounds_toArray, List.set_cons_zero, List.set_cons_succ]
            refine wpAnyH_ready (rs := [30]) (by kernel_rfl) (by simp) (AllReadyH.cons rfl (fun K hK => ?_) AllReadyH.nil)
            go_simp
            go_at_call 24
            refine (H.ids HP10.out.pool).mono ?_
            rintro e w11 ⟨vI, rfl, hvI, hb11⟩
            have HP11 := Lib.hid (HP10.out.below H hb11)
            clear hb11
            go_wp2_with fail
            refine hK.out _ _ ⟨cell_of HP11.out.box 0 _ rfl, cell_of HP11.out.box 1 _ rfl, cell_of HP11.out.box 2 _ rfl⟩ (fun hS => ?_)
            clear hK
            have KE := Lib.hid (same_fn vI _ (idsL 1 l5) (idsL 1 l5) w11 hvI HP11.out.li HFEW.out)
            clear hvI
            refine wpAnyH_ready (rs := [33]) (by kernel_rfl) (by simp) (AllReadyH.cons rfl (fun K hK => ?_) AllReadyH.nil)
            go_simp
            go_at_call 23
            refine (KE.out).mono ?_
            rintro e w12 ⟨rfl, hb12⟩
            have HP12 := Lib.hid (HP11.out.below H hb12)
            clear hb12
            rw [decide_eq_true rfl]
            go_wp2_with fail
            refine hK.out _ _ ⟨cell_of HP12.out.box 0 _ rfl, cell_of HP12.out.box 1 _ rfl, cell_of HP12.out.box 2 _ rfl⟩ (fun hS => ?_)
            clear hK
            refine wpAnyH_take (i := 34) (v := ?vb34) rfl (by kernel_rfl) (by kernel_rfl) (by kernel_rfl) (fun _ _ _ h => h) (.inl ⟨by rfl, ?hb34⟩) hS ?rb34
            case hb34 =>
              intro w' hs
              (try dsimp only at hs)
              go_split_ands
              go_simp
              try with_reducible rfl
            simp only [List.getElem_toArray, List.getElem_cons_succ, List.getElem_cons_zero, Act.put, List.setIfInBounds_toArray, List.set_cons_zero, List.set_cons_succ]
            refine wpAnyH_take (i := 35) (v := ?vb35) rfl (by kernel_rfl) (by kernel_rfl) (by kernel_rfl) (fun _ _ _ h => h) (.inl ⟨by rfl, ?hb35⟩) hS ?rb35
            case hb35 =>
              intro w' hs
              (try dsimp only at hs)
              go_split_ands
              go_simp
              try with_reducible rfl
            simp only [List.getElem_toArray, List.getElem_cons_succ, List.getElem_cons_zero, Act.put, List.setIfInBounds_toArray, List.set_cons_zero, List.set_cons_succ]
            refine wpAnyH_done (by kernel_rfl) ?_ _
            have e0 := IntWalk.i64_in ((k : Int) + 1) (by omega)
            clear hS
            go_wp2_with fail
            go_roundg (n - (k + 1))
            case measure => omega
            case rel => exact ⟨k + 1, b5, l5, F5, ai5, n5, ci5, au5, cu5, rfl, rfl, by go_num, by omega, by omega, HP12.out⟩
        · have hkk : ¬ (k : Int) < 60 := by omega
          have hlt' : (k : Int) < n := by omega
          go_wp2_with fail
          refine (HA.out wr).mono ?_
          rintro e w3 ⟨rfl, b3⟩
          have HB3 := Lib.hid (HP1.out.low.trans (b3.mono HP1.out.low.size))
          clear b3
          go_wp2_with fail
          go_ret
          exact ⟨rfl, HB3.out⟩
      · have hkn : ¬ (k : Int) < n := by omega
        go_wp2_with fail
        refine (HA.out wr).mono ?_
        rintro e w3 ⟨rfl, b3⟩
        have HB3 := Lib.hid (HP1.out.low.trans (b3.mono HP1.out.low.size))
        clear b3
        go_wp2_with fail
        go_ret
        exact ⟨rfl, HB3.out⟩
end Go.Proofs.Ytpfhaafaoedgpaa.Pl
