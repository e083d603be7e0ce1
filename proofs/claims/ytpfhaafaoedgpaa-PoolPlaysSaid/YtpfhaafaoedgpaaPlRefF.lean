/-
  Layer 12: the document's pool: an object less (written by takes.py out of pl-give.src).
-/
import Derived.Test.YtpfhaafaoedgpaaPlRefE
namespace Go.Proofs.Ytpfhaafaoedgpaa.Pl
open Go Go.RowKit

def GivePost (P : Nat → Prop) (p : Rp) (id : Int) (w : World) (e : Ending) (w' : World) : Prop :=
  ∃ v', e = .returned (.tuple #[v', .int .i64 (p.give id).2]) ∧ RpV (fun k => P k ∨ w.heap.size ≤ k) w' v' (p.give id).1 ∧ Below w.heap.size w w'
theorem give_neg (p : Rp) {id : Int} (h : placeOf p.ids id < 0) : p.give id = (p, 2) := by unfold Rp.give; rw [if_pos h]
theorem give_pos (p : Rp) {id : Int} {m : Nat} (h : placeOf p.ids id = m) : p.give id = (p.drop m, 0) := by unfold Rp.give; rw [h, if_neg (by omega), Int.toNat_natCast]

set_option maxHeartbeats 8000000 in
set_option maxRecDepth 1000000 in
theorem give_fn {P : Nat → Prop} (v : Value) (p : Rp) (id : Int) (w : World) (hv : RpV P w v p) (hO : p.Ok) :
    Calls Try.prog 18 #[v, .int .i64 id] w (GivePost P p id w) := by
  obtain ⟨ai, ci, au, cu, n, rfl, hn1, hn2, hi, hs⟩ := hv.shape hO
  have hfew := hO.few
  rw [hn1] at hfew
  have HF := Lib.hid hfew
  have HI := Lib.hid hi
  have HS := Lib.hid hs
  have HN1 := Lib.hid hn1
  have HN2 := Lib.hid hn2
  have h5 : (n : Int) ≤ 65536 := by omega
  have hw : TkH w p.bound ai n ci au cu ((w.alloc (.cells #[.int .i64 p.bound, .slice ai n ci, .slice au n cu] 38)).alloc (.cells #[.int .i64 0, .slice none 0 0, .slice none 0 0] 38)) := by
    have h := two_below w (.cells #[.int .i64 p.bound, .slice ai n ci, .slice au n cu] 38) (.cells #[.int .i64 0, .slice none 0 0, .slice none 0 0] 38)
    exact ⟨h.2.1, h.2.2, h.1⟩
  have HPL := Lib.hid (place_fn (P := P) _ p id _ ⟨_, _, rfl, hi.below hw.2.2, hs.below hw.2.2⟩ hO)
  have HW0 := Lib.hid hw
  have HBD := Lib.hid (place_bounds p.ids id)
  clear hi hs hO hv hn1 hn2 hfew hw
  go_enter Try.func18, Try.ntmps18
  go_wp2_with fail
  refine HPL.out.mono ?_
  rintro e w1 ⟨rfl, b1⟩
  have hw1 := HW0.out.below b1
  have HW := Lib.hid hw1
  have y0 := cell_of hw1.2.1 0 _ rfl
  have y1 := cell_of hw1.2.1 1 _ rfl
  have y2 := cell_of hw1.2.1 2 _ rfl
  have f0 := free_of hw1.2.1 0
  have f1 := free_of hw1.2.1 1
  have f2 := free_of hw1.2.1 2
  obtain ⟨x0, x1, x2, -⟩ := hw1.cells
  clear hw1 b1
  by_cases hneg : placeOf p.ids id < 0
  · have HT := Lib.hid (give_neg p hneg)
    generalize placeOf p.ids id = q at *
    go_wp2_with fail
    refine bodyPost_ret (v := .tuple #[.agg #[.int .i64 p.bound, .slice ai n ci, .slice au n cu], .int .i64 2]) (by simp [results, Try.results18, go_sem, y0, y1, y2]) rfl ?_
    unfold GivePost
    have hb : Below w.heap.size w (((w1.setCell ⟨w.heap.size + 1, 0, none⟩ (.int .i64 p.bound)).setCell ⟨w.heap.size + 1, 1, none⟩ (.slice ai n ci)).setCell ⟨w.heap.size + 1, 2, none⟩ (.slice au n cu)) :=
      ((HW.out.2.2.setCell (Nat.le_succ _) _).setCell (Nat.le_succ _) _).setCell (Nat.le_succ _) _
    exact ⟨_, ret_ae rfl (by rw [HT.out]), by rw [HT.out]; exact ⟨_, _, rfl, (HI.out.below hb).mono (fun _ _ h => .inl h), (HS.out.below hb).mono (fun _ _ h => .inl h)⟩, hb⟩
  · obtain ⟨m, hm⟩ : ∃ m : Nat, placeOf p.ids id = m := ⟨(placeOf p.ids id).toNat, by omega⟩
    have hmn : m < n := by have := HBD.out.2.1; rw [hm, HN1.out] at this; omega
    have HT := Lib.hid (give_pos p hm)
    rw [hm]
    clear hm hneg y0 y1 y2 f0 f1 f2
    have hmn' : (m : Int) < n := by omega
    have HT0 := Lib.hid (Two.new w1 p.bound)
    go_wp2_with fail
    generalize hW : w1.alloc (.cells #[.int .i64 p.bound, .slice none 0 0, .slice none 0 0] 38) = W0 at *
    clear hW
    have HLOW := Lib.hid HT0.out.low
    go_loopg [8] n (fun r i wr => ∃ (k : Nat) (aI : Option Addr) (mI cI : Nat) (aS : Option Addr) (mS cS : Nat), r = n - k ∧ i = .int .i64 k ∧ k ≤ n ∧ Two w1 p.bound (.slice aI mI cI) (.slice aS mS cS) ((p.ids.take k).eraseIdx m) ((p.sizes.take k).eraseIdx m) wr)
    case atStart => exact ⟨0, none, 0, 0, none, 0, 0, rfl, rfl, Nat.zero_le _, HT0.out⟩
    case round =>
      obtain ⟨k, aI, mI, cI, aS, mS, cS, rfl, rfl, hk, hT⟩ := hrel
      have HT1 := Lib.hid hT
      have t1 := x1
      rw [← hT.low.cell (p := ⟨w.heap.size, 1, none⟩) (lt_of_get HW.out.1)] at t1
      have t2 := x2
      rw [← hT.low.cell (p := ⟨w.heap.size, 2, none⟩) (lt_of_get HW.out.1)] at t2
      clear hT
      have e0 := IntWalk.i64_in ((k : Int) + 1) (by omega)
      by_cases hlt : k < n
      · have hlt' : (k : Int) < n := by omega
        by_cases hkm : k = m
        · subst hkm
          go_wp2_with fail
          go_roundg (n - (k + 1))
          case measure => omega
          case rel => exact ⟨k + 1, aI, mI, cI, aS, mS, cS, rfl, by go_num, by omega, by
            rw [erase_here (by rw [HN1.out]; exact hlt), erase_here (by rw [HN2.out]; exact hlt)]; exact HT1.out⟩
        · have hkm' : ((k : Int) != (m : Int)) = true := by simp; omega
          have hka : k < p.ids.length := by rw [HN1.out]; exact hlt
          have hkb : k < p.sizes.length := by rw [HN2.out]; exact hlt
          obtain ⟨g, off, cap, -, hg, hv, -, c0⟩ := HI.out.item (i := k) (by rw [ints_len]; exact hka)
          rw [ints_get _ _ hka] at c0
          injection hv with hv1 hv2 hv3
          subst hv1
          obtain ⟨g2, off2, cap2, -, hg2, hv, -, d0⟩ := HS.out.item (i := k) (by rw [ints_len]; exact hkb)
          rw [ints_get _ _ hkb] at d0
          injection hv with hv1 hv4 hv5
          subst hv1
          have HE1 := Lib.hid (erase_next hka hkm)
          have HE2 := Lib.hid (erase_next hkb hkm)
          generalize p.ids[k] = x at *
          generalize p.sizes[k] = z at *
          have HC0 := Lib.hid c0
          have HD0 := Lib.hid d0
          have HG := Lib.hid hg
          have HG2 := Lib.hid hg2
          clear c0 d0 hg hg2 hv2 hv3 hv4 hv5 hkm
          go_upto_region 9 with fail
          go_cut [] from 28 to 37 (fun wx => ∃ aI1 mI1 cI1, Two w1 p.bound (.slice aI1 mI1 cI1) (.slice aS mS cS) ((p.ids.take k).eraseIdx m ++ [x]) ((p.sizes.take k).eraseIdx m) wx)
          case first =>
            have hbw : Below w.heap.size w wr := HW.out.2.2.trans (HT1.out.low.mono HW.out.2.2.size)
            obtain ⟨aa1, ma1, ca1, w2, hrun, hbx, hT2, hb2⟩ := HT1.out.drew.one_I x (by rw [List.length_eraseIdx]; have := HF.out; split <;> (rw [List.length_take]; omega))
            have hrun : (Builtin.append_ #[36, 36] 36 #[.slice aI mI cI, .slice (some ⟨wr.heap.size, 0, none⟩) 1 1]).run Try.prog (wr.drew.alloc (.cells #[.int .i64 x] 3)) = _ := hrun
            have hb3 : Below w1.heap.size wr (w2.setCell ⟨w1.heap.size, 1, none⟩ (.slice aa1 ma1 ca1)) := ((Below.refl w1.heap.size wr).drew.trans hb2).setCell (p := ⟨w1.heap.size, 1, none⟩) (Nat.le_refl _) _
            have hlt1 := lt_of_get HW.out.1
            have hgl : g < w1.heap.size := Nat.lt_of_lt_of_le HG.out HW.out.2.2.size
            have cg : wr.cell? ⟨g, off + k, none⟩ = some (.int .i64 x) := by rw [hbw.cell (p := ⟨g, off + k, none⟩) HG.out]; exact HC0.out
            have S0 : wr.drew.cell? ⟨w.heap.size, 1, none⟩ = some (.slice (some ⟨g, off, none⟩) n ci) ∧ wr.drew.cell? ⟨g, off + k, none⟩ = some (.int .i64 x) := ⟨t1, cg⟩
            have hal := (Below.refl wr.drew.heap.size wr.drew).alloc (Nat.le_refl _) (.cells #[.int .i64 x] 3)
            have hwz : w1.heap.size ≤ wr.drew.heap.size := HT1.out.low.size
            have hwlt : w1.heap.size < wr.heap.size := lt_of_get HT1.out.box
            have S1 : (wr.drew.alloc (.cells #[.int .i64 x] 3)).cell? ⟨w.heap.size, 1, none⟩ = some (.slice (some ⟨g, off, none⟩) n ci) ∧ (wr.drew.alloc (.cells #[.int .i64 x] 3)).cell? ⟨g, off + k, none⟩ = some (.int .i64 x) :=
              ⟨(hal.cell (p := ⟨w.heap.size, 1, none⟩) (by show w.heap.size < _; omega)).trans t1, (hal.cell (p := ⟨g, off + k, none⟩) (by show g < _; omega)).trans cg⟩
            have S2 : w2.cell? ⟨w.heap.size, 1, none⟩ = some (.slice (some ⟨g, off, none⟩) n ci) ∧ w2.cell? ⟨g, off + k, none⟩ = some (.int .i64 x) :=
              ⟨(hb2.cell (p := ⟨w.heap.size, 1, none⟩) hlt1).trans t1, (hb2.cell (p := ⟨g, off + k, none⟩) hgl).trans cg⟩
            have S3 : (w2.setCell ⟨w1.heap.size, 1, none⟩ (.slice aa1 ma1 ca1)).cell? ⟨w.heap.size, 1, none⟩ = some (.slice (some ⟨g, off, none⟩) n ci) ∧ (w2.setCell ⟨w1.heap.size, 1, none⟩ (.slice aa1 ma1 ca1)).cell? ⟨g, off + k, none⟩ = some (.int .i64 x) :=
              ⟨(hb3.cell (p := ⟨w.heap.size, 1, none⟩) hlt1).trans t1, (hb3.cell (p := ⟨g, off + k, none⟩) hgl).trans cg⟩
            have q1 : wr.drew.cell? ⟨w1.heap.size, 1, none⟩ = some (.slice aI mI cI) := cell_of HT1.out.box 1 _ rfl
            have q0 : wr.cell? ⟨w1.heap.size, 1, none⟩ = some (.slice aI mI cI) := q1
            have q2 : (wr.drew.alloc (.cells #[.int .i64 x] 3)).cell? ⟨w1.heap.size, 1, none⟩ = some (.slice aI mI cI) := (hal.cell (p := ⟨w1.heap.size, 1, none⟩) (lt_of_get HT1.out.box)).trans q1
            have z1 := cell_of hbx 1 _ rfl
            have z2 := free_of hbx 1
            have HT2 := Lib.hid hT2
            have HSS := Lib.hid (And.intro S0 (And.intro S1 (And.intro S2 S3)))
            clear hT2 hbx hb2 hal S0 S1 S2 S3 hb3 cg hbw
            refine wp_region_held_drew (S := fun w' => w'.cell? ⟨w.heap.size, 1, none⟩ = some (.slice (some ⟨g, off, none⟩) n ci) ∧ w'.cell? ⟨g, off + k, none⟩ = some (.int .i64 x)) mixed HSS.out.1 (fun hS => ?_)
            refine wpAnyH_take (i := 0) (v := ?va10) rfl (by kernel_rfl) (by kernel_rfl) (by kernel_rfl) (fun _ _ _ h => h) (.inl ⟨by rfl, ?ha10⟩) hS ?ra10
            case ha10 =>
              intro w' hs
              (try dsimp only at hs)
              go_split_ands
              go_simp
              try with_reducible rfl
            simp only [List.getElem_toArray, List.getElem_cons_zero, Act.put, List.setIfInBounds_toArray, List.set_cons_zero, List.set_cons_succ]
            refine wpAnyH_take (i := 2) (v := ?va12) rfl (by kernel_rfl) (by kernel_rfl) (by kernel_rfl) (fun _ _ _ h => h) (.inl ⟨by rfl, ?ha12⟩) hS ?ra12
            case ha12 =>
              intro w' hs
              (try dsimp only at hs)
              go_split_ands
              go_simp
              try with_reducible rfl
            simp only [List.getElem_toArray, List.getElem_cons_succ, List.getElem_cons_zero, Act.put, List.setIfInBounds_toArray, List.set_cons_zero, List.set_cons_succ]
            refine wpAnyH_take (i := 3) (v := ?va13) rfl (by kernel_rfl) (by kernel_rfl) (by kernel_rfl) (fun _ _ _ h => h) (.inl ⟨by rfl, ?ha13⟩) hS ?ra13
            case ha13 =>
              intro w' hs
              (try dsimp only at hs)
              go_split_ands
              go_simp
              try with_reducible rfl
            simp only [List.getElem_toArray, List.getElem_cons_succ, List.getElem_cons_zero, Act.put, List.setIfInBounds_toArray, List.set_cons_zero, List.set_cons_succ]
            refine wpAnyH_take (i := 4) (v := ?va14) rfl (by kernel_rfl) (by kernel_rfl) (by kernel_rfl) (fun _ _ _ h => h) (.inl ⟨by rfl, ?ha14⟩) hS ?ra14
            case ha14 =>
              intro w' hs
              (try dsimp only at hs)
              go_split_ands
              go_simp
              try with_reducible rfl
            simp only [List.getElem_toArray, List.getElem_cons_succ, List.getElem_cons_zero, Act.put, List.setIfInBounds_toArray, List.set_cons_zero, List.set_cons_succ]
            refine wpAnyH_take (i := 5) (v := ?va15) rfl (by kernel_rfl) (by kernel_rfl) (by kernel_rfl) (fun _ _ _ h => h) (.inl ⟨by rfl, ?ha15⟩) hS ?ra15
            case ha15 =>
              intro w' hs
              (try dsimp only at hs)
              go_split_ands
              go_simp
              try with_reducible rfl
            simp only [List.getElem_toArray, List.getElem_cons_succ, List.getElem_cons_zero, Act.put, List.setIfInBounds_toArray, List.set_cons_zero, List.set_cons_succ]
            refine wpAnyH_take (i := 6) (v := ?va16) rfl (by kernel_rfl) (by kernel_rfl) (by kernel_rfl) (fun _ _ _ h => h) (.inl ⟨by rfl, ?ha16⟩) hS ?ra16
            case ha16 =>
              intro w' hs
              (try dsimp only at hs)
              go_split_ands
              go_simp
              try with_reducible rfl
            simp only [List.getElem_toArray, List.getElem_cons_succ, List.getElem_cons_zero, Act.put, List.setIfInBounds_toArray, List.set_cons_zero, List.set_cons_succ]
            refine wpAnyH_ready (rs := [1, 7]) (by kernel_rfl) (by simp) (AllReadyH.cons rfl (fun K hK => ?_) (AllReadyH.cons rfl (fun K hK => ?_) AllReadyH.nil))
            · skip
              go_simp
              refine hK.out _ _ HSS.out.1 (fun hS => ?_)
              clear hK
              refine wpAnyH_ready (rs := [7]) (by kernel_rfl) (by simp) (AllReadyH.cons rfl (fun K hK => ?_) AllReadyH.nil)
              go_simp
              refine hK.out _ _ HSS.out.2.1 (fun hS => ?_)
              clear hK
              refine wpAnyH_ready (rs := [8]) (by kernel_rfl) (by simp) (AllReadyH.cons rfl (fun K hK => ?_) AllReadyH.nil)
              refine wp_append_run hrun rfl rfl rfl ?_
              refine hK.out _ _ HSS.out.2.2.1 (fun hS => ?_)
              clear hK
              refine wpAnyH_take (i := 9) (v := ?vb19) rfl (by kernel_rfl) (by kernel_rfl) (by kernel_rfl) (fun _ _ _ h => h) (.inl ⟨by rfl, ?hb19⟩) hS ?rb19
              case hb19 =>
                intro w' hs
                (try dsimp only at hs)
                go_split_ands
                go_simp
                try with_reducible rfl
              simp only [List.getElem_toArray, List.getElem_cons_succ, List.getElem_cons_zero, Act.put, List.setIfInBounds_toArray, List.set_cons_zero, List.set_cons_succ]
              refine wpAnyH_ready (rs := [10]) (by kernel_rfl) (by simp) (AllReadyH.cons rfl (fun K hK => ?_) AllReadyH.nil)
              go_simp
              refine hK.out _ _ HSS.out.2.2.2 (fun hS => ?_)
              clear hK
              refine wpAnyH_done (by kernel_rfl) ?_ _
              go_wp2_with fail
              go_meet
              exact ⟨_, _, _, HT2.out⟩
            · skip
              go_simp
              refine hK.out _ _ HSS.out.2.1 (fun hS => ?_)
              clear hK
              refine wpAnyH_ready (rs := [1]) (by kernel_rfl) (by simp) (AllReadyH.cons rfl (fun K hK => ?_) AllReadyH.nil)
              go_simp
              refine hK.out _ _ HSS.out.2.1 (fun hS => ?_)
              clear hK
              refine wpAnyH_ready (rs := [8]) (by kernel_rfl) (by simp) (AllReadyH.cons rfl (fun K hK => ?_) AllReadyH.nil)
              refine wp_append_run hrun rfl rfl rfl ?_
              refine hK.out _ _ HSS.out.2.2.1 (fun hS => ?_)
              clear hK
              refine wpAnyH_take (i := 9) (v := ?vc19) rfl (by kernel_rfl) (by kernel_rfl) (by kernel_rfl) (fun _ _ _ h => h) (.inl ⟨by rfl, ?hc19⟩) hS ?rc19
              case hc19 =>
                intro w' hs
                (try dsimp only at hs)
                go_split_ands
                go_simp
                try with_reducible rfl
              simp only [List.getElem_toArray, List.getElem_cons_succ, List.getElem_cons_zero, Act.put, List.setIfInBounds_toArray, List.set_cons_zero, List.set_cons_succ]
              refine wpAnyH_ready (rs := [10]) (by kernel_rfl) (by simp) (AllReadyH.cons rfl (fun K hK => ?_) AllReadyH.nil)
              go_simp
              refine hK.out _ _ HSS.out.2.2.2 (fun hS => ?_)
              clear hK
              refine wpAnyH_done (by kernel_rfl) ?_ _
              go_wp2_with fail
              go_meet
              exact ⟨_, _, _, HT2.out⟩
          case rest =>
            obtain ⟨aI1, mI1, cI1, hcut⟩ := hcut
            have HT2 := Lib.hid hcut
            have t2 := x2
            rw [← hcut.low.cell (p := ⟨w.heap.size, 2, none⟩) (lt_of_get HW.out.1)] at t2
            clear hcut t1
            go_upto_region 10 with fail
            have hbw : Below w.heap.size w wc := HW.out.2.2.trans (HT2.out.low.mono HW.out.2.2.size)
            obtain ⟨aa2, ma2, ca2, w2, hrun, hbx, hT2, hb2⟩ := HT2.out.drew.one_S z (by rw [List.length_eraseIdx]; have := HF.out; split <;> (rw [List.length_take]; omega))
            have hrun : (Builtin.append_ #[36, 36] 36 #[.slice aS mS cS, .slice (some ⟨wc.heap.size, 0, none⟩) 1 1]).run Try.prog (wc.drew.alloc (.cells #[.int .i64 z] 3)) = _ := hrun
            have hb3 : Below w1.heap.size wc (w2.setCell ⟨w1.heap.size, 2, none⟩ (.slice aa2 ma2 ca2)) := ((Below.refl w1.heap.size wc).drew.trans hb2).setCell (p := ⟨w1.heap.size, 2, none⟩) (Nat.le_refl _) _
            have hlt1 := lt_of_get HW.out.1
            have hgl : g2 < w1.heap.size := Nat.lt_of_lt_of_le HG2.out HW.out.2.2.size
            have cg : wc.cell? ⟨g2, off2 + k, none⟩ = some (.int .i64 z) := by rw [hbw.cell (p := ⟨g2, off2 + k, none⟩) HG2.out]; exact HD0.out
            have S0 : wc.drew.cell? ⟨w.heap.size, 2, none⟩ = some (.slice (some ⟨g2, off2, none⟩) n cu) ∧ wc.drew.cell? ⟨g2, off2 + k, none⟩ = some (.int .i64 z) := ⟨t2, cg⟩
            have hal := (Below.refl wc.drew.heap.size wc.drew).alloc (Nat.le_refl _) (.cells #[.int .i64 z] 3)
            have hwz : w1.heap.size ≤ wc.drew.heap.size := HT2.out.low.size
            have hwlt : w1.heap.size < wc.heap.size := lt_of_get HT2.out.box
            have S1 : (wc.drew.alloc (.cells #[.int .i64 z] 3)).cell? ⟨w.heap.size, 2, none⟩ = some (.slice (some ⟨g2, off2, none⟩) n cu) ∧ (wc.drew.alloc (.cells #[.int .i64 z] 3)).cell? ⟨g2, off2 + k, none⟩ = some (.int .i64 z) :=
              ⟨(hal.cell (p := ⟨w.heap.size, 2, none⟩) (by show w.heap.size < _; omega)).trans t2, (hal.cell (p := ⟨g2, off2 + k, none⟩) (by show g2 < _; omega)).trans cg⟩
            have S2 : w2.cell? ⟨w.heap.size, 2, none⟩ = some (.slice (some ⟨g2, off2, none⟩) n cu) ∧ w2.cell? ⟨g2, off2 + k, none⟩ = some (.int .i64 z) :=
              ⟨(hb2.cell (p := ⟨w.heap.size, 2, none⟩) hlt1).trans t2, (hb2.cell (p := ⟨g2, off2 + k, none⟩) hgl).trans cg⟩
            have S3 : (w2.setCell ⟨w1.heap.size, 2, none⟩ (.slice aa2 ma2 ca2)).cell? ⟨w.heap.size, 2, none⟩ = some (.slice (some ⟨g2, off2, none⟩) n cu) ∧ (w2.setCell ⟨w1.heap.size, 2, none⟩ (.slice aa2 ma2 ca2)).cell? ⟨g2, off2 + k, none⟩ = some (.int .i64 z) :=
              ⟨(hb3.cell (p := ⟨w.heap.size, 2, none⟩) hlt1).trans t2, (hb3.cell (p := ⟨g2, off2 + k, none⟩) hgl).trans cg⟩
            have q1 : wc.drew.cell? ⟨w1.heap.size, 2, none⟩ = some (.slice aS mS cS) := cell_of HT2.out.box 2 _ rfl
            have q0 : wc.cell? ⟨w1.heap.size, 2, none⟩ = some (.slice aS mS cS) := q1
            have q2 : (wc.drew.alloc (.cells #[.int .i64 z] 3)).cell? ⟨w1.heap.size, 2, none⟩ = some (.slice aS mS cS) := (hal.cell (p := ⟨w1.heap.size, 2, none⟩) (lt_of_get HT2.out.box)).trans q1
            have z1 := cell_of hbx 2 _ rfl
            have z2 := free_of hbx 2
            have HT3 := Lib.hid hT2
            have HSS := Lib.hid (And.intro S0 (And.intro S1 (And.intro S2 S3)))
            clear hT2 hbx hb2 hal S0 S1 S2 S3 hb3 cg hbw
            refine wp_region_held_drew (S := fun w' => w'.cell? ⟨w.heap.size, 2, none⟩ = some (.slice (some ⟨g2, off2, none⟩) n cu) ∧ w'.cell? ⟨g2, off2 + k, none⟩ = some (.int .i64 z)) mixed HSS.out.1 (fun hS => ?_)
            refine wpAnyH_take (i := 0) (v := ?va20) rfl (by kernel_rfl) (by kernel_rfl) (by kernel_rfl) (fun _ _ _ h => h) (.inl ⟨by rfl, ?ha20⟩) hS ?ra20
            case ha20 =>
              intro w' hs
              (try dsimp only at hs)
              go_split_ands
              go_simp
              try with_reducible rfl
            simp only [List.getElem_toArray, List.getElem_cons_zero, Act.put, List.setIfInBounds_toArray, List.set_cons_zero, List.set_cons_succ]
            refine wpAnyH_take (i := 2) (v := ?va22) rfl (by kernel_rfl) (by kernel_rfl) (by kernel_rfl) (fun _ _ _ h => h) (.inl ⟨by rfl, ?ha22⟩) hS ?ra22
            case ha22 =>
              intro w' hs
              (try dsimp only at hs)
              go_split_ands
              go_simp
              try with_reducible rfl
            simp only [List.getElem_toArray, List.getElem_cons_succ, List.getElem_cons_zero, Act.put, List.setIfInBounds_toArray, List.set_cons_zero, List.set_cons_succ]
            refine wpAnyH_take (i := 3) (v := ?va23) rfl (by kernel_rfl) (by kernel_rfl) (by kernel_rfl) (fun _ _ _ h => h) (.inl ⟨by rfl, ?ha23⟩) hS ?ra23
            case ha23 =>
              intro w' hs
              (try dsimp only at hs)
              go_split_ands
              go_simp
              try with_reducible rfl
            simp only [List.getElem_toArray, List.getElem_cons_succ, List.getElem_cons_zero, Act.put, List.setIfInBounds_toArray, List.set_cons_zero, List.set_cons_succ]
            refine wpAnyH_take (i := 4) (v := ?va24) rfl (by kernel_rfl) (by kernel_rfl) (by kernel_rfl) (fun _ _ _ h => h) (.inl ⟨by rfl, ?ha24⟩) hS ?ra24
            case ha24 =>
              intro w' hs
              (try dsimp only at hs)
              go_split_ands
              go_simp
              try with_reducible rfl
            simp only [List.getElem_toArray, List.getElem_cons_succ, List.getElem_cons_zero, Act.put, List.setIfInBounds_toArray, List.set_cons_zero, List.set_cons_succ]
            refine wpAnyH_take (i := 5) (v := ?va25) rfl (by kernel_rfl) (by kernel_rfl) (by kernel_rfl) (fun _ _ _ h => h) (.inl ⟨by rfl, ?ha25⟩) hS ?ra25
            case ha25 =>
              intro w' hs
              (try dsimp only at hs)
              go_split_ands
              go_simp
              try with_reducible rfl
            simp only [List.getElem_toArray, List.getElem_cons_succ, List.getElem_cons_zero, Act.put, List.setIfInBounds_toArray, List.set_cons_zero, List.set_cons_succ]
            refine wpAnyH_take (i := 6) (v := ?va26) rfl (by kernel_rfl) (by kernel_rfl) (by kernel_rfl) (fun _ _ _ h => h) (.inl ⟨by rfl, ?ha26⟩) hS ?ra26
            case ha26 =>
              intro w' hs
              (try dsimp only at hs)
              go_split_ands
              go_simp
              try with_reducible rfl
            simp only [List.getElem_toArray, List.getElem_cons_succ, List.getElem_cons_zero, Act.put, List.setIfInBounds_toArray, List.set_cons_zero, List.set_cons_succ]
            refine wpAnyH_ready (rs := [1, 7]) (by kernel_rfl) (by simp) (AllReadyH.cons rfl (fun K hK => ?_) (AllReadyH.cons rfl (fun K hK => ?_) AllReadyH.nil))
            · skip
              go_simp
              refine hK.out _ _ HSS.out.1 (fun hS => ?_)
              clear hK
              refine wpAnyH_ready (rs := [7]) (by kernel_rfl) (by simp) (AllReadyH.cons rfl (fun K hK => ?_) AllReadyH.nil)
              go_simp
              refine hK.out _ _ HSS.out.2.1 (fun hS => ?_)
              clear hK
              refine wpAnyH_ready (rs := [8]) (by kernel_rfl) (by simp) (AllReadyH.cons rfl (fun K hK => ?_) AllReadyH.nil)
              refine wp_append_run hrun rfl rfl rfl ?_
              refine hK.out _ _ HSS.out.2.2.1 (fun hS => ?_)
              clear hK
              refine wpAnyH_take (i := 9) (v := ?vb29) rfl (by kernel_rfl) (by kernel_rfl) (by kernel_rfl) (fun _ _ _ h => h) (.inl ⟨by rfl, ?hb29⟩) hS ?rb29
              case hb29 =>
                intro w' hs
                (try dsimp only at hs)
                go_split_ands
                go_simp
                try with_reducible rfl
              simp only [List.getElem_toArray, List.getElem_cons_succ, List.getElem_cons_zero, Act.put, List.setIfInBounds_toArray, List.set_cons_zero, List.set_cons_succ]
              refine wpAnyH_ready (rs := [10]) (by kernel_rfl) (by simp) (AllReadyH.cons rfl (fun K hK => ?_) AllReadyH.nil)
              go_simp
              refine hK.out _ _ HSS.out.2.2.2 (fun hS => ?_)
              clear hK
              refine wpAnyH_done (by kernel_rfl) ?_ _
              go_wp2_with fail
              go_roundg (n - (k + 1))
              case measure => omega
              case rel => exact ⟨k + 1, aI1, mI1, cI1, aa2, ma2, ca2, rfl, by go_num, by omega, by
                rw [HE1.out, HE2.out]; exact HT3.out⟩
            · skip
              go_simp
              refine hK.out _ _ HSS.out.2.1 (fun hS => ?_)
              clear hK
              refine wpAnyH_ready (rs := [1]) (by kernel_rfl) (by simp) (AllReadyH.cons rfl (fun K hK => ?_) AllReadyH.nil)
              go_simp
              refine hK.out _ _ HSS.out.2.1 (fun hS => ?_)
              clear hK
              refine wpAnyH_ready (rs := [8]) (by kernel_rfl) (by simp) (AllReadyH.cons rfl (fun K hK => ?_) AllReadyH.nil)
              refine wp_append_run hrun rfl rfl rfl ?_
              refine hK.out _ _ HSS.out.2.2.1 (fun hS => ?_)
              clear hK
              refine wpAnyH_take (i := 9) (v := ?vc29) rfl (by kernel_rfl) (by kernel_rfl) (by kernel_rfl) (fun _ _ _ h => h) (.inl ⟨by rfl, ?hc29⟩) hS ?rc29
              case hc29 =>
                intro w' hs
                (try dsimp only at hs)
                go_split_ands
                go_simp
                try with_reducible rfl
              simp only [List.getElem_toArray, List.getElem_cons_succ, List.getElem_cons_zero, Act.put, List.setIfInBounds_toArray, List.set_cons_zero, List.set_cons_succ]
              refine wpAnyH_ready (rs := [10]) (by kernel_rfl) (by simp) (AllReadyH.cons rfl (fun K hK => ?_) AllReadyH.nil)
              go_simp
              refine hK.out _ _ HSS.out.2.2.2 (fun hS => ?_)
              clear hK
              refine wpAnyH_done (by kernel_rfl) ?_ _
              go_wp2_with fail
              go_roundg (n - (k + 1))
              case measure => omega
              case rel => exact ⟨k + 1, aI1, mI1, cI1, aa2, ma2, ca2, rfl, by go_num, by omega, by
                rw [HE1.out, HE2.out]; exact HT3.out⟩
      · obtain rfl : k = n := by omega
        have hTf := HT1.out
        rw [List.take_of_length_le (by rw [HN1.out]; exact Nat.le_refl _), List.take_of_length_le (by rw [HN2.out]; exact Nat.le_refl _)] at hTf
        have HT7 := Lib.hid hTf
        have hr := HW.out.2.1
        rw [← hTf.low.block _ (lt_of_get hr)] at hr
        have y0 := cell_of hr 0 _ rfl
        have y1 := cell_of hr 1 _ rfl
        have y2 := cell_of hr 2 _ rfl
        have f0 := free_of hr 0
        have f1 := free_of hr 1
        have f2 := free_of hr 2
        have q0 := cell_of hTf.box 0 _ rfl
        have q1 := cell_of hTf.box 1 _ rfl
        have q2 := cell_of hTf.box 2 _ rfl
        clear hr hTf
        go_wp2_with fail
        refine bodyPost_ret (v := .tuple #[.agg #[.int .i64 p.bound, .slice aI mI cI, .slice aS mS cS], .int .i64 0]) (by simp [results, Try.results18, go_sem, y0, y1, y2]) rfl ?_
        unfold GivePost
        have hne : ∀ k, w1.heap.size + 1 ≤ k → k ≠ w.heap.size + 1 := fun k hk e => by have := lt_of_get HW.out.2.1; omega
        have hkeep : ∀ (k : Nat), w1.heap.size + 1 ≤ k → (((wr.setCell ⟨w.heap.size + 1, 0, none⟩ (.int .i64 p.bound)).setCell ⟨w.heap.size + 1, 1, none⟩ (.slice aI mI cI)).setCell ⟨w.heap.size + 1, 2, none⟩ (.slice aS mS cS)).heap[k]? = wr.heap[k]? := fun k hk => by
          rw [heap_setCell_other _ _ _ _ (hne k hk), heap_setCell_other _ _ _ _ (hne k hk), heap_setCell_other _ _ _ _ (hne k hk)]
        have hb : Below w.heap.size w (((wr.setCell ⟨w.heap.size + 1, 0, none⟩ (.int .i64 p.bound)).setCell ⟨w.heap.size + 1, 1, none⟩ (.slice aI mI cI)).setCell ⟨w.heap.size + 1, 2, none⟩ (.slice aS mS cS)) :=
          (((HW.out.2.2.trans (HT7.out.low.mono HW.out.2.2.size)).setCell (Nat.le_succ _) _).setCell (Nat.le_succ _) _).setCell (Nat.le_succ _) _
        have hz := HW.out.2.2.size
        have hfit : ∀ l : List Int, l.length ≤ 200000 → Len l.length := fun l h => by unfold Len; omega
        have hl1 : (p.ids.eraseIdx m).length ≤ 200000 := by have := HF.out; have := HN1.out; rw [List.length_eraseIdx]; split <;> omega
        have hl2 : (p.sizes.eraseIdx m).length ≤ 200000 := by have := HF.out; have := HN2.out; rw [List.length_eraseIdx]; split <;> omega
        have k1 : LstP (w1.heap.size + 1 ≤ ·) wr (.slice aI mI cI) (ints (p.ids.eraseIdx m)) := LstP.own HT7.out.oi (hfit _ hl1)
        have k2 : LstP (w1.heap.size + 1 ≤ ·) wr (.slice aS mS cS) (ints (p.sizes.eraseIdx m)) := LstP.own HT7.out.os (hfit _ hl2)
        have k3 := (k1.keep (fun k hk _ => hkeep k hk) (by simp)).mono (P' := fun k => P k ∨ w.heap.size ≤ k) (fun k _ h => .inr (by omega))
        have k4 := (k2.keep (fun k hk _ => hkeep k hk) (by simp)).mono (P' := fun k => P k ∨ w.heap.size ≤ k) (fun k _ h => .inr (by omega))
        exact ⟨_, ret_ae rfl (by rw [HT.out]), by rw [HT.out]; exact ⟨_, _, rfl, k3, k4⟩, hb⟩
end Go.Proofs.Ytpfhaafaoedgpaa.Pl
