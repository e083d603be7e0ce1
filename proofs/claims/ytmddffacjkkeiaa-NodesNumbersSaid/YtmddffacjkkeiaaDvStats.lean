/-
  Layer 5: stats: a syntax of a block of some nodes.
-/
import Derived.Test.YtmddffacjkkeiaaDvReturned
import Derived.Deep.RegionHeld3
import Derived.Test.YtmddffacjkkeiaaRfRound
namespace Go.Proofs.Ytmddffacjkkeiaa.Nd
open Go Go.RowKit Go.ChangeShapes Go.WideShapes Go.Shelf
open Go.Proofs.Ytmddffacjkkeiaa.Rf

theorem cellB {A C : World} {n b j : Nat} {v : Value} (h : Below n A C) (hb : b < n) (hc : A.cell? ⟨b, j, none⟩ = some v) : C.cell? ⟨b, j, none⟩ = some v := (h.cell (p := ⟨b, j, none⟩) hb).trans hc
def line1 (n : Nd) : Nd := { n with line := 1 }
def statRaw (d k : Nat) (l : List Nd) : List Nd := l ++ [⟨1, 0, ⟨#[]⟩, [], (List.range k).map (fun i : Nat => (d : Int) + (i : Int)), 1⟩, ⟨26, 1, ⟨#[]⟩, [], [(l.length : Int)], 1⟩]
def statL (k : Nat) (l : List Nd) : List Nd := (statRaw (l.length - k) k l).map line1
/-- Behind stats' region. -/
def StatEnd (w wx : World) (S B n d j : Nat) (rs : List R3) : Prop := ∃ g9 c9, wx.heap[S]? = some (.cells #[.slice (some ⟨g9, 0, none⟩) (n + 2) c9, .int .i64 ((n : Int) + 1)] 24 (0, 0)) ∧ OwnSyn wx (.slice (some ⟨g9, 0, none⟩) (n + 2) c9) (statRaw d j (rs.map (·.1))) ∧ S < g9 ∧ wx.heap[B]? = some (.cells #[.slice none 0 0, .int .i64 0] 24 (0, 0)) ∧ Below w.heap.size w wx
abbrev NB (u : Value) : Array Value := #[.int .u8 1, .int .i64 0, .string ⟨#[]⟩, .slice none 0 0, u, .int .i64 1]

set_option maxRecDepth 100000 in
set_option maxHeartbeats 4000000 in
theorem stats_fn (k g c n d : Nat) (rs : List R3) (w : World) (hO : OwnNd w 0 (.slice (some ⟨g, 0, none⟩) n c) rs) (hn : rs.length = n) (hk : d + k = n) (hk0 : 0 < k) (hn9 : n ≤ 1000) :
    Calls Try.prog 24 #[.int .i64 (k : Int), .slice (some ⟨g, 0, none⟩) n c] w fun e w' => ∃ g' c', e = .returned (.agg #[.slice (some ⟨g', 0, none⟩) (n + 2) c', .int .i64 ((n : Int) + 1)]) ∧ OwnSyn w' (.slice (some ⟨g', 0, none⟩) (n + 2) c') ((statRaw d k (rs.map (·.1))).map line1) ∧ Below w.heap.size w w' := by
  have HO := Lib.hid hO
  have HN := Lib.hid hn
  have h0 := hO.1
  rw [hn] at h0
  obtain ⟨_, _, _, cur, hcur, hat⟩ := own_at h0
  have HCUR := Lib.hid hcur
  have HAT := Lib.hid hat
  clear hO hn h0 hcur hat
  obtain ⟨B, hB⟩ : ∃ B, w.heap.size = B := ⟨_, rfl⟩
  have w1 : IntKind.i64.wrap ((n : Int) - (k : Int)) = (d : Int) := by rw [show (n : Int) - (k : Int) = (d : Int) by omega]; exact IntWalk.i64_in _ (by omega)
  have w2 : IntKind.i64.wrap ((n : Int) + 1) = (n : Int) + 1 := IntWalk.i64_in _ (by omega)
  have hb0 : Below w.heap.size w ((w.alloc (.cells #[.slice none 0 0, .int .i64 0] 24)).alloc (.cells (NB (.slice none 0 0)) 30)) := ((Below.refl _ _).alloc (Nat.le_refl _) _).alloc (by simp) _
  have hz : ((w.alloc (.cells #[.slice none 0 0, .int .i64 0] 24)).alloc (.cells (NB (.slice none 0 0)) 30)).heap[B]? = some (.cells #[.slice none 0 0, .int .i64 0] 24 (0, 0)) := by rw [← hB]; exact miss (hit rfl)
  have hx : ((w.alloc (.cells #[.slice none 0 0, .int .i64 0] 24)).alloc (.cells (NB (.slice none 0 0)) 30)).heap[B + 1]? = some (.cells (NB (.slice none 0 0)) 30 (0, 0)) := by rw [← hB]; exact hit (by simp)
  have HSTART := Lib.hid (show ((w.alloc (.cells #[.slice none 0 0, .int .i64 0] 24)).alloc (.cells (NB (.slice none 0 0)) 30)).heap[B + 1]? = some (.cells (NB (.slice none 0 0)) 30 (0, 0)) ∧ ((w.alloc (.cells #[.slice none 0 0, .int .i64 0] 24)).alloc (.cells (NB (.slice none 0 0)) 30)).ownsRow (B + 2) 3 1 (.slice none 0 0) 0 ((List.range 0).map fun i : Nat => Value.int .i64 ((d : Int) + (i : Int))) ∧ ((w.alloc (.cells #[.slice none 0 0, .int .i64 0] 24)).alloc (.cells (NB (.slice none 0 0)) 30)).heap[B]? = some (.cells #[.slice none 0 0, .int .i64 0] 24 (0, 0)) ∧ Below w.heap.size w ((w.alloc (.cells #[.slice none 0 0, .int .i64 0] 24)).alloc (.cells (NB (.slice none 0 0)) 30)) from ⟨hx, World.ownsRow_nil _ _ _ _, hz, hb0⟩)
  have HB := Lib.hid hB
  clear hb0 hz hx
  go_enter Try.func24, Try.ntmps24
  go_wp2_with fail
  go_loopg [7] k (fun r i wr => ∃ (j : Nat) (u : Value), r = k - j ∧ i = .int .i64 ((d : Int) + (j : Int)) ∧ j ≤ k ∧ wr.heap[B + 1]? = some (.cells (NB u) 30 (0, 0)) ∧ wr.ownsRow (B + 2) 3 1 u j ((List.range j).map fun i : Nat => Value.int .i64 ((d : Int) + (i : Int))) ∧ wr.heap[B]? = some (.cells #[.slice none 0 0, .int .i64 0] 24 (0, 0)) ∧ Below w.heap.size w wr)
  case atStart => exact ⟨0, .slice none 0 0, rfl, by rw [Int.natCast_zero, Int.add_zero], Nat.zero_le _, HSTART.out⟩
  case round =>
    clear HSTART
    obtain ⟨j, u, rfl, rfl, hj, hx, hrow, hz, hb⟩ := hrel
    have hsz := lt_of_heap hx
    have x4 := cell_of hx 4 u rfl
    have xf := free_of hx 4
    by_cases hlt : j < k
    · have hlt' : (d : Int) + (j : Int) < n := by omega
      have jw : IntKind.i64.wrap ((d : Int) + (j : Int) + 1) = (d : Int) + ((j + 1 : Nat) : Int) := by rw [show (d : Int) + (j : Int) + 1 = (d : Int) + ((j + 1 : Nat) : Int) by omega]; exact IntWalk.i64_in _ (by omega)
      obtain ⟨au, cu, rfl⟩ := own_slice hrow
      have HX := Lib.hid hx
      have HROW := Lib.hid hrow
      have HZ := Lib.hid hz
      have HBE := Lib.hid hb
      clear hx hrow hz hb
      go_wp2_with (at_builtin; refine wpList_append_one rfl (.tmp 22) (.tmp 24) 28 rfl (B + 2) 3 (.int .i64 0) 8 Try.underlying28 infoInt rfl (.slice au j cu) j _ rfl HROW.out (.int .i64 ((d : Int) + (j : Int))) rfl rfl ?z1 ?z2 ?z3 ?_)
      case z1 => unfold maxLen; omega
      case z2 => omega
      case z3 => omega
      intro v' w' ho hg
      obtain ⟨gn, cn', rfl⟩ := ownsRow_succ ho
      have hbe := below_appended HROW.out hg (by omega)
      have hx1 := (hbe.block (B + 1) (by omega)).trans HX.out
      have hz1 := (hbe.block B (by omega)).trans HZ.out
      have hx2 := Joins.block_setCell (i := 4) hx1 (.slice (some ⟨gn, 0, none⟩) (j + 1) cn')
      have y4 := cell_of hx1 4 (.slice au j cu) rfl
      have yf := free_of hx1 4
      have HNEW := Lib.hid (show (w'.setCell ⟨B + 1, 4, none⟩ (.slice (some ⟨gn, 0, none⟩) (j + 1) cn')).heap[B + 1]? = some (.cells (NB (.slice (some ⟨gn, 0, none⟩) (j + 1) cn')) 30 (0, 0)) ∧ (w'.setCell ⟨B + 1, 4, none⟩ (.slice (some ⟨gn, 0, none⟩) (j + 1) cn')).ownsRow (B + 2) 3 1 (.slice (some ⟨gn, 0, none⟩) (j + 1) cn') (j + 1) ((List.range (j + 1)).map fun i : Nat => Value.int .i64 ((d : Int) + (i : Int))) ∧ (w'.setCell ⟨B + 1, 4, none⟩ (.slice (some ⟨gn, 0, none⟩) (j + 1) cn')).heap[B]? = some (.cells #[.slice none 0 0, .int .i64 0] 24 (0, 0)) ∧ Below w.heap.size w (w'.setCell ⟨B + 1, 4, none⟩ (.slice (some ⟨gn, 0, none⟩) (j + 1) cn')) from
        ⟨hx2, by rw [List.range_succ, List.map_append]; exact own_other ho hx1 (by decide), (Below.heap_setCell _ _ _ _ (by show B ≠ B + 1; omega)).trans hz1, (HBE.out.trans (hbe.mono (by rw [HB.out]; omega))).setCell (p := ⟨B + 1, 4, none⟩) (by rw [HB.out]; show B ≤ B + 1; omega) _⟩)
      clear ho hg hbe hx1 hz1 hx2 x4 xf
      go_wp2_with fail
      go_roundg (k - (j + 1))
      case measure => omega
      case rel => exact ⟨j + 1, _, rfl, by first | rfl | (rw [jw]) | simp [jw], by omega, HNEW.out⟩
    · obtain rfl : j = k := by omega
      have hlt' : ¬ (d : Int) + (j : Int) < n := by omega
      obtain ⟨gb, cb, hub⟩ := own_ne hrow (by omega)
      subst hub
      have HROW := Lib.hid hrow
      have HZZ := Lib.hid hz
      have HBE := Lib.hid hb
      obtain ⟨S, hS⟩ : ∃ S, wr.heap.size = S := ⟨_, rfl⟩
      have hal : Below wr.heap.size wr (wr.alloc (.cells #[.slice none 0 0, .int .i64 ((n : Int) + 1)] 24)) := (Below.refl _ _).alloc (Nat.le_refl _) _
      have hxs : (wr.alloc (.cells #[.slice none 0 0, .int .i64 ((n : Int) + 1)] 24)).heap[S]? = some (.cells #[.slice none 0 0, .int .i64 ((n : Int) + 1)] 24 (0, 0)) := hit hS.symm
      have hx2 := (hal.block _ (lt_of_heap hx)).trans hx
      have hz2 := (hal.block _ (lt_of_heap hz)).trans hz
      have hrow2 := own_below5 hrow hal
      have hb2 := hb.trans (hal.mono hb.size)
      have hZs : (wr.alloc (.cells #[.slice none 0 0, .int .i64 ((n : Int) + 1)] 24)).heap.size = S + 1 := by rw [← hS]; simp
      clear hrow hz hb hx hal x4 xf HZZ HBE HROW
      go_upto_region 8 with fail
      obtain ⟨W, hW⟩ : ∃ W, wr.alloc (.cells #[.slice none 0 0, .int .i64 ((n : Int) + 1)] 24) = W := ⟨_, rfl⟩
      rw [hW] at hxs hx2 hz2 hrow2 hb2 hZs ⊢
      clear hW
      have hgw : g < w.heap.size := lt_of_heap HCUR.out
      have HROW := Lib.hid hrow2
      have HZZ := Lib.hid hz2
      have HBE := Lib.hid hb2
      have HXS := Lib.hid hxs
      have HSUBS := Lib.hid (show ∀ r ∈ rs, Sub W r from fun r hr => (HO.out.2 r hr).below hb2)
      have HCELLS := Lib.hid (show ∀ (j : Nat) (u : Value), (rowCells rs)[j]? = some u → W.cell? ⟨g, j, none⟩ = some u from fun j u hj => (hb2.cell (p := ⟨g, j, none⟩) hgw).trans (cell_of HCUR.out j u (HAT.out j u hj)))
      obtain ⟨Z, hZ⟩ : ∃ Z, W.heap.size = Z := ⟨_, rfl⟩
      have HZS := Lib.hid hZ
      have HGL := Lib.hid (show g < W.heap.size from by have := hb2.size; omega)
      have HSZ := Lib.hid (show Z = S + 1 ∧ B + 1 < S ∧ w.heap.size = B from ⟨by omega, by have := lt_of_heap hx2; omega, HB.out⟩)
      have HX2 := Lib.hid hx2
      have m0 := cell_of hxs 0 (.slice none 0 0) rfl
      have b0 := cell_of hx2 0 (.int .u8 1) rfl
      have b1 := cell_of hx2 1 (.int .i64 0) rfl
      have b2 := cell_of hx2 2 (.string ⟨#[]⟩) rfl
      have b3 := cell_of hx2 3 (.slice none 0 0) rfl
      have b4 := cell_of hx2 4 (.slice (some ⟨gb, 0, none⟩) j cb) rfl
      have b5 := cell_of hx2 5 (.int .i64 1) rfl
      have hBS : B + 1 < S := HSZ.out.2.1
      have hmx : Try.prog.follows .mixedOrders = true := by kernel_rfl
      clear hxs hx2 hz2 hrow2 hb2 hZs hgw hS
      go_cut [] (fun wx => StatEnd w wx S B n d j rs)
      case first =>
        have hB : Below Z W W.drew := (Below.refl _ _).drew
        refine wp_region_noPanic (wp_region_held_drew (S := fun W' => Below S W W') hmx (Below.refl _ _).drew (fun hS => ?_))
        obtain ⟨V0, hV0⟩ : ∃ V0, W.drew = V0 := ⟨_, rfl⟩
        rw [hV0] at hB hS ⊢
        clear hV0
        refine wpAnyH_take (i := 0) (v := .pointer (some ⟨S, 0, none⟩)) rfl (by kernel_rfl) (by kernel_rfl) (by kernel_rfl) (fun _ _ _ h => h) (.inl ⟨by rfl, fun w' hs => ?_⟩) hS ?_
        · clear hs
          go_simp
        simp only [List.getElem_toArray, List.getElem_cons_zero, Act.put, List.setIfInBounds_toArray, List.set_cons_zero, List.set_cons_succ]
        refine wpAnyH_take (i := 2) (v := .slice (some ⟨g, 0, none⟩) n c) rfl (by kernel_rfl) (by kernel_rfl) (by kernel_rfl) (fun _ _ _ h => h) (.inl ⟨by rfl, fun w' hs => ?_⟩) hS ?_
        · clear hs
          go_simp
        simp only [List.getElem_toArray, List.getElem_cons_succ, List.getElem_cons_zero, Act.put, List.setIfInBounds_toArray, List.set_cons_zero, List.set_cons_succ]
        refine wpAnyH_take (i := 4) (v := .agg #[.int .u8 1, .int .i64 0, .string ⟨#[]⟩, .slice none 0 0, .slice (some ⟨gb, 0, none⟩) j cb, .int .i64 1]) rfl (by kernel_rfl) (by kernel_rfl) (by kernel_rfl) (fun _ _ _ h => h) (.inl ⟨by rfl, fun w' hs => ?_⟩) hS ?_
        · have x0 := cellB hs hBS b0
          have x1 := cellB hs hBS b1
          have x2 := cellB hs hBS b2
          have x3 := cellB hs hBS b3
          have x4 := cellB hs hBS b4
          have x5 := cellB hs hBS b5
          clear hs
          go_simp
        simp only [List.getElem_toArray, List.getElem_cons_succ, List.getElem_cons_zero, Act.put, List.setIfInBounds_toArray, List.set_cons_zero, List.set_cons_succ]
        refine wpAnyH_take (i := 5) (v := .int .i64 (n : Int)) rfl (by kernel_rfl) (by kernel_rfl) (by kernel_rfl) (fun _ _ _ h => h) (.inl ⟨by rfl, fun w' hs => ?_⟩) hS ?_
        · clear hs
          go_simp
        simp only [List.getElem_toArray, List.getElem_cons_succ, List.getElem_cons_zero, Act.put, List.setIfInBounds_toArray, List.set_cons_zero, List.set_cons_succ]
        refine wpAnyH_ready (rs := [1, 6]) (by kernel_rfl) (by simp) (AllReadyH.cons rfl (fun K hK => ?_) (AllReadyH.cons rfl (fun K hK => ?_) AllReadyH.nil))
        · skip
          have m1 := (hB.cell (p := ⟨S, 0, none⟩) (by have := HSZ.out; show S < Z; omega)).trans m0
          go_simp
          refine hK.out _ _ hS (fun hS => ?_)
          clear hK m1
          refine wpAnyH_ready (rs := [3, 6]) (by kernel_rfl) (by simp) (AllReadyH.cons rfl (fun K hK => ?_) (AllReadyH.cons rfl (fun K hK => ?_) AllReadyH.nil))
          · skip
            obtain ⟨v33, V2, hrun, ho, hbn, hgn⟩ := own_append_rows (w := V0) (base := Z) (v := .slice none 0 0) (rs := []) (qs := rs) ⟨World.ownsRow_nil _ _ _ _, fun r h => by cases h⟩ (fun r hr => (HSUBS.out r hr).below (by rw [HZS.out]; exact hB)) g 0 c (fun j u hj => by
              rw [Nat.zero_add]
              exact (hB.cell (p := ⟨g, j, none⟩) (by rw [← HZS.out]; exact HGL.out)).trans (HCELLS.out j u hj)) (by have := HN.out; simp; omega) (by have := hB.size; have := HZS.out; omega)
            obtain ⟨g3, c3, rfl⟩ := own_ne ho.1 (by have := HN.out; simp; omega)
            have hbg : Below V0.heap.size V0 V2 := (Below.refl _ _).grown hgn (Nat.le_refl _) (fun q hq => by cases hq)
            have hrun2 : (Builtin.append_ #[22, 22] 22 #[.slice none 0 0, .slice (some ⟨g, 0, none⟩) n c]).run Try.prog V0 = .ok (.slice (some ⟨g3, 0, none⟩) n c3) V2 := by
              have h9 := hrun
              rw [List.nil_append, HN.out] at h9
              exact h9
            have ho : OwnNd V2 Z (.slice (some ⟨g3, 0, none⟩) n c3) rs := by
              have h9 := ho
              rw [List.nil_append, HN.out] at h9
              exact h9
            have HRUN := Lib.hid hrun2
            have hB : Below Z W V2 := hB.trans hbn
            clear hrun hrun2 hgn hbn
            clear hbg
            refine ready_value (by rfl) (w' := V2) (v := .slice (some ⟨g3, 0, none⟩) n c3) (by simp [execOp, resolve, invoke, builtin, HRUN.out, Result.andThen, Act.eval]) ?_
            refine hK.out _ _ (hB.mono (by have := HSZ.out; omega)) (fun hS => ?_)
            clear hK HRUN
            simp only [List.getElem_toArray, List.getElem_cons_succ, List.getElem_cons_zero, Act.put, List.setIfInBounds_toArray, List.set_cons_zero, List.set_cons_succ]
            refine wpAnyH_ready (rs := [6]) (by kernel_rfl) (by simp) (AllReadyH.cons rfl (fun K hK => ?_) AllReadyH.nil)
            obtain ⟨F1, hF1⟩ : ∃ F, V2.heap.size = F := ⟨_, rfl⟩
            obtain ⟨V3, hV3⟩ : ∃ V, V2.alloc (.cells #[.int .i64 (n : Int)] 3) = V := ⟨_, rfl⟩
            have hbn : Below V2.heap.size V2 V3 := by rw [← hV3]; exact (Below.refl _ _).alloc (Nat.le_refl _) _
            have hB2 : Below Z W V3 := hB.trans (hbn.mono (by have := hB.size; have := HZS.out; omega))
            have k6 : V3.heap[F1]? = some (.cells #[.int .i64 (n : Int)] 3 (0, 0)) := by rw [← hV3]; exact hit hF1.symm
            go_simp
            first | rw [hF1, hV3] | rw [hV3] | skip
            refine hK.out _ _ (hB2.mono (by have := HSZ.out; omega)) (fun hS => ?_)
            clear hK hB
            have hB := hB2
            have ho := ho.below hbn
            clear hbn hB2 hV3 hF1
            refine wpAnyH_take (i := 7) (v := .agg #[.int .u8 26, .int .i64 1, .string ⟨#[]⟩, .slice none 0 0, .slice (some ⟨F1, 0, none⟩) 1 1, .int .i64 1]) rfl (by kernel_rfl) (by kernel_rfl) (by kernel_rfl) (fun _ _ _ h => h) (.inl ⟨by rfl, fun w' hs => ?_⟩) hS ?_
            · clear hs
              go_simp
            simp only [List.getElem_toArray, List.getElem_cons_succ, List.getElem_cons_zero, Act.put, List.setIfInBounds_toArray, List.set_cons_zero, List.set_cons_succ]
            refine wpAnyH_ready (rs := [8]) (by kernel_rfl) (by simp) (AllReadyH.cons rfl (fun K hK => ?_) AllReadyH.nil)
            obtain ⟨F2, hF2⟩ : ∃ F, V3.heap.size = F := ⟨_, rfl⟩
            obtain ⟨V4, hV4⟩ : ∃ V, V3.alloc (.cells #[.int .u8 1, .int .i64 0, .string ⟨#[]⟩, .slice none 0 0, .slice (some ⟨gb, 0, none⟩) j cb, .int .i64 1, .int .u8 26, .int .i64 1, .string ⟨#[]⟩, .slice none 0 0, .slice (some ⟨F1, 0, none⟩) 1 1, .int .i64 1] 30) = V := ⟨_, rfl⟩
            have hbn : Below V3.heap.size V3 V4 := by rw [← hV4]; exact (Below.refl _ _).alloc (Nat.le_refl _) _
            have hB2 : Below Z W V4 := hB.trans (hbn.mono (by have := hB.size; have := HZS.out; omega))
            have k8 : V4.heap[F2]? = some (.cells #[.int .u8 1, .int .i64 0, .string ⟨#[]⟩, .slice none 0 0, .slice (some ⟨gb, 0, none⟩) j cb, .int .i64 1, .int .u8 26, .int .i64 1, .string ⟨#[]⟩, .slice none 0 0, .slice (some ⟨F1, 0, none⟩) 1 1, .int .i64 1] 30 (0, 0)) := by rw [← hV4]; exact hit hF2.symm
            go_simp
            first | rw [hF2, hV4] | rw [hV4] | skip
            refine hK.out _ _ (hB2.mono (by have := HSZ.out; omega)) (fun hS => ?_)
            clear hK hB
            have hB := hB2
            have k6 := (hbn.block _ (lt_of_heap k6)).trans k6
            have ho := ho.below hbn
            clear hbn hB2 hV4 hF2
            obtain ⟨qs, hqs⟩ : ∃ qs : List R3, [((⟨1, 0, ⟨#[]⟩, [], (List.range j).map (fun i : Nat => (d : Int) + (i : Int)), 1⟩ : Nd), Value.slice none 0 0, Value.slice (some ⟨gb, 0, none⟩) j cb), ((⟨26, 1, ⟨#[]⟩, [], [(n : Int)], 1⟩ : Nd), Value.slice none 0 0, Value.slice (some ⟨F1, 0, none⟩) 1 1)] = qs := ⟨_, rfl⟩
            have hkb : Sub V4 ((⟨1, 0, ⟨#[]⟩, [], (List.range j).map (fun i : Nat => (d : Int) + (i : Int)), 1⟩ : Nd), Value.slice none 0 0, Value.slice (some ⟨gb, 0, none⟩) j cb) := ⟨nilRow, by
              have h9 := own_below5 HROW.out (hB.mono (by have := HZS.out; omega))
              dsimp only
              rw [List.length_map, List.length_range, List.map_map]
              exact ownsRow_base h9 (Nat.zero_le _)⟩
            have hq2 : qs.length = 2 := by rw [← hqs]; rfl
            obtain ⟨v39, w9, hrun, ho9, hb9, hg9⟩ := own_append_rows (w := V4) (base := Z) (v := .slice (some ⟨g3, 0, none⟩) n c3) (rs := rs) (qs := qs) ho (fun r hr => by
              rw [← hqs] at hr
              simp only [List.mem_cons, List.not_mem_nil, or_false] at hr
              rcases hr with rfl | rfl
              · exact hkb
              · exact ⟨nilRow, own_lit (Nat.zero_le _) k6 rfl (show 1 ≤ maxLen from by unfold maxLen; omega)⟩) F2 0 2 (fun j u hj => by
              rw [Nat.zero_add]
              exact cells_lit (rs := qs) k8 (by rw [← hqs]; rfl) j u hj) (by have := HN.out; omega) (by have := hB.size; have := HZS.out; omega)
            obtain ⟨g9, c9, rfl⟩ := own_ne ho9.1 (by rw [List.length_append, hq2]; omega)
            have hlen : (rs ++ qs).length = n + 2 := by rw [List.length_append, hq2, HN.out]
            have hrun2 : (Builtin.append_ #[22, 22] 22 #[.slice (some ⟨g3, 0, none⟩) n c3, .slice (some ⟨F2, 0, none⟩) 2 2]).run Try.prog V4 = .ok (.slice (some ⟨g9, 0, none⟩) (n + 2) c9) w9 := by
              have h9 := hrun
              rw [hlen, hq2] at h9
              exact h9
            rw [hlen] at ho9
            have hB9 : Below Z W w9 := hB.trans hb9
            have hx9 := (hB9.block S (by have := HSZ.out; omega)).trans HXS.out
            have hend : StatEnd w (w9.setCell ⟨S, 0, none⟩ (.slice (some ⟨g9, 0, none⟩) (n + 2) c9)) S B n d j rs := ⟨g9, c9, Joins.block_setCell (i := 0) hx9 _, ⟨rs ++ qs, ⟨own_other (ownsRow_base ho9.1 (Nat.zero_le _)) hx9 (by decide), fun r hr => (ho9.2 r hr).set hx9 (by decide) (by decide)⟩, by
              rw [List.map_append, ← hqs]
              unfold statRaw
              rw [List.length_map, HN.out]
              rfl⟩, by
              have h8 := ho9.1
              rw [hlen] at h8
              obtain ⟨_, h9, _⟩ := own_at h8
              have := HSZ.out
              omega, (Below.heap_setCell _ _ _ _ (by have := HSZ.out; show B ≠ S; omega)).trans ((hB9.block B (by have := HSZ.out; omega)).trans HZZ.out), (HBE.out.trans (hB9.mono (by have := HSZ.out; omega))).setCell (p := ⟨S, 0, none⟩) (by have := HSZ.out; show w.heap.size ≤ S; omega) _⟩
            have HEND := Lib.hid hend
            have HRUN := Lib.hid hrun2
            have HBS := Lib.hid (show Below S W w9 ∧ Below S W (w9.setCell ⟨S, 0, none⟩ (.slice (some ⟨g9, 0, none⟩) (n + 2) c9)) from ⟨hB9.mono (by have := HSZ.out; omega), (show Below S W w9 from hB9.mono (by have := HSZ.out; omega)).setCell (p := ⟨S, 0, none⟩) (Nat.le_refl _) _⟩)
            have y0 := cell_of hx9 0 (.slice none 0 0) rfl
            have yf := free_of hx9 0
            clear hend hrun hrun2 hqs hkb hq2 ho9 hb9 hg9 hlen hB9 hx9 ho k6 k8 hB
            refine wpAnyH_ready (rs := [9]) (by kernel_rfl) (by simp) (AllReadyH.cons rfl (fun K hK => ?_) AllReadyH.nil)
            refine ready_value (by rfl) (w' := w9) (v := .slice (some ⟨g9, 0, none⟩) (n + 2) c9) (by simp [execOp, resolve, invoke, builtin, HRUN.out, Result.andThen, Act.eval]) ?_
            refine hK.out _ _ HBS.out.1 (fun hS => ?_)
            clear hK HRUN
            simp only [List.getElem_toArray, List.getElem_cons_succ, List.getElem_cons_zero, Act.put, List.setIfInBounds_toArray, List.set_cons_zero, List.set_cons_succ]
            refine wpAnyH_take (i := 10) (v := .pointer (some ⟨S, 0, none⟩)) rfl (by kernel_rfl) (by kernel_rfl) (by kernel_rfl) (fun _ _ _ h => h) (.inl ⟨by rfl, fun w' hs => ?_⟩) hS ?_
            · clear hs
              go_simp
            simp only [List.getElem_toArray, List.getElem_cons_succ, List.getElem_cons_zero, Act.put, List.setIfInBounds_toArray, List.set_cons_zero, List.set_cons_succ]
            refine wpAnyH_ready (rs := [11]) (by kernel_rfl) (by simp) (AllReadyH.cons rfl (fun K hK => ?_) AllReadyH.nil)
            go_simp
            refine hK.out _ _ HBS.out.2 (fun hS => ?_)
            clear hK
            refine wpAnyH_done (by kernel_rfl) (NoPanic.normal ?_) _
            go_wp2_with fail
            go_meet
            exact HEND.out
          · skip
            obtain ⟨F1, hF1⟩ : ∃ F, V0.heap.size = F := ⟨_, rfl⟩
            obtain ⟨V5, hV5⟩ : ∃ V, V0.alloc (.cells #[.int .i64 (n : Int)] 3) = V := ⟨_, rfl⟩
            have hbn : Below V0.heap.size V0 V5 := by rw [← hV5]; exact (Below.refl _ _).alloc (Nat.le_refl _) _
            have hB2 : Below Z W V5 := hB.trans (hbn.mono (by have := hB.size; have := HZS.out; omega))
            have k6 : V5.heap[F1]? = some (.cells #[.int .i64 (n : Int)] 3 (0, 0)) := by rw [← hV5]; exact hit hF1.symm
            go_simp
            first | rw [hF1, hV5] | rw [hV5] | skip
            refine hK.out _ _ (hB2.mono (by have := HSZ.out; omega)) (fun hS => ?_)
            clear hK hB
            have hB := hB2
            clear hbn hB2 hV5 hF1
            refine wpAnyH_take (i := 7) (v := .agg #[.int .u8 26, .int .i64 1, .string ⟨#[]⟩, .slice none 0 0, .slice (some ⟨F1, 0, none⟩) 1 1, .int .i64 1]) rfl (by kernel_rfl) (by kernel_rfl) (by kernel_rfl) (fun _ _ _ h => h) (.inl ⟨by rfl, fun w' hs => ?_⟩) hS ?_
            · clear hs
              go_simp
            simp only [List.getElem_toArray, List.getElem_cons_succ, List.getElem_cons_zero, Act.put, List.setIfInBounds_toArray, List.set_cons_zero, List.set_cons_succ]
            refine wpAnyH_ready (rs := [3, 8]) (by kernel_rfl) (by simp) (AllReadyH.cons rfl (fun K hK => ?_) (AllReadyH.cons rfl (fun K hK => ?_) AllReadyH.nil))
            · skip
              obtain ⟨v33, V6, hrun, ho, hbn, hgn⟩ := own_append_rows (w := V5) (base := Z) (v := .slice none 0 0) (rs := []) (qs := rs) ⟨World.ownsRow_nil _ _ _ _, fun r h => by cases h⟩ (fun r hr => (HSUBS.out r hr).below (by rw [HZS.out]; exact hB)) g 0 c (fun j u hj => by
                rw [Nat.zero_add]
                exact (hB.cell (p := ⟨g, j, none⟩) (by rw [← HZS.out]; exact HGL.out)).trans (HCELLS.out j u hj)) (by have := HN.out; simp; omega) (by have := hB.size; have := HZS.out; omega)
              obtain ⟨g3, c3, rfl⟩ := own_ne ho.1 (by have := HN.out; simp; omega)
              have hbg : Below V5.heap.size V5 V6 := (Below.refl _ _).grown hgn (Nat.le_refl _) (fun q hq => by cases hq)
              have hrun2 : (Builtin.append_ #[22, 22] 22 #[.slice none 0 0, .slice (some ⟨g, 0, none⟩) n c]).run Try.prog V5 = .ok (.slice (some ⟨g3, 0, none⟩) n c3) V6 := by
                have h9 := hrun
                rw [List.nil_append, HN.out] at h9
                exact h9
              have ho : OwnNd V6 Z (.slice (some ⟨g3, 0, none⟩) n c3) rs := by
                have h9 := ho
                rw [List.nil_append, HN.out] at h9
                exact h9
              have HRUN := Lib.hid hrun2
              have hB : Below Z W V6 := hB.trans hbn
              clear hrun hrun2 hgn hbn
              have k6 := (hbg.block _ (lt_of_heap k6)).trans k6
              clear hbg
              refine ready_value (by rfl) (w' := V6) (v := .slice (some ⟨g3, 0, none⟩) n c3) (by simp [execOp, resolve, invoke, builtin, HRUN.out, Result.andThen, Act.eval]) ?_
              refine hK.out _ _ (hB.mono (by have := HSZ.out; omega)) (fun hS => ?_)
              clear hK HRUN
              simp only [List.getElem_toArray, List.getElem_cons_succ, List.getElem_cons_zero, Act.put, List.setIfInBounds_toArray, List.set_cons_zero, List.set_cons_succ]
              refine wpAnyH_ready (rs := [8]) (by kernel_rfl) (by simp) (AllReadyH.cons rfl (fun K hK => ?_) AllReadyH.nil)
              obtain ⟨F2, hF2⟩ : ∃ F, V6.heap.size = F := ⟨_, rfl⟩
              obtain ⟨V7, hV7⟩ : ∃ V, V6.alloc (.cells #[.int .u8 1, .int .i64 0, .string ⟨#[]⟩, .slice none 0 0, .slice (some ⟨gb, 0, none⟩) j cb, .int .i64 1, .int .u8 26, .int .i64 1, .string ⟨#[]⟩, .slice none 0 0, .slice (some ⟨F1, 0, none⟩) 1 1, .int .i64 1] 30) = V := ⟨_, rfl⟩
              have hbn : Below V6.heap.size V6 V7 := by rw [← hV7]; exact (Below.refl _ _).alloc (Nat.le_refl _) _
              have hB2 : Below Z W V7 := hB.trans (hbn.mono (by have := hB.size; have := HZS.out; omega))
              have k8 : V7.heap[F2]? = some (.cells #[.int .u8 1, .int .i64 0, .string ⟨#[]⟩, .slice none 0 0, .slice (some ⟨gb, 0, none⟩) j cb, .int .i64 1, .int .u8 26, .int .i64 1, .string ⟨#[]⟩, .slice none 0 0, .slice (some ⟨F1, 0, none⟩) 1 1, .int .i64 1] 30 (0, 0)) := by rw [← hV7]; exact hit hF2.symm
              go_simp
              first | rw [hF2, hV7] | rw [hV7] | skip
              refine hK.out _ _ (hB2.mono (by have := HSZ.out; omega)) (fun hS => ?_)
              clear hK hB
              have hB := hB2
              have k6 := (hbn.block _ (lt_of_heap k6)).trans k6
              have ho := ho.below hbn
              clear hbn hB2 hV7 hF2
              obtain ⟨qs, hqs⟩ : ∃ qs : List R3, [((⟨1, 0, ⟨#[]⟩, [], (List.range j).map (fun i : Nat => (d : Int) + (i : Int)), 1⟩ : Nd), Value.slice none 0 0, Value.slice (some ⟨gb, 0, none⟩) j cb), ((⟨26, 1, ⟨#[]⟩, [], [(n : Int)], 1⟩ : Nd), Value.slice none 0 0, Value.slice (some ⟨F1, 0, none⟩) 1 1)] = qs := ⟨_, rfl⟩
              have hkb : Sub V7 ((⟨1, 0, ⟨#[]⟩, [], (List.range j).map (fun i : Nat => (d : Int) + (i : Int)), 1⟩ : Nd), Value.slice none 0 0, Value.slice (some ⟨gb, 0, none⟩) j cb) := ⟨nilRow, by
                have h9 := own_below5 HROW.out (hB.mono (by have := HZS.out; omega))
                dsimp only
                rw [List.length_map, List.length_range, List.map_map]
                exact ownsRow_base h9 (Nat.zero_le _)⟩
              have hq2 : qs.length = 2 := by rw [← hqs]; rfl
              obtain ⟨v39, w9, hrun, ho9, hb9, hg9⟩ := own_append_rows (w := V7) (base := Z) (v := .slice (some ⟨g3, 0, none⟩) n c3) (rs := rs) (qs := qs) ho (fun r hr => by
                rw [← hqs] at hr
                simp only [List.mem_cons, List.not_mem_nil, or_false] at hr
                rcases hr with rfl | rfl
                · exact hkb
                · exact ⟨nilRow, own_lit (Nat.zero_le _) k6 rfl (show 1 ≤ maxLen from by unfold maxLen; omega)⟩) F2 0 2 (fun j u hj => by
                rw [Nat.zero_add]
                exact cells_lit (rs := qs) k8 (by rw [← hqs]; rfl) j u hj) (by have := HN.out; omega) (by have := hB.size; have := HZS.out; omega)
              obtain ⟨g9, c9, rfl⟩ := own_ne ho9.1 (by rw [List.length_append, hq2]; omega)
              have hlen : (rs ++ qs).length = n + 2 := by rw [List.length_append, hq2, HN.out]
              have hrun2 : (Builtin.append_ #[22, 22] 22 #[.slice (some ⟨g3, 0, none⟩) n c3, .slice (some ⟨F2, 0, none⟩) 2 2]).run Try.prog V7 = .ok (.slice (some ⟨g9, 0, none⟩) (n + 2) c9) w9 := by
                have h9 := hrun
                rw [hlen, hq2] at h9
                exact h9
              rw [hlen] at ho9
              have hB9 : Below Z W w9 := hB.trans hb9
              have hx9 := (hB9.block S (by have := HSZ.out; omega)).trans HXS.out
              have hend : StatEnd w (w9.setCell ⟨S, 0, none⟩ (.slice (some ⟨g9, 0, none⟩) (n + 2) c9)) S B n d j rs := ⟨g9, c9, Joins.block_setCell (i := 0) hx9 _, ⟨rs ++ qs, ⟨own_other (ownsRow_base ho9.1 (Nat.zero_le _)) hx9 (by decide), fun r hr => (ho9.2 r hr).set hx9 (by decide) (by decide)⟩, by
                rw [List.map_append, ← hqs]
                unfold statRaw
                rw [List.length_map, HN.out]
                rfl⟩, by
                have h8 := ho9.1
                rw [hlen] at h8
                obtain ⟨_, h9, _⟩ := own_at h8
                have := HSZ.out
                omega, (Below.heap_setCell _ _ _ _ (by have := HSZ.out; show B ≠ S; omega)).trans ((hB9.block B (by have := HSZ.out; omega)).trans HZZ.out), (HBE.out.trans (hB9.mono (by have := HSZ.out; omega))).setCell (p := ⟨S, 0, none⟩) (by have := HSZ.out; show w.heap.size ≤ S; omega) _⟩
              have HEND := Lib.hid hend
              have HRUN := Lib.hid hrun2
              have HBS := Lib.hid (show Below S W w9 ∧ Below S W (w9.setCell ⟨S, 0, none⟩ (.slice (some ⟨g9, 0, none⟩) (n + 2) c9)) from ⟨hB9.mono (by have := HSZ.out; omega), (show Below S W w9 from hB9.mono (by have := HSZ.out; omega)).setCell (p := ⟨S, 0, none⟩) (Nat.le_refl _) _⟩)
              have y0 := cell_of hx9 0 (.slice none 0 0) rfl
              have yf := free_of hx9 0
              clear hend hrun hrun2 hqs hkb hq2 ho9 hb9 hg9 hlen hB9 hx9 ho k6 k8 hB
              refine wpAnyH_ready (rs := [9]) (by kernel_rfl) (by simp) (AllReadyH.cons rfl (fun K hK => ?_) AllReadyH.nil)
              refine ready_value (by rfl) (w' := w9) (v := .slice (some ⟨g9, 0, none⟩) (n + 2) c9) (by simp [execOp, resolve, invoke, builtin, HRUN.out, Result.andThen, Act.eval]) ?_
              refine hK.out _ _ HBS.out.1 (fun hS => ?_)
              clear hK HRUN
              simp only [List.getElem_toArray, List.getElem_cons_succ, List.getElem_cons_zero, Act.put, List.setIfInBounds_toArray, List.set_cons_zero, List.set_cons_succ]
              refine wpAnyH_take (i := 10) (v := .pointer (some ⟨S, 0, none⟩)) rfl (by kernel_rfl) (by kernel_rfl) (by kernel_rfl) (fun _ _ _ h => h) (.inl ⟨by rfl, fun w' hs => ?_⟩) hS ?_
              · clear hs
                go_simp
              simp only [List.getElem_toArray, List.getElem_cons_succ, List.getElem_cons_zero, Act.put, List.setIfInBounds_toArray, List.set_cons_zero, List.set_cons_succ]
              refine wpAnyH_ready (rs := [11]) (by kernel_rfl) (by simp) (AllReadyH.cons rfl (fun K hK => ?_) AllReadyH.nil)
              go_simp
              refine hK.out _ _ HBS.out.2 (fun hS => ?_)
              clear hK
              refine wpAnyH_done (by kernel_rfl) (NoPanic.normal ?_) _
              go_wp2_with fail
              go_meet
              exact HEND.out
            · skip
              obtain ⟨F2, hF2⟩ : ∃ F, V5.heap.size = F := ⟨_, rfl⟩
              obtain ⟨V8, hV8⟩ : ∃ V, V5.alloc (.cells #[.int .u8 1, .int .i64 0, .string ⟨#[]⟩, .slice none 0 0, .slice (some ⟨gb, 0, none⟩) j cb, .int .i64 1, .int .u8 26, .int .i64 1, .string ⟨#[]⟩, .slice none 0 0, .slice (some ⟨F1, 0, none⟩) 1 1, .int .i64 1] 30) = V := ⟨_, rfl⟩
              have hbn : Below V5.heap.size V5 V8 := by rw [← hV8]; exact (Below.refl _ _).alloc (Nat.le_refl _) _
              have hB2 : Below Z W V8 := hB.trans (hbn.mono (by have := hB.size; have := HZS.out; omega))
              have k8 : V8.heap[F2]? = some (.cells #[.int .u8 1, .int .i64 0, .string ⟨#[]⟩, .slice none 0 0, .slice (some ⟨gb, 0, none⟩) j cb, .int .i64 1, .int .u8 26, .int .i64 1, .string ⟨#[]⟩, .slice none 0 0, .slice (some ⟨F1, 0, none⟩) 1 1, .int .i64 1] 30 (0, 0)) := by rw [← hV8]; exact hit hF2.symm
              go_simp
              first | rw [hF2, hV8] | rw [hV8] | skip
              refine hK.out _ _ (hB2.mono (by have := HSZ.out; omega)) (fun hS => ?_)
              clear hK hB
              have hB := hB2
              have k6 := (hbn.block _ (lt_of_heap k6)).trans k6
              clear hbn hB2 hV8 hF2
              refine wpAnyH_ready (rs := [3]) (by kernel_rfl) (by simp) (AllReadyH.cons rfl (fun K hK => ?_) AllReadyH.nil)
              obtain ⟨v33, V9, hrun, ho, hbn, hgn⟩ := own_append_rows (w := V8) (base := Z) (v := .slice none 0 0) (rs := []) (qs := rs) ⟨World.ownsRow_nil _ _ _ _, fun r h => by cases h⟩ (fun r hr => (HSUBS.out r hr).below (by rw [HZS.out]; exact hB)) g 0 c (fun j u hj => by
                rw [Nat.zero_add]
                exact (hB.cell (p := ⟨g, j, none⟩) (by rw [← HZS.out]; exact HGL.out)).trans (HCELLS.out j u hj)) (by have := HN.out; simp; omega) (by have := hB.size; have := HZS.out; omega)
              obtain ⟨g3, c3, rfl⟩ := own_ne ho.1 (by have := HN.out; simp; omega)
              have hbg : Below V8.heap.size V8 V9 := (Below.refl _ _).grown hgn (Nat.le_refl _) (fun q hq => by cases hq)
              have hrun2 : (Builtin.append_ #[22, 22] 22 #[.slice none 0 0, .slice (some ⟨g, 0, none⟩) n c]).run Try.prog V8 = .ok (.slice (some ⟨g3, 0, none⟩) n c3) V9 := by
                have h9 := hrun
                rw [List.nil_append, HN.out] at h9
                exact h9
              have ho : OwnNd V9 Z (.slice (some ⟨g3, 0, none⟩) n c3) rs := by
                have h9 := ho
                rw [List.nil_append, HN.out] at h9
                exact h9
              have HRUN := Lib.hid hrun2
              have hB : Below Z W V9 := hB.trans hbn
              clear hrun hrun2 hgn hbn
              have k6 := (hbg.block _ (lt_of_heap k6)).trans k6
              have k8 := (hbg.block _ (lt_of_heap k8)).trans k8
              clear hbg
              refine ready_value (by rfl) (w' := V9) (v := .slice (some ⟨g3, 0, none⟩) n c3) (by simp [execOp, resolve, invoke, builtin, HRUN.out, Result.andThen, Act.eval]) ?_
              refine hK.out _ _ (hB.mono (by have := HSZ.out; omega)) (fun hS => ?_)
              clear hK HRUN
              simp only [List.getElem_toArray, List.getElem_cons_succ, List.getElem_cons_zero, Act.put, List.setIfInBounds_toArray, List.set_cons_zero, List.set_cons_succ]
              obtain ⟨qs, hqs⟩ : ∃ qs : List R3, [((⟨1, 0, ⟨#[]⟩, [], (List.range j).map (fun i : Nat => (d : Int) + (i : Int)), 1⟩ : Nd), Value.slice none 0 0, Value.slice (some ⟨gb, 0, none⟩) j cb), ((⟨26, 1, ⟨#[]⟩, [], [(n : Int)], 1⟩ : Nd), Value.slice none 0 0, Value.slice (some ⟨F1, 0, none⟩) 1 1)] = qs := ⟨_, rfl⟩
              have hkb : Sub V9 ((⟨1, 0, ⟨#[]⟩, [], (List.range j).map (fun i : Nat => (d : Int) + (i : Int)), 1⟩ : Nd), Value.slice none 0 0, Value.slice (some ⟨gb, 0, none⟩) j cb) := ⟨nilRow, by
                have h9 := own_below5 HROW.out (hB.mono (by have := HZS.out; omega))
                dsimp only
                rw [List.length_map, List.length_range, List.map_map]
                exact ownsRow_base h9 (Nat.zero_le _)⟩
              have hq2 : qs.length = 2 := by rw [← hqs]; rfl
              obtain ⟨v39, w9, hrun, ho9, hb9, hg9⟩ := own_append_rows (w := V9) (base := Z) (v := .slice (some ⟨g3, 0, none⟩) n c3) (rs := rs) (qs := qs) ho (fun r hr => by
                rw [← hqs] at hr
                simp only [List.mem_cons, List.not_mem_nil, or_false] at hr
                rcases hr with rfl | rfl
                · exact hkb
                · exact ⟨nilRow, own_lit (Nat.zero_le _) k6 rfl (show 1 ≤ maxLen from by unfold maxLen; omega)⟩) F2 0 2 (fun j u hj => by
                rw [Nat.zero_add]
                exact cells_lit (rs := qs) k8 (by rw [← hqs]; rfl) j u hj) (by have := HN.out; omega) (by have := hB.size; have := HZS.out; omega)
              obtain ⟨g9, c9, rfl⟩ := own_ne ho9.1 (by rw [List.length_append, hq2]; omega)
              have hlen : (rs ++ qs).length = n + 2 := by rw [List.length_append, hq2, HN.out]
              have hrun2 : (Builtin.append_ #[22, 22] 22 #[.slice (some ⟨g3, 0, none⟩) n c3, .slice (some ⟨F2, 0, none⟩) 2 2]).run Try.prog V9 = .ok (.slice (some ⟨g9, 0, none⟩) (n + 2) c9) w9 := by
                have h9 := hrun
                rw [hlen, hq2] at h9
                exact h9
              rw [hlen] at ho9
              have hB9 : Below Z W w9 := hB.trans hb9
              have hx9 := (hB9.block S (by have := HSZ.out; omega)).trans HXS.out
              have hend : StatEnd w (w9.setCell ⟨S, 0, none⟩ (.slice (some ⟨g9, 0, none⟩) (n + 2) c9)) S B n d j rs := ⟨g9, c9, Joins.block_setCell (i := 0) hx9 _, ⟨rs ++ qs, ⟨own_other (ownsRow_base ho9.1 (Nat.zero_le _)) hx9 (by decide), fun r hr => (ho9.2 r hr).set hx9 (by decide) (by decide)⟩, by
                rw [List.map_append, ← hqs]
                unfold statRaw
                rw [List.length_map, HN.out]
                rfl⟩, by
                have h8 := ho9.1
                rw [hlen] at h8
                obtain ⟨_, h9, _⟩ := own_at h8
                have := HSZ.out
                omega, (Below.heap_setCell _ _ _ _ (by have := HSZ.out; show B ≠ S; omega)).trans ((hB9.block B (by have := HSZ.out; omega)).trans HZZ.out), (HBE.out.trans (hB9.mono (by have := HSZ.out; omega))).setCell (p := ⟨S, 0, none⟩) (by have := HSZ.out; show w.heap.size ≤ S; omega) _⟩
              have HEND := Lib.hid hend
              have HRUN := Lib.hid hrun2
              have HBS := Lib.hid (show Below S W w9 ∧ Below S W (w9.setCell ⟨S, 0, none⟩ (.slice (some ⟨g9, 0, none⟩) (n + 2) c9)) from ⟨hB9.mono (by have := HSZ.out; omega), (show Below S W w9 from hB9.mono (by have := HSZ.out; omega)).setCell (p := ⟨S, 0, none⟩) (Nat.le_refl _) _⟩)
              have y0 := cell_of hx9 0 (.slice none 0 0) rfl
              have yf := free_of hx9 0
              clear hend hrun hrun2 hqs hkb hq2 ho9 hb9 hg9 hlen hB9 hx9 ho k6 k8 hB
              refine wpAnyH_ready (rs := [9]) (by kernel_rfl) (by simp) (AllReadyH.cons rfl (fun K hK => ?_) AllReadyH.nil)
              refine ready_value (by rfl) (w' := w9) (v := .slice (some ⟨g9, 0, none⟩) (n + 2) c9) (by simp [execOp, resolve, invoke, builtin, HRUN.out, Result.andThen, Act.eval]) ?_
              refine hK.out _ _ HBS.out.1 (fun hS => ?_)
              clear hK HRUN
              simp only [List.getElem_toArray, List.getElem_cons_succ, List.getElem_cons_zero, Act.put, List.setIfInBounds_toArray, List.set_cons_zero, List.set_cons_succ]
              refine wpAnyH_take (i := 10) (v := .pointer (some ⟨S, 0, none⟩)) rfl (by kernel_rfl) (by kernel_rfl) (by kernel_rfl) (fun _ _ _ h => h) (.inl ⟨by rfl, fun w' hs => ?_⟩) hS ?_
              · clear hs
                go_simp
              simp only [List.getElem_toArray, List.getElem_cons_succ, List.getElem_cons_zero, Act.put, List.setIfInBounds_toArray, List.set_cons_zero, List.set_cons_succ]
              refine wpAnyH_ready (rs := [11]) (by kernel_rfl) (by simp) (AllReadyH.cons rfl (fun K hK => ?_) AllReadyH.nil)
              go_simp
              refine hK.out _ _ HBS.out.2 (fun hS => ?_)
              clear hK
              refine wpAnyH_done (by kernel_rfl) (NoPanic.normal ?_) _
              go_wp2_with fail
              go_meet
              exact HEND.out
        · skip
          obtain ⟨F1, hF1⟩ : ∃ F, V0.heap.size = F := ⟨_, rfl⟩
          obtain ⟨V10, hV10⟩ : ∃ V, V0.alloc (.cells #[.int .i64 (n : Int)] 3) = V := ⟨_, rfl⟩
          have hbn : Below V0.heap.size V0 V10 := by rw [← hV10]; exact (Below.refl _ _).alloc (Nat.le_refl _) _
          have hB2 : Below Z W V10 := hB.trans (hbn.mono (by have := hB.size; have := HZS.out; omega))
          have k6 : V10.heap[F1]? = some (.cells #[.int .i64 (n : Int)] 3 (0, 0)) := by rw [← hV10]; exact hit hF1.symm
          go_simp
          first | rw [hF1, hV10] | rw [hV10] | skip
          refine hK.out _ _ (hB2.mono (by have := HSZ.out; omega)) (fun hS => ?_)
          clear hK hB
          have hB := hB2
          clear hbn hB2 hV10 hF1
          refine wpAnyH_take (i := 7) (v := .agg #[.int .u8 26, .int .i64 1, .string ⟨#[]⟩, .slice none 0 0, .slice (some ⟨F1, 0, none⟩) 1 1, .int .i64 1]) rfl (by kernel_rfl) (by kernel_rfl) (by kernel_rfl) (fun _ _ _ h => h) (.inl ⟨by rfl, fun w' hs => ?_⟩) hS ?_
          · clear hs
            go_simp
          simp only [List.getElem_toArray, List.getElem_cons_succ, List.getElem_cons_zero, Act.put, List.setIfInBounds_toArray, List.set_cons_zero, List.set_cons_succ]
          refine wpAnyH_ready (rs := [1, 8]) (by kernel_rfl) (by simp) (AllReadyH.cons rfl (fun K hK => ?_) (AllReadyH.cons rfl (fun K hK => ?_) AllReadyH.nil))
          · skip
            have m1 := (hB.cell (p := ⟨S, 0, none⟩) (by have := HSZ.out; show S < Z; omega)).trans m0
            go_simp
            refine hK.out _ _ hS (fun hS => ?_)
            clear hK m1
            refine wpAnyH_ready (rs := [3, 8]) (by kernel_rfl) (by simp) (AllReadyH.cons rfl (fun K hK => ?_) (AllReadyH.cons rfl (fun K hK => ?_) AllReadyH.nil))
            · skip
              obtain ⟨v33, V12, hrun, ho, hbn, hgn⟩ := own_append_rows (w := V10) (base := Z) (v := .slice none 0 0) (rs := []) (qs := rs) ⟨World.ownsRow_nil _ _ _ _, fun r h => by cases h⟩ (fun r hr => (HSUBS.out r hr).below (by rw [HZS.out]; exact hB)) g 0 c (fun j u hj => by
                rw [Nat.zero_add]
                exact (hB.cell (p := ⟨g, j, none⟩) (by rw [← HZS.out]; exact HGL.out)).trans (HCELLS.out j u hj)) (by have := HN.out; simp; omega) (by have := hB.size; have := HZS.out; omega)
              obtain ⟨g3, c3, rfl⟩ := own_ne ho.1 (by have := HN.out; simp; omega)
              have hbg : Below V10.heap.size V10 V12 := (Below.refl _ _).grown hgn (Nat.le_refl _) (fun q hq => by cases hq)
              have hrun2 : (Builtin.append_ #[22, 22] 22 #[.slice none 0 0, .slice (some ⟨g, 0, none⟩) n c]).run Try.prog V10 = .ok (.slice (some ⟨g3, 0, none⟩) n c3) V12 := by
                have h9 := hrun
                rw [List.nil_append, HN.out] at h9
                exact h9
              have ho : OwnNd V12 Z (.slice (some ⟨g3, 0, none⟩) n c3) rs := by
                have h9 := ho
                rw [List.nil_append, HN.out] at h9
                exact h9
              have HRUN := Lib.hid hrun2
              have hB : Below Z W V12 := hB.trans hbn
              clear hrun hrun2 hgn hbn
              have k6 := (hbg.block _ (lt_of_heap k6)).trans k6
              clear hbg
              refine ready_value (by rfl) (w' := V12) (v := .slice (some ⟨g3, 0, none⟩) n c3) (by simp [execOp, resolve, invoke, builtin, HRUN.out, Result.andThen, Act.eval]) ?_
              refine hK.out _ _ (hB.mono (by have := HSZ.out; omega)) (fun hS => ?_)
              clear hK HRUN
              simp only [List.getElem_toArray, List.getElem_cons_succ, List.getElem_cons_zero, Act.put, List.setIfInBounds_toArray, List.set_cons_zero, List.set_cons_succ]
              refine wpAnyH_ready (rs := [8]) (by kernel_rfl) (by simp) (AllReadyH.cons rfl (fun K hK => ?_) AllReadyH.nil)
              obtain ⟨F2, hF2⟩ : ∃ F, V12.heap.size = F := ⟨_, rfl⟩
              obtain ⟨V13, hV13⟩ : ∃ V, V12.alloc (.cells #[.int .u8 1, .int .i64 0, .string ⟨#[]⟩, .slice none 0 0, .slice (some ⟨gb, 0, none⟩) j cb, .int .i64 1, .int .u8 26, .int .i64 1, .string ⟨#[]⟩, .slice none 0 0, .slice (some ⟨F1, 0, none⟩) 1 1, .int .i64 1] 30) = V := ⟨_, rfl⟩
              have hbn : Below V12.heap.size V12 V13 := by rw [← hV13]; exact (Below.refl _ _).alloc (Nat.le_refl _) _
              have hB2 : Below Z W V13 := hB.trans (hbn.mono (by have := hB.size; have := HZS.out; omega))
              have k8 : V13.heap[F2]? = some (.cells #[.int .u8 1, .int .i64 0, .string ⟨#[]⟩, .slice none 0 0, .slice (some ⟨gb, 0, none⟩) j cb, .int .i64 1, .int .u8 26, .int .i64 1, .string ⟨#[]⟩, .slice none 0 0, .slice (some ⟨F1, 0, none⟩) 1 1, .int .i64 1] 30 (0, 0)) := by rw [← hV13]; exact hit hF2.symm
              go_simp
              first | rw [hF2, hV13] | rw [hV13] | skip
              refine hK.out _ _ (hB2.mono (by have := HSZ.out; omega)) (fun hS => ?_)
              clear hK hB
              have hB := hB2
              have k6 := (hbn.block _ (lt_of_heap k6)).trans k6
              have ho := ho.below hbn
              clear hbn hB2 hV13 hF2
              obtain ⟨qs, hqs⟩ : ∃ qs : List R3, [((⟨1, 0, ⟨#[]⟩, [], (List.range j).map (fun i : Nat => (d : Int) + (i : Int)), 1⟩ : Nd), Value.slice none 0 0, Value.slice (some ⟨gb, 0, none⟩) j cb), ((⟨26, 1, ⟨#[]⟩, [], [(n : Int)], 1⟩ : Nd), Value.slice none 0 0, Value.slice (some ⟨F1, 0, none⟩) 1 1)] = qs := ⟨_, rfl⟩
              have hkb : Sub V13 ((⟨1, 0, ⟨#[]⟩, [], (List.range j).map (fun i : Nat => (d : Int) + (i : Int)), 1⟩ : Nd), Value.slice none 0 0, Value.slice (some ⟨gb, 0, none⟩) j cb) := ⟨nilRow, by
                have h9 := own_below5 HROW.out (hB.mono (by have := HZS.out; omega))
                dsimp only
                rw [List.length_map, List.length_range, List.map_map]
                exact ownsRow_base h9 (Nat.zero_le _)⟩
              have hq2 : qs.length = 2 := by rw [← hqs]; rfl
              obtain ⟨v39, w9, hrun, ho9, hb9, hg9⟩ := own_append_rows (w := V13) (base := Z) (v := .slice (some ⟨g3, 0, none⟩) n c3) (rs := rs) (qs := qs) ho (fun r hr => by
                rw [← hqs] at hr
                simp only [List.mem_cons, List.not_mem_nil, or_false] at hr
                rcases hr with rfl | rfl
                · exact hkb
                · exact ⟨nilRow, own_lit (Nat.zero_le _) k6 rfl (show 1 ≤ maxLen from by unfold maxLen; omega)⟩) F2 0 2 (fun j u hj => by
                rw [Nat.zero_add]
                exact cells_lit (rs := qs) k8 (by rw [← hqs]; rfl) j u hj) (by have := HN.out; omega) (by have := hB.size; have := HZS.out; omega)
              obtain ⟨g9, c9, rfl⟩ := own_ne ho9.1 (by rw [List.length_append, hq2]; omega)
              have hlen : (rs ++ qs).length = n + 2 := by rw [List.length_append, hq2, HN.out]
              have hrun2 : (Builtin.append_ #[22, 22] 22 #[.slice (some ⟨g3, 0, none⟩) n c3, .slice (some ⟨F2, 0, none⟩) 2 2]).run Try.prog V13 = .ok (.slice (some ⟨g9, 0, none⟩) (n + 2) c9) w9 := by
                have h9 := hrun
                rw [hlen, hq2] at h9
                exact h9
              rw [hlen] at ho9
              have hB9 : Below Z W w9 := hB.trans hb9
              have hx9 := (hB9.block S (by have := HSZ.out; omega)).trans HXS.out
              have hend : StatEnd w (w9.setCell ⟨S, 0, none⟩ (.slice (some ⟨g9, 0, none⟩) (n + 2) c9)) S B n d j rs := ⟨g9, c9, Joins.block_setCell (i := 0) hx9 _, ⟨rs ++ qs, ⟨own_other (ownsRow_base ho9.1 (Nat.zero_le _)) hx9 (by decide), fun r hr => (ho9.2 r hr).set hx9 (by decide) (by decide)⟩, by
                rw [List.map_append, ← hqs]
                unfold statRaw
                rw [List.length_map, HN.out]
                rfl⟩, by
                have h8 := ho9.1
                rw [hlen] at h8
                obtain ⟨_, h9, _⟩ := own_at h8
                have := HSZ.out
                omega, (Below.heap_setCell _ _ _ _ (by have := HSZ.out; show B ≠ S; omega)).trans ((hB9.block B (by have := HSZ.out; omega)).trans HZZ.out), (HBE.out.trans (hB9.mono (by have := HSZ.out; omega))).setCell (p := ⟨S, 0, none⟩) (by have := HSZ.out; show w.heap.size ≤ S; omega) _⟩
              have HEND := Lib.hid hend
              have HRUN := Lib.hid hrun2
              have HBS := Lib.hid (show Below S W w9 ∧ Below S W (w9.setCell ⟨S, 0, none⟩ (.slice (some ⟨g9, 0, none⟩) (n + 2) c9)) from ⟨hB9.mono (by have := HSZ.out; omega), (show Below S W w9 from hB9.mono (by have := HSZ.out; omega)).setCell (p := ⟨S, 0, none⟩) (Nat.le_refl _) _⟩)
              have y0 := cell_of hx9 0 (.slice none 0 0) rfl
              have yf := free_of hx9 0
              clear hend hrun hrun2 hqs hkb hq2 ho9 hb9 hg9 hlen hB9 hx9 ho k6 k8 hB
              refine wpAnyH_ready (rs := [9]) (by kernel_rfl) (by simp) (AllReadyH.cons rfl (fun K hK => ?_) AllReadyH.nil)
              refine ready_value (by rfl) (w' := w9) (v := .slice (some ⟨g9, 0, none⟩) (n + 2) c9) (by simp [execOp, resolve, invoke, builtin, HRUN.out, Result.andThen, Act.eval]) ?_
              refine hK.out _ _ HBS.out.1 (fun hS => ?_)
              clear hK HRUN
              simp only [List.getElem_toArray, List.getElem_cons_succ, List.getElem_cons_zero, Act.put, List.setIfInBounds_toArray, List.set_cons_zero, List.set_cons_succ]
              refine wpAnyH_take (i := 10) (v := .pointer (some ⟨S, 0, none⟩)) rfl (by kernel_rfl) (by kernel_rfl) (by kernel_rfl) (fun _ _ _ h => h) (.inl ⟨by rfl, fun w' hs => ?_⟩) hS ?_
              · clear hs
                go_simp
              simp only [List.getElem_toArray, List.getElem_cons_succ, List.getElem_cons_zero, Act.put, List.setIfInBounds_toArray, List.set_cons_zero, List.set_cons_succ]
              refine wpAnyH_ready (rs := [11]) (by kernel_rfl) (by simp) (AllReadyH.cons rfl (fun K hK => ?_) AllReadyH.nil)
              go_simp
              refine hK.out _ _ HBS.out.2 (fun hS => ?_)
              clear hK
              refine wpAnyH_done (by kernel_rfl) (NoPanic.normal ?_) _
              go_wp2_with fail
              go_meet
              exact HEND.out
            · skip
              obtain ⟨F2, hF2⟩ : ∃ F, V10.heap.size = F := ⟨_, rfl⟩
              obtain ⟨V14, hV14⟩ : ∃ V, V10.alloc (.cells #[.int .u8 1, .int .i64 0, .string ⟨#[]⟩, .slice none 0 0, .slice (some ⟨gb, 0, none⟩) j cb, .int .i64 1, .int .u8 26, .int .i64 1, .string ⟨#[]⟩, .slice none 0 0, .slice (some ⟨F1, 0, none⟩) 1 1, .int .i64 1] 30) = V := ⟨_, rfl⟩
              have hbn : Below V10.heap.size V10 V14 := by rw [← hV14]; exact (Below.refl _ _).alloc (Nat.le_refl _) _
              have hB2 : Below Z W V14 := hB.trans (hbn.mono (by have := hB.size; have := HZS.out; omega))
              have k8 : V14.heap[F2]? = some (.cells #[.int .u8 1, .int .i64 0, .string ⟨#[]⟩, .slice none 0 0, .slice (some ⟨gb, 0, none⟩) j cb, .int .i64 1, .int .u8 26, .int .i64 1, .string ⟨#[]⟩, .slice none 0 0, .slice (some ⟨F1, 0, none⟩) 1 1, .int .i64 1] 30 (0, 0)) := by rw [← hV14]; exact hit hF2.symm
              go_simp
              first | rw [hF2, hV14] | rw [hV14] | skip
              refine hK.out _ _ (hB2.mono (by have := HSZ.out; omega)) (fun hS => ?_)
              clear hK hB
              have hB := hB2
              have k6 := (hbn.block _ (lt_of_heap k6)).trans k6
              clear hbn hB2 hV14 hF2
              refine wpAnyH_ready (rs := [3]) (by kernel_rfl) (by simp) (AllReadyH.cons rfl (fun K hK => ?_) AllReadyH.nil)
              obtain ⟨v33, V15, hrun, ho, hbn, hgn⟩ := own_append_rows (w := V14) (base := Z) (v := .slice none 0 0) (rs := []) (qs := rs) ⟨World.ownsRow_nil _ _ _ _, fun r h => by cases h⟩ (fun r hr => (HSUBS.out r hr).below (by rw [HZS.out]; exact hB)) g 0 c (fun j u hj => by
                rw [Nat.zero_add]
                exact (hB.cell (p := ⟨g, j, none⟩) (by rw [← HZS.out]; exact HGL.out)).trans (HCELLS.out j u hj)) (by have := HN.out; simp; omega) (by have := hB.size; have := HZS.out; omega)
              obtain ⟨g3, c3, rfl⟩ := own_ne ho.1 (by have := HN.out; simp; omega)
              have hbg : Below V14.heap.size V14 V15 := (Below.refl _ _).grown hgn (Nat.le_refl _) (fun q hq => by cases hq)
              have hrun2 : (Builtin.append_ #[22, 22] 22 #[.slice none 0 0, .slice (some ⟨g, 0, none⟩) n c]).run Try.prog V14 = .ok (.slice (some ⟨g3, 0, none⟩) n c3) V15 := by
                have h9 := hrun
                rw [List.nil_append, HN.out] at h9
                exact h9
              have ho : OwnNd V15 Z (.slice (some ⟨g3, 0, none⟩) n c3) rs := by
                have h9 := ho
                rw [List.nil_append, HN.out] at h9
                exact h9
              have HRUN := Lib.hid hrun2
              have hB : Below Z W V15 := hB.trans hbn
              clear hrun hrun2 hgn hbn
              have k6 := (hbg.block _ (lt_of_heap k6)).trans k6
              have k8 := (hbg.block _ (lt_of_heap k8)).trans k8
              clear hbg
              refine ready_value (by rfl) (w' := V15) (v := .slice (some ⟨g3, 0, none⟩) n c3) (by simp [execOp, resolve, invoke, builtin, HRUN.out, Result.andThen, Act.eval]) ?_
              refine hK.out _ _ (hB.mono (by have := HSZ.out; omega)) (fun hS => ?_)
              clear hK HRUN
              simp only [List.getElem_toArray, List.getElem_cons_succ, List.getElem_cons_zero, Act.put, List.setIfInBounds_toArray, List.set_cons_zero, List.set_cons_succ]
              obtain ⟨qs, hqs⟩ : ∃ qs : List R3, [((⟨1, 0, ⟨#[]⟩, [], (List.range j).map (fun i : Nat => (d : Int) + (i : Int)), 1⟩ : Nd), Value.slice none 0 0, Value.slice (some ⟨gb, 0, none⟩) j cb), ((⟨26, 1, ⟨#[]⟩, [], [(n : Int)], 1⟩ : Nd), Value.slice none 0 0, Value.slice (some ⟨F1, 0, none⟩) 1 1)] = qs := ⟨_, rfl⟩
              have hkb : Sub V15 ((⟨1, 0, ⟨#[]⟩, [], (List.range j).map (fun i : Nat => (d : Int) + (i : Int)), 1⟩ : Nd), Value.slice none 0 0, Value.slice (some ⟨gb, 0, none⟩) j cb) := ⟨nilRow, by
                have h9 := own_below5 HROW.out (hB.mono (by have := HZS.out; omega))
                dsimp only
                rw [List.length_map, List.length_range, List.map_map]
                exact ownsRow_base h9 (Nat.zero_le _)⟩
              have hq2 : qs.length = 2 := by rw [← hqs]; rfl
              obtain ⟨v39, w9, hrun, ho9, hb9, hg9⟩ := own_append_rows (w := V15) (base := Z) (v := .slice (some ⟨g3, 0, none⟩) n c3) (rs := rs) (qs := qs) ho (fun r hr => by
                rw [← hqs] at hr
                simp only [List.mem_cons, List.not_mem_nil, or_false] at hr
                rcases hr with rfl | rfl
                · exact hkb
                · exact ⟨nilRow, own_lit (Nat.zero_le _) k6 rfl (show 1 ≤ maxLen from by unfold maxLen; omega)⟩) F2 0 2 (fun j u hj => by
                rw [Nat.zero_add]
                exact cells_lit (rs := qs) k8 (by rw [← hqs]; rfl) j u hj) (by have := HN.out; omega) (by have := hB.size; have := HZS.out; omega)
              obtain ⟨g9, c9, rfl⟩ := own_ne ho9.1 (by rw [List.length_append, hq2]; omega)
              have hlen : (rs ++ qs).length = n + 2 := by rw [List.length_append, hq2, HN.out]
              have hrun2 : (Builtin.append_ #[22, 22] 22 #[.slice (some ⟨g3, 0, none⟩) n c3, .slice (some ⟨F2, 0, none⟩) 2 2]).run Try.prog V15 = .ok (.slice (some ⟨g9, 0, none⟩) (n + 2) c9) w9 := by
                have h9 := hrun
                rw [hlen, hq2] at h9
                exact h9
              rw [hlen] at ho9
              have hB9 : Below Z W w9 := hB.trans hb9
              have hx9 := (hB9.block S (by have := HSZ.out; omega)).trans HXS.out
              have hend : StatEnd w (w9.setCell ⟨S, 0, none⟩ (.slice (some ⟨g9, 0, none⟩) (n + 2) c9)) S B n d j rs := ⟨g9, c9, Joins.block_setCell (i := 0) hx9 _, ⟨rs ++ qs, ⟨own_other (ownsRow_base ho9.1 (Nat.zero_le _)) hx9 (by decide), fun r hr => (ho9.2 r hr).set hx9 (by decide) (by decide)⟩, by
                rw [List.map_append, ← hqs]
                unfold statRaw
                rw [List.length_map, HN.out]
                rfl⟩, by
                have h8 := ho9.1
                rw [hlen] at h8
                obtain ⟨_, h9, _⟩ := own_at h8
                have := HSZ.out
                omega, (Below.heap_setCell _ _ _ _ (by have := HSZ.out; show B ≠ S; omega)).trans ((hB9.block B (by have := HSZ.out; omega)).trans HZZ.out), (HBE.out.trans (hB9.mono (by have := HSZ.out; omega))).setCell (p := ⟨S, 0, none⟩) (by have := HSZ.out; show w.heap.size ≤ S; omega) _⟩
              have HEND := Lib.hid hend
              have HRUN := Lib.hid hrun2
              have HBS := Lib.hid (show Below S W w9 ∧ Below S W (w9.setCell ⟨S, 0, none⟩ (.slice (some ⟨g9, 0, none⟩) (n + 2) c9)) from ⟨hB9.mono (by have := HSZ.out; omega), (show Below S W w9 from hB9.mono (by have := HSZ.out; omega)).setCell (p := ⟨S, 0, none⟩) (Nat.le_refl _) _⟩)
              have y0 := cell_of hx9 0 (.slice none 0 0) rfl
              have yf := free_of hx9 0
              clear hend hrun hrun2 hqs hkb hq2 ho9 hb9 hg9 hlen hB9 hx9 ho k6 k8 hB
              refine wpAnyH_ready (rs := [9]) (by kernel_rfl) (by simp) (AllReadyH.cons rfl (fun K hK => ?_) AllReadyH.nil)
              refine ready_value (by rfl) (w' := w9) (v := .slice (some ⟨g9, 0, none⟩) (n + 2) c9) (by simp [execOp, resolve, invoke, builtin, HRUN.out, Result.andThen, Act.eval]) ?_
              refine hK.out _ _ HBS.out.1 (fun hS => ?_)
              clear hK HRUN
              simp only [List.getElem_toArray, List.getElem_cons_succ, List.getElem_cons_zero, Act.put, List.setIfInBounds_toArray, List.set_cons_zero, List.set_cons_succ]
              refine wpAnyH_take (i := 10) (v := .pointer (some ⟨S, 0, none⟩)) rfl (by kernel_rfl) (by kernel_rfl) (by kernel_rfl) (fun _ _ _ h => h) (.inl ⟨by rfl, fun w' hs => ?_⟩) hS ?_
              · clear hs
                go_simp
              simp only [List.getElem_toArray, List.getElem_cons_succ, List.getElem_cons_zero, Act.put, List.setIfInBounds_toArray, List.set_cons_zero, List.set_cons_succ]
              refine wpAnyH_ready (rs := [11]) (by kernel_rfl) (by simp) (AllReadyH.cons rfl (fun K hK => ?_) AllReadyH.nil)
              go_simp
              refine hK.out _ _ HBS.out.2 (fun hS => ?_)
              clear hK
              refine wpAnyH_done (by kernel_rfl) (NoPanic.normal ?_) _
              go_wp2_with fail
              go_meet
              exact HEND.out
          · skip
            obtain ⟨F2, hF2⟩ : ∃ F, V10.heap.size = F := ⟨_, rfl⟩
            obtain ⟨V16, hV16⟩ : ∃ V, V10.alloc (.cells #[.int .u8 1, .int .i64 0, .string ⟨#[]⟩, .slice none 0 0, .slice (some ⟨gb, 0, none⟩) j cb, .int .i64 1, .int .u8 26, .int .i64 1, .string ⟨#[]⟩, .slice none 0 0, .slice (some ⟨F1, 0, none⟩) 1 1, .int .i64 1] 30) = V := ⟨_, rfl⟩
            have hbn : Below V10.heap.size V10 V16 := by rw [← hV16]; exact (Below.refl _ _).alloc (Nat.le_refl _) _
            have hB2 : Below Z W V16 := hB.trans (hbn.mono (by have := hB.size; have := HZS.out; omega))
            have k8 : V16.heap[F2]? = some (.cells #[.int .u8 1, .int .i64 0, .string ⟨#[]⟩, .slice none 0 0, .slice (some ⟨gb, 0, none⟩) j cb, .int .i64 1, .int .u8 26, .int .i64 1, .string ⟨#[]⟩, .slice none 0 0, .slice (some ⟨F1, 0, none⟩) 1 1, .int .i64 1] 30 (0, 0)) := by rw [← hV16]; exact hit hF2.symm
            go_simp
            first | rw [hF2, hV16] | rw [hV16] | skip
            refine hK.out _ _ (hB2.mono (by have := HSZ.out; omega)) (fun hS => ?_)
            clear hK hB
            have hB := hB2
            have k6 := (hbn.block _ (lt_of_heap k6)).trans k6
            clear hbn hB2 hV16 hF2
            refine wpAnyH_ready (rs := [1]) (by kernel_rfl) (by simp) (AllReadyH.cons rfl (fun K hK => ?_) AllReadyH.nil)
            have m1 := (hB.cell (p := ⟨S, 0, none⟩) (by have := HSZ.out; show S < Z; omega)).trans m0
            go_simp
            refine hK.out _ _ hS (fun hS => ?_)
            clear hK m1
            refine wpAnyH_ready (rs := [3]) (by kernel_rfl) (by simp) (AllReadyH.cons rfl (fun K hK => ?_) AllReadyH.nil)
            obtain ⟨v33, V18, hrun, ho, hbn, hgn⟩ := own_append_rows (w := V16) (base := Z) (v := .slice none 0 0) (rs := []) (qs := rs) ⟨World.ownsRow_nil _ _ _ _, fun r h => by cases h⟩ (fun r hr => (HSUBS.out r hr).below (by rw [HZS.out]; exact hB)) g 0 c (fun j u hj => by
              rw [Nat.zero_add]
              exact (hB.cell (p := ⟨g, j, none⟩) (by rw [← HZS.out]; exact HGL.out)).trans (HCELLS.out j u hj)) (by have := HN.out; simp; omega) (by have := hB.size; have := HZS.out; omega)
            obtain ⟨g3, c3, rfl⟩ := own_ne ho.1 (by have := HN.out; simp; omega)
            have hbg : Below V16.heap.size V16 V18 := (Below.refl _ _).grown hgn (Nat.le_refl _) (fun q hq => by cases hq)
            have hrun2 : (Builtin.append_ #[22, 22] 22 #[.slice none 0 0, .slice (some ⟨g, 0, none⟩) n c]).run Try.prog V16 = .ok (.slice (some ⟨g3, 0, none⟩) n c3) V18 := by
              have h9 := hrun
              rw [List.nil_append, HN.out] at h9
              exact h9
            have ho : OwnNd V18 Z (.slice (some ⟨g3, 0, none⟩) n c3) rs := by
              have h9 := ho
              rw [List.nil_append, HN.out] at h9
              exact h9
            have HRUN := Lib.hid hrun2
            have hB : Below Z W V18 := hB.trans hbn
            clear hrun hrun2 hgn hbn
            have k6 := (hbg.block _ (lt_of_heap k6)).trans k6
            have k8 := (hbg.block _ (lt_of_heap k8)).trans k8
            clear hbg
            refine ready_value (by rfl) (w' := V18) (v := .slice (some ⟨g3, 0, none⟩) n c3) (by simp [execOp, resolve, invoke, builtin, HRUN.out, Result.andThen, Act.eval]) ?_
            refine hK.out _ _ (hB.mono (by have := HSZ.out; omega)) (fun hS => ?_)
            clear hK HRUN
            simp only [List.getElem_toArray, List.getElem_cons_succ, List.getElem_cons_zero, Act.put, List.setIfInBounds_toArray, List.set_cons_zero, List.set_cons_succ]
            obtain ⟨qs, hqs⟩ : ∃ qs : List R3, [((⟨1, 0, ⟨#[]⟩, [], (List.range j).map (fun i : Nat => (d : Int) + (i : Int)), 1⟩ : Nd), Value.slice none 0 0, Value.slice (some ⟨gb, 0, none⟩) j cb), ((⟨26, 1, ⟨#[]⟩, [], [(n : Int)], 1⟩ : Nd), Value.slice none 0 0, Value.slice (some ⟨F1, 0, none⟩) 1 1)] = qs := ⟨_, rfl⟩
            have hkb : Sub V18 ((⟨1, 0, ⟨#[]⟩, [], (List.range j).map (fun i : Nat => (d : Int) + (i : Int)), 1⟩ : Nd), Value.slice none 0 0, Value.slice (some ⟨gb, 0, none⟩) j cb) := ⟨nilRow, by
              have h9 := own_below5 HROW.out (hB.mono (by have := HZS.out; omega))
              dsimp only
              rw [List.length_map, List.length_range, List.map_map]
              exact ownsRow_base h9 (Nat.zero_le _)⟩
            have hq2 : qs.length = 2 := by rw [← hqs]; rfl
            obtain ⟨v39, w9, hrun, ho9, hb9, hg9⟩ := own_append_rows (w := V18) (base := Z) (v := .slice (some ⟨g3, 0, none⟩) n c3) (rs := rs) (qs := qs) ho (fun r hr => by
              rw [← hqs] at hr
              simp only [List.mem_cons, List.not_mem_nil, or_false] at hr
              rcases hr with rfl | rfl
              · exact hkb
              · exact ⟨nilRow, own_lit (Nat.zero_le _) k6 rfl (show 1 ≤ maxLen from by unfold maxLen; omega)⟩) F2 0 2 (fun j u hj => by
              rw [Nat.zero_add]
              exact cells_lit (rs := qs) k8 (by rw [← hqs]; rfl) j u hj) (by have := HN.out; omega) (by have := hB.size; have := HZS.out; omega)
            obtain ⟨g9, c9, rfl⟩ := own_ne ho9.1 (by rw [List.length_append, hq2]; omega)
            have hlen : (rs ++ qs).length = n + 2 := by rw [List.length_append, hq2, HN.out]
            have hrun2 : (Builtin.append_ #[22, 22] 22 #[.slice (some ⟨g3, 0, none⟩) n c3, .slice (some ⟨F2, 0, none⟩) 2 2]).run Try.prog V18 = .ok (.slice (some ⟨g9, 0, none⟩) (n + 2) c9) w9 := by
              have h9 := hrun
              rw [hlen, hq2] at h9
              exact h9
            rw [hlen] at ho9
            have hB9 : Below Z W w9 := hB.trans hb9
            have hx9 := (hB9.block S (by have := HSZ.out; omega)).trans HXS.out
            have hend : StatEnd w (w9.setCell ⟨S, 0, none⟩ (.slice (some ⟨g9, 0, none⟩) (n + 2) c9)) S B n d j rs := ⟨g9, c9, Joins.block_setCell (i := 0) hx9 _, ⟨rs ++ qs, ⟨own_other (ownsRow_base ho9.1 (Nat.zero_le _)) hx9 (by decide), fun r hr => (ho9.2 r hr).set hx9 (by decide) (by decide)⟩, by
              rw [List.map_append, ← hqs]
              unfold statRaw
              rw [List.length_map, HN.out]
              rfl⟩, by
              have h8 := ho9.1
              rw [hlen] at h8
              obtain ⟨_, h9, _⟩ := own_at h8
              have := HSZ.out
              omega, (Below.heap_setCell _ _ _ _ (by have := HSZ.out; show B ≠ S; omega)).trans ((hB9.block B (by have := HSZ.out; omega)).trans HZZ.out), (HBE.out.trans (hB9.mono (by have := HSZ.out; omega))).setCell (p := ⟨S, 0, none⟩) (by have := HSZ.out; show w.heap.size ≤ S; omega) _⟩
            have HEND := Lib.hid hend
            have HRUN := Lib.hid hrun2
            have HBS := Lib.hid (show Below S W w9 ∧ Below S W (w9.setCell ⟨S, 0, none⟩ (.slice (some ⟨g9, 0, none⟩) (n + 2) c9)) from ⟨hB9.mono (by have := HSZ.out; omega), (show Below S W w9 from hB9.mono (by have := HSZ.out; omega)).setCell (p := ⟨S, 0, none⟩) (Nat.le_refl _) _⟩)
            have y0 := cell_of hx9 0 (.slice none 0 0) rfl
            have yf := free_of hx9 0
            clear hend hrun hrun2 hqs hkb hq2 ho9 hb9 hg9 hlen hB9 hx9 ho k6 k8 hB
            refine wpAnyH_ready (rs := [9]) (by kernel_rfl) (by simp) (AllReadyH.cons rfl (fun K hK => ?_) AllReadyH.nil)
            refine ready_value (by rfl) (w' := w9) (v := .slice (some ⟨g9, 0, none⟩) (n + 2) c9) (by simp [execOp, resolve, invoke, builtin, HRUN.out, Result.andThen, Act.eval]) ?_
            refine hK.out _ _ HBS.out.1 (fun hS => ?_)
            clear hK HRUN
            simp only [List.getElem_toArray, List.getElem_cons_succ, List.getElem_cons_zero, Act.put, List.setIfInBounds_toArray, List.set_cons_zero, List.set_cons_succ]
            refine wpAnyH_take (i := 10) (v := .pointer (some ⟨S, 0, none⟩)) rfl (by kernel_rfl) (by kernel_rfl) (by kernel_rfl) (fun _ _ _ h => h) (.inl ⟨by rfl, fun w' hs => ?_⟩) hS ?_
            · clear hs
              go_simp
            simp only [List.getElem_toArray, List.getElem_cons_succ, List.getElem_cons_zero, Act.put, List.setIfInBounds_toArray, List.set_cons_zero, List.set_cons_succ]
            refine wpAnyH_ready (rs := [11]) (by kernel_rfl) (by simp) (AllReadyH.cons rfl (fun K hK => ?_) AllReadyH.nil)
            go_simp
            refine hK.out _ _ HBS.out.2 (fun hS => ?_)
            clear hK
            refine wpAnyH_done (by kernel_rfl) (NoPanic.normal ?_) _
            go_wp2_with fail
            go_meet
            exact HEND.out
      case rest =>
        obtain ⟨g9, c9, hx9, hos, hgS, hz9, hb9⟩ := hcut
        have x0 := cell_of hx9 0 (.slice (some ⟨g9, 0, none⟩) (n + 2) c9) rfl
        obtain ⟨raw, hraw⟩ : ∃ raw, statRaw d j (rs.map (·.1)) = raw := ⟨_, rfl⟩
        rw [hraw] at hos
        have HRAW := Lib.hid hraw
        have hrl : raw.length = n + 2 := by rw [← hraw]; unfold statRaw; rw [List.length_append, List.length_map, HN.out]; rfl
        have HRL := Lib.hid hrl
        have HSTART := Lib.hid (show OwnSyn wc (.slice (some ⟨g9, 0, none⟩) (n + 2) c9) ((raw.take 0).map line1 ++ raw.drop 0) ∧ wc.heap[S]? = some (.cells #[(.slice (some ⟨g9, 0, none⟩) (n + 2) c9), .int .i64 ((n : Int) + 1)] 24 (0, 0)) ∧ wc.heap[B]? = some (.cells #[.slice none 0 0, .int .i64 0] 24 (0, 0)) ∧ Below w.heap.size w wc from ⟨hos, hx9, hz9, hb9⟩)
        have HGS := Lib.hid (show S < g9 ∧ B + 1 < S ∧ w.heap.size = B from ⟨hgS, hBS, HB.out⟩)
        clear hraw hrl hos hx9 hz9 hb9 hgS m0 b0 b1 b2 b3 b4 b5 hBS HX2 HSZ HGL HZS HCELLS HSUBS HXS HBE HZZ HROW hZ
        go_wp2_with fail
        go_loopg [44] (n + 2) (fun r i wx => ∃ q : Nat, r = n + 2 - q ∧ i = .int .i64 (q : Int) ∧ q ≤ n + 2 ∧ OwnSyn wx (.slice (some ⟨g9, 0, none⟩) (n + 2) c9) ((raw.take q).map line1 ++ raw.drop q) ∧ wx.heap[S]? = some (.cells #[(.slice (some ⟨g9, 0, none⟩) (n + 2) c9), .int .i64 ((n : Int) + 1)] 24 (0, 0)) ∧ wx.heap[B]? = some (.cells #[.slice none 0 0, .int .i64 0] 24 (0, 0)) ∧ Below w.heap.size w wx)
        case atStart => exact ⟨0, rfl, rfl, Nat.zero_le _, HSTART.out⟩
        case round =>
          clear HSTART x0
          rename World => wy
          obtain ⟨q, rfl, rfl, hq, hos, hx9, hz9, hb9⟩ := hrel
          have x0 := cell_of hx9 0 (.slice (some ⟨g9, 0, none⟩) (n + 2) c9) rfl
          have x1 := cell_of hx9 1 (.int .i64 ((n : Int) + 1)) rfl
          by_cases hlq : q < n + 2
          · have hlq' : (q : Int) < ((n + 2 : Nat) : Int) := by omega
            have hlq2 : (q : Int) < (n : Int) + 2 := by omega
            have q0 : (0 : Int) ≤ q := Int.natCast_nonneg _
            obtain ⟨a, ha⟩ : ∃ a, raw[q]? = some a := ⟨_, List.getElem?_eq_getElem (by have := HRL.out; omega)⟩
            have hll : ((raw.take q).map line1 ++ raw.drop q).length = n + 2 := by rw [List.length_append, List.length_map, List.length_take, List.length_drop]; have := HRL.out; omega
            have hos2 := hos.turn (j := q) (i := 5) (v := .int .i64 1) (a := a) (b := line1 a) hll (by rw [part_at, ha]) (by decide) (fun vn vk => ⟨vk, rfl, fun h => h⟩)
            have h9 := set_part line1 (fun n : Nd => n) raw q a ha
            rw [List.map_id', List.map_id'] at h9
            rw [h9] at hos2
            obtain ⟨⟨vk, ek⟩, fk⟩ := hos.cellOk (q * 6 + 5) (by rw [hll]; omega)
            obtain ⟨hg1, hg2, hg3⟩ := HGS.out
            have HNEW := Lib.hid (show OwnSyn (wy.setCell ⟨g9, q * 6 + 5, none⟩ (.int .i64 1)) (.slice (some ⟨g9, 0, none⟩) (n + 2) c9) ((raw.take (q + 1)).map line1 ++ raw.drop (q + 1)) ∧ (wy.setCell ⟨g9, q * 6 + 5, none⟩ (.int .i64 1)).heap[S]? = some (.cells #[(.slice (some ⟨g9, 0, none⟩) (n + 2) c9), .int .i64 ((n : Int) + 1)] 24 (0, 0)) ∧ (wy.setCell ⟨g9, q * 6 + 5, none⟩ (.int .i64 1)).heap[B]? = some (.cells #[.slice none 0 0, .int .i64 0] 24 (0, 0)) ∧ Below w.heap.size w (wy.setCell ⟨g9, q * 6 + 5, none⟩ (.int .i64 1)) from
              ⟨hos2, (Below.heap_setCell _ _ _ _ (by show S ≠ g9; omega)).trans hx9, (Below.heap_setCell _ _ _ _ (by show B ≠ g9; omega)).trans hz9, hb9.setCell (p := ⟨g9, q * 6 + 5, none⟩) (by show w.heap.size ≤ g9; omega) _⟩)
            have qw : IntKind.i64.wrap ((q : Int) + 1) = (q : Int) + 1 := IntWalk.i64_in _ (by omega)
            clear hos hos2 h9 ha hll hx9 hz9 hb9 hg1 hg2 hg3
            go_wp2_with fail
            go_roundg (n + 2 - (q + 1))
            case measure => omega
            case rel => exact ⟨q + 1, rfl, by go_num, by omega, HNEW.out⟩
          · obtain rfl : q = n + 2 := by omega
            have hlq' : ¬ ((n + 2 : Nat) : Int) < ((n + 2 : Nat) : Int) := by omega
            have hlq2 : ¬ (n : Int) + 2 < (n : Int) + 2 := by omega
            rw [List.take_of_length_le (by have := HRL.out; omega), List.drop_of_length_le (by have := HRL.out; omega), List.append_nil] at hos
            have zc0 := cell_of hz9 0 (.slice none 0 0) rfl
            have zc1 := cell_of hz9 1 (.int .i64 0) rfl
            have zf0 := free_of hz9 0
            have zf1 := free_of hz9 1
            have j0 := Joins.block_setCell (i := 0) hz9 (.slice (some ⟨g9, 0, none⟩) (n + 2) c9)
            have j1 := Joins.block_setCell (i := 1) j0 (.int .i64 ((n : Int) + 1))
            have HR0 := Lib.hid (cell_of j1 0 (.slice (some ⟨g9, 0, none⟩) (n + 2) c9) rfl)
            have HR1 := Lib.hid (cell_of j1 1 (.int .i64 ((n : Int) + 1)) rfl)
            obtain ⟨hg1, hg2, hg3⟩ := HGS.out
            have HD := Lib.hid (show OwnSyn ((wy.setCell ⟨B, 0, none⟩ (.slice (some ⟨g9, 0, none⟩) (n + 2) c9)).setCell ⟨B, 1, none⟩ (.int .i64 ((n : Int) + 1))) (.slice (some ⟨g9, 0, none⟩) (n + 2) c9) (raw.map line1) from (hos.elsewhere hz9 (by omega) (by decide) (by decide)).elsewhere j0 (by omega) (by decide) (by decide))
            have HBL := Lib.hid (show Below w.heap.size w ((wy.setCell ⟨B, 0, none⟩ (.slice (some ⟨g9, 0, none⟩) (n + 2) c9)).setCell ⟨B, 1, none⟩ (.int .i64 ((n : Int) + 1))) from (hb9.setCell (p := ⟨B, 0, none⟩) (by show w.heap.size ≤ B; omega) _).setCell (p := ⟨B, 1, none⟩) (by show w.heap.size ≤ B; omega) _)
            clear hos hx9 hz9 hb9 j0 j1 hg1 hg2 hg3
            go_wp2_with fail
            refine bodyPost_ret (v := .agg #[(.slice (some ⟨g9, 0, none⟩) (n + 2) c9), .int .i64 ((n : Int) + 1)]) (by simp [results, Try.results24, go_sem, HR0.out, HR1.out]) rfl ?_
            exact ⟨g9, c9, rfl, by rw [HRAW.out]; exact HD.out, by have h9 := HBL.out; rw [HB.out] at h9; exact h9⟩

end Go.Proofs.Ytmddffacjkkeiaa.Nd
