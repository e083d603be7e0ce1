/-
  Layer 5: moved: some nodes brought to the front, one after another.
-/
import Derived.Test.YtmddffacjkkeiaaDvMvOwn
import Derived.Test.YtmddffacjkkeiaaRfLaw
import Derived.Test.YtmddffacjkkeiaaRfRound
import Derived.Deep.RegionHeld3
import Derived.Deep.QuietTactic
import Derived.BigQuiet
import Derived.Deep.CutBlock
import Derived.Deep.LoopGhost
namespace Go.Proofs.Ytmddffacjkkeiaa.Nd
open Go Go.RowKit Go.ChangeShapes Go.WideShapes Go.Shelf
open Go.Proofs.Ytmddffacjkkeiaa.Rf

abbrev Box (w : World) (b : Nat) (u : Value) (s : Int) : Prop := w.heap[b]? = some (.cells #[u, .int .i64 s] 24 (0, 0))

/-- The next syntax's row, as far as it has come. -/
def Nx (wr wx : World) (E : Nat) (qs : List R3) : Prop := ∃ g c, Box wx E (.slice (some ⟨g, 0, none⟩) qs.length c) 0 ∧ OwnNd wx (E + 1) (.slice (some ⟨g, 0, none⟩) qs.length c) qs ∧ Below E wr wx

theorem cellB {A C : World} {n b j : Nat} {v : Value} (h : Below n A C) (hb : b < n) (hc : A.cell? ⟨b, j, none⟩ = some v) : C.cell? ⟨b, j, none⟩ = some v := (h.cell (p := ⟨b, j, none⟩) hb).trans hc

theorem own_keep {w wx : World} {b n size g : Nat} {e T : TypeId} {v : Value} {xs : List Value} {cs : Array Value} {fr : Nat × Nat} (h : w.ownsRow b e size v n xs) (hg : w.heap[g]? = some (.cells cs T fr)) (hT : e ≠ T) (hk : ∀ k, k < w.heap.size → k ≠ g → wx.heap[k]? = w.heap[k]?) : wx.ownsRow b e size v n xs := by
  refine ⟨h.1, ?_⟩
  rcases h.2 with h1 | ⟨g', cap, cur, hv, hb, hh, hr⟩
  · exact .inl h1
  · refine .inr ⟨g', cap, cur, hv, hb, (hk g' (lt_of_heap hh) (fun e => ?_)).trans hh, hr⟩
    subst e
    rw [hg] at hh
    cases hh
    exact hT rfl
theorem Sub.far {w wx : World} {r : R3} {g : Nat} {cs : Array Value} {fr : Nat × Nat} (h : Sub w r) (hg : w.heap[g]? = some (.cells cs 30 fr)) (hk : ∀ k, k < w.heap.size → k ≠ g → wx.heap[k]? = w.heap[k]?) : Sub wx r :=
  ⟨own_keep h.1 hg (by decide) hk, own_keep h.2 hg (by decide) hk⟩
theorem pull_rows {rs : List R3} {q : Nat} {r : R3} (h : rs[q]? = some r) : ([r] ++ rs.take q ++ rs.drop (q + 1)).map (·.1) = pull q (rs.map (·.1)) := by
  have hq := (List.getElem?_eq_some_iff.1 h).1
  unfold pull
  rw [at_nat (by rw [List.length_map]; exact hq), List.getElem_map, (List.getElem?_eq_some_iff.1 h).2, List.map_append, List.map_append, List.map_take, List.map_drop]
  rfl

/-- What 'moved' tells. -/
def Mvd (w : World) (l : List Nd) (root : Int) (e : Ending) (w' : World) : Prop := ∃ u m s rs, e = .returned (.agg #[u, .int .i64 s]) ∧ OwnNd w' w.heap.size u rs ∧ rs.map (·.1) = m ∧ Shuf l root m s ∧ (∀ n ∈ m, Fine n) ∧ In64 s ∧ Below w.heap.size w w'

set_option maxRecDepth 100000 in
set_option maxHeartbeats 8000000 in
theorem moved_fn (v vs : Value) (l : List Nd) (root : Int) (zs : List Int) (w : World) (hS : SynAt w v l root) (hZ : Lst w vs (zs.map (.int .i64))) (hzi : ∀ c ∈ zs, In64 c) (hl : l.length ≤ 1500) :
    Calls Try.prog 11 #[v, vs] w (Mvd w l root) := by
  have HS := Lib.hid hS
  obtain ⟨ao, c, rfl, hNd, hr1, hr2⟩ := hS.open
  obtain ⟨az, cz, rfl⟩ := hZ.slice (n := zs.length) (by rw [List.length_map])
  have HZ := Lib.hid hZ
  have HZI := Lib.hid hzi
  obtain ⟨L, hL⟩ : ∃ L, L = l.length := ⟨_, rfl⟩
  obtain ⟨K, hK⟩ : ∃ K, K = zs.length := ⟨_, rfl⟩
  have hb1 : Below w.heap.size w ((w.alloc (.cells #[.slice ao l.length c, .int .i64 root] 24)).alloc (.cells #[.slice none 0 0, .int .i64 0] 24)) := ((Below.refl _ _).alloc (Nat.le_refl _) _).alloc (by simp) _
  have hx1 : Box ((w.alloc (.cells #[.slice ao l.length c, .int .i64 root] 24)).alloc (.cells #[.slice none 0 0, .int .i64 0] 24)) (w.heap.size + 1) (.slice none 0 0) 0 := by
    have := new_block (w.alloc (.cells #[.slice ao l.length c, .int .i64 root] 24)) (.cells #[.slice none 0 0, .int .i64 0] 24)
    rwa [World.size_alloc] at this
  have hcopy := copy_syntax _ l root _ (hS.below hb1) hl
  rw [← hL] at HS hb1 hx1 hl hcopy ⊢
  rw [← hK] at HZ ⊢
  have HL := Lib.hid hL
  have HK := Lib.hid hK
  have HB1 := Lib.hid hb1
  have HX1 := Lib.hid hx1
  have HCOPY := Lib.hid hcopy
  clear hS hZ hzi hNd hL hK hb1 hx1 hcopy
  go_enter Try.func11, Try.ntmps11
  go_wp2_with fail
  refine HCOPY.out.mono ?_
  rintro e w1 ⟨u, rfl, rs, hown, hmap, hfine, hb2⟩
  obtain ⟨au, cu, rfl⟩ := own_slice hown.1
  have hrl : rs.length = L := by rw [← List.length_map (f := (·.1)), hmap, HL.out]
  rw [hrl] at hown ⊢
  obtain ⟨O, hO⟩ : ∃ O, w1.heap.size = O := ⟨_, rfl⟩
  have hb0 := HB1.out.size
  have hbs := hb2.size
  have hO1 : w.heap.size + 1 < O := by
    have h7 := lt_of_heap HX1.out
    omega
  have hal : Below w1.heap.size w1 (w1.alloc (.cells #[.slice au L cu, .int .i64 root] 24)) := (Below.refl _ _).alloc (Nat.le_refl _) _
  have hB3 : Below w.heap.size w (w1.alloc (.cells #[.slice au L cu, .int .i64 root] 24)) := (HB1.out.trans (hb2.mono hb0)).trans (hal.mono (by omega))
  have hX3 : Box (w1.alloc (.cells #[.slice au L cu, .int .i64 root] 24)) O (.slice au L cu) root := by rw [← hO]; exact new_block w1 _
  have hR3 : Box (w1.alloc (.cells #[.slice au L cu, .int .i64 root] 24)) (w.heap.size + 1) (.slice none 0 0) 0 := (hal.block _ (by omega)).trans ((hb2.block _ (by rw [← hO] at hO1; have := lt_of_heap HX1.out; omega)).trans HX1.out)
  have hstart : OwnNd (w1.alloc (.cells #[.slice au L cu, .int .i64 root] 24)) w.heap.size (.slice au L cu) rs ∧ rs.map (·.1) = l ∧ rs.length = L ∧ Shuf l root l root ∧ (∀ n ∈ l, Fine n) ∧ In64 root ∧ Box (w1.alloc (.cells #[.slice au L cu, .int .i64 root] 24)) O (.slice au L cu) root ∧ Box (w1.alloc (.cells #[.slice au L cu, .int .i64 root] 24)) (w.heap.size + 1) (.slice none 0 0) 0 ∧ Below w.heap.size w (w1.alloc (.cells #[.slice au L cu, .int .i64 root] 24)) :=
    ⟨(OwnNd.below ⟨ownsRow_base hown.1 (b' := w.heap.size) hb0, hown.2⟩ hal), hmap, hrl, .start, hfine, ⟨hr1, hr2⟩, hX3, hR3, hB3⟩
  have HSTART := Lib.hid hstart
  have HO1 := Lib.hid hO1
  have HO := Lib.hid hO
  clear hown hmap hfine hb2 hrl hb0 hbs hO1 hal hB3 hX3 hR3 hstart
  go_wp2_with fail
  go_loopg [6] K (fun r i wr => ∃ (k : Nat) (u : Value) (m : List Nd) (s : Int) (rs : List R3), r = K - k ∧ i = .int .i64 (k : Int) ∧ k ≤ K ∧ OwnNd wr w.heap.size u rs ∧ rs.map (·.1) = m ∧ rs.length = L ∧ Shuf l root m s ∧ (∀ n ∈ m, Fine n) ∧ In64 s ∧ Box wr O u s ∧ Box wr (w.heap.size + 1) (.slice none 0 0) 0 ∧ Below w.heap.size w wr)
  case atStart => exact ⟨0, _, l, root, rs, rfl, rfl, Nat.zero_le _, HSTART.out⟩
  case round =>
    clear HSTART hr1 hr2 HCOPY HX1 HB1
    obtain ⟨k, u, m, s, rs, rfl, rfl, hk, hown, hmap, hrl, hsh, hfine, hs64, hx, hres, hbe⟩ := hrel
    obtain ⟨au, cu, rfl⟩ := own_slice hown.1
    rw [hrl] at hx hown
    have x0 := cell_of hx 0 (.slice au L cu) rfl
    have x1 := cell_of hx 1 (.int .i64 s) rfl
    have y0 := cell_of hres 0 (.slice none 0 0) rfl
    have y1 := cell_of hres 1 (.int .i64 0) rfl
    have yf := free_of hres 0
    have yg := free_of hres 1
    have hfin : Mvd w l root (.returned (.agg #[.slice au L cu, .int .i64 s])) ((wr.setCell ⟨w.heap.size + 1, 0, none⟩ (.slice au L cu)).setCell ⟨w.heap.size + 1, 1, none⟩ (.int .i64 s)) := by
      have i1 := Joins.block_setCell (i := 0) hres (.slice au L cu)
      refine ⟨_, m, s, rs, rfl, ⟨?_, fun r hr => ((hown.2 r hr).set hres (by decide) (by decide)).set i1 (by decide) (by decide)⟩, hmap, hsh, hfine, hs64, (hbe.setCell (p := ⟨w.heap.size + 1, 0, none⟩) (by show w.heap.size ≤ w.heap.size + 1; omega) _).setCell (p := ⟨w.heap.size + 1, 1, none⟩) (by show w.heap.size ≤ w.heap.size + 1; omega) _⟩
      have h1 := hown.1
      rw [hrl] at h1 ⊢
      exact own_other (own_other h1 hres (by decide)) i1 (by decide)
    have hend2 := Joins.block_setCell (i := 1) (Joins.block_setCell (i := 0) hres (.slice au L cu)) (.int .i64 s)
    have z0 := cell_of hend2 0 (.slice au L cu) rfl
    have z1 := cell_of hend2 1 (.int .i64 s) rfl
    have HFIN := Lib.hid hfin
    have HZ0 := Lib.hid z0
    have HZ1 := Lib.hid z1
    have HOWN := Lib.hid hown
    have HMAP := Lib.hid hmap
    have HRL := Lib.hid hrl
    have HSH := Lib.hid hsh
    have HFINE := Lib.hid hfine
    have HS64 := Lib.hid hs64
    have HX := Lib.hid hx
    have HRES := Lib.hid hres
    have HBE := Lib.hid hbe
    clear hfin hend2 z0 z1 hown hmap hrl hsh hfine hs64 hx hres hbe
    by_cases c1 : k < K
    case neg =>
      have j1 : ¬ (k : Int) < K := by omega
      go_wp2_with fail
      refine bodyPost_ret (v := .agg #[.slice au L cu, .int .i64 s]) (by simp [results, Try.results11, go_sem, HZ0.out, HZ1.out]) rfl HFIN.out
    have j1 : (k : Int) < K := by omega
    by_cases c2 : k < 20
    case neg =>
      have j2 : ¬ (k : Int) < 20 := by omega
      go_wp2_with fail
      refine bodyPost_ret (v := .agg #[.slice au L cu, .int .i64 s]) (by simp [results, Try.results11, go_sem, HZ0.out, HZ1.out]) rfl HFIN.out
    have j2 : (k : Int) < 20 := by omega
    by_cases c3 : 0 < L
    case neg =>
      have j3 : ¬ (0 : Int) < L := by omega
      go_wp2_with fail
      refine bodyPost_ret (v := .agg #[.slice au L cu, .int .i64 s]) (by simp [results, Try.results11, go_sem, HZ0.out, HZ1.out]) rfl HFIN.out
    have j3 : (0 : Int) < L := by omega
    have hkz : k < zs.length := by have := HK.out; omega
    obtain ⟨gz, oz, rfl, hcz⟩ := (HZ.out.below HBE.out).int hkz
    have hzk := HZI.out _ (List.getElem_mem hkz)
    obtain ⟨z, hz⟩ : ∃ z, zs[k] = z := ⟨_, rfl⟩
    rw [hz] at hcz hzk
    obtain ⟨q, hq, hqL⟩ : ∃ q : Nat, pickZ z (L : Int) = q ∧ q < L := by
      have h1 := Int.emod_nonneg z (show (L : Int) ≠ 0 by omega)
      have h2 := Int.emod_lt_of_pos z (show 0 < (L : Int) by omega)
      refine ⟨(z % (L : Int)).toNat, ?_, by omega⟩
      unfold pickZ
      rw [if_neg (by omega)]
      omega
    have hpick : ∀ W, Calls Try.prog 13 #[.int .i64 z, .int .i64 (L : Int)] W fun e w' => e = .returned (.int .i64 (q : Int)) ∧ w' = W := fun W => by
      have := law_pick z (L : Int) W hzk ⟨by omega, by omega⟩
      rw [hq] at this
      exact this.mono fun _ _ h => ⟨h.1, h.2.symm⟩
    have HPICK := Lib.hid hpick
    have HQL := Lib.hid hqL
    have HC1 := Lib.hid c1
    clear hpick hzk hz hkz hq hqL c1 c2 c3
    have k0 : (0 : Int) ≤ k := Int.natCast_nonneg _
    go_wp2_with fail
    go_quiet ((go_at_call 13; exact Calls.quiet_of_same (HPICK.out _)))
    clear HFIN HZ0 HZ1 y0 y1 yf yg
    -- the node that is brought to the front
    have hrow := HOWN.out.1
    rw [HRL.out] at hrow
    obtain ⟨gu, cu0, hu0⟩ := own_ne hrow (by omega)
    cases hu0
    obtain ⟨_, _, _, cur, hgu, hcur⟩ := own_at hrow
    have hgul := lt_of_heap hgu
    have HQL2 := Lib.hid (show q < rs.length by have := HRL.out; have := HQL.out; omega)
    obtain ⟨r, hr⟩ : ∃ r, rs[q]? = some r := ⟨_, List.getElem?_eq_getElem HQL2.out⟩
    have hrS : Sub wr r := HOWN.out.2 r (List.mem_of_getElem? hr)
    obtain ⟨nd, vn, vk⟩ := r
    have s1 := own_slice hrS.1
    have s2 := own_slice hrS.2
    dsimp only at s1 s2
    obtain ⟨an, cn, rfl⟩ := s1
    obtain ⟨ak, ck, rfl⟩ := s2
    have hat : ∀ i v, i < 6 → (cells6 (nd, .slice an nd.names.length cn, .slice ak nd.kids.length ck))[i]? = some v → wr.cell? ⟨gu, q * 6 + i, none⟩ = some v := fun i v hi h => cell_of hgu _ v (hcur _ v (by rw [row_at rs q i _ hr hi, h]))
    have d0 := hat 0 _ (by omega) rfl
    have d1 := hat 1 _ (by omega) rfl
    have d2 := hat 2 _ (by omega) rfl
    have d3 := hat 3 _ (by omega) rfl
    have d4 := hat 4 _ (by omega) rfl
    have d5 := hat 5 _ (by omega) rfl
    obtain ⟨E, hE⟩ : ∃ E, wr.heap.size = E := ⟨_, rfl⟩
    have hw7 : Box ((wr.drewN nq).alloc (.cells #[.slice none 0 0, .int .i64 0] 24)) E (.slice none 0 0) 0 := by rw [← hE]; exact new_block (wr.drewN nq) _
    have hb7 : Below E wr ((wr.drewN nq).alloc (.cells #[.slice none 0 0, .int .i64 0] 24)) := by
      rw [← hE]
      exact (below_drewN (Below.refl _ _) nq).alloc (by show wr.heap.size ≤ wr.heap.size; omega) _
    have HXL := Lib.hid (lt_of_heap HX.out)
    have HRS := Lib.hid (lt_of_heap HRES.out)
    have HGU := Lib.hid hgu
    have HCUR := Lib.hid hcur
    have HR := Lib.hid hr
    have HSUB := Lib.hid hrS
    rw [hE] at HXL HRS hgul
    have HEE := Lib.hid hE
    have hmx : Try.prog.follows .mixedOrders = true := by kernel_rfl
    have hq0 : (0 : Int) ≤ q := Int.natCast_nonneg _
    have hq1 : (q : Int) < L := Int.ofNat_lt.2 HQL.out
    clear hrow hgu hcur hr hrS hat
    dsimp only at d0 d1 d2 d3 d4 d5
    rw [Nat.add_zero] at d0
    go_upto_region 7 with fail
    go_cut [] (fun wx => ∃ qs, qs = [(nd, Value.slice an nd.names.length cn, Value.slice ak nd.kids.length ck)] ∧ Nx wr wx E qs)
    case first =>
      obtain ⟨W, hW⟩ : ∃ W, (wr.drewN nq).alloc (.cells #[.slice none 0 0, .int .i64 0] 24) = W := ⟨_, rfl⟩
      rw [hW] at hw7 hb7 ⊢
      have hsW : W.heap.size = E + 1 := by rw [← hW, ← hE]; simp
      obtain ⟨v1, w8, hrun, ho, hb8, hg8⟩ := own_append_rows (w := (W.alloc (.cells #[.int .u8 (nd.k : Int), .int .i64 nd.n, .string nd.name, .slice an nd.names.length cn, .slice ak nd.kids.length ck, .int .i64 nd.line] 30)).drew) (base := E + 1) (v := .slice none 0 0) (rs := []) (qs := [(nd, .slice an nd.names.length cn, .slice ak nd.kids.length ck)]) ⟨World.ownsRow_nil _ _ _ _, fun r h => by cases h⟩
        (fun r h => by rw [List.mem_singleton.1 h]; exact (HSUB.out.below (by rw [hE]; exact hb7)).below (((Below.refl _ _).alloc (Nat.le_refl _) _).drew)) (E + 1) 0 1
        (fun j u hj => by
          have e := World.cell?_alloc_mark W #[.int .u8 (nd.k : Int), .int .i64 nd.n, .string nd.name, .slice an nd.names.length cn, .slice ak nd.kids.length ck, .int .i64 nd.line] 30 (0, 0) j
          rw [hsW] at e
          rw [Nat.zero_add]
          refine Eq.trans (show _ = _ from rfl) (e.trans ?_)
          rw [← hj]
          simp [rowCells, cells6]) (by simp) (by show E + 1 ≤ (W.alloc _).heap.size; simp; omega)
      obtain ⟨g1, c1, rfl⟩ := own_ne ho.1 (by simp)
      have hal8 : Below E wr (W.alloc (.cells #[.int .u8 (nd.k : Int), .int .i64 nd.n, .string nd.name, .slice an nd.names.length cn, .slice ak nd.kids.length ck, .int .i64 nd.line] 30)).drew := (hb7.alloc (by omega) _).drew
      have hbx : Box w8 E (.slice none 0 0) 0 := (hb8.block _ (by omega)).trans ((Below.heap_alloc W _ _ (by omega)).trans hw7)
      have hfin : (Box (w8.setCell ⟨E, 0, none⟩ (.slice (some ⟨g1, 0, none⟩) 1 c1)) E (.slice (some ⟨g1, 0, none⟩) 1 c1) 0 ∧ OwnNd (w8.setCell ⟨E, 0, none⟩ (.slice (some ⟨g1, 0, none⟩) 1 c1)) (E + 1) (.slice (some ⟨g1, 0, none⟩) 1 c1) [(nd, .slice an nd.names.length cn, .slice ak nd.kids.length ck)] ∧ Below E wr (w8.setCell ⟨E, 0, none⟩ (.slice (some ⟨g1, 0, none⟩) 1 c1))) ∧ w8.cell? ⟨E, 0, none⟩ = some (.slice none 0 0) ∧ w8.frozen? ⟨E, 0, none⟩ = false ∧ Below E wr w8 ∧ True :=
        ⟨⟨Joins.block_setCell (i := 0) hbx _, ⟨ownsRow_setCell_below (a := ⟨E, 0, none⟩) ho.1 (by show E < E + 1; omega) _, fun r h => (ho.2 r h).set hbx (by decide) (by decide)⟩, (hal8.trans (hb8.mono (by omega))).setCell (p := ⟨E, 0, none⟩) (Nat.le_refl _) _⟩, cell_of hbx 0 _ rfl, free_of hbx 0, hal8.trans (hb8.mono (by omega)), trivial⟩
      have HF := Lib.hid hfin
      have hrun2 : (Builtin.append_ #[22, 22] 22 #[.slice none 0 0, .slice (some ⟨E + 1, 0, none⟩) 1 1]).run Try.prog (W.alloc (.cells #[.int .u8 (nd.k : Int), .int .i64 nd.n, .string nd.name, .slice an nd.names.length cn, .slice ak nd.kids.length ck, .int .i64 nd.line] 30)).drew = .ok (.slice (some ⟨g1, 0, none⟩) 1 c1) w8 := hrun
      have HRUN := Lib.hid hrun2
      clear hrun2
      have HAL8 := Lib.hid hal8
      have m0 := cell_of hw7 0 (.slice none 0 0) rfl
      obtain ⟨m8, f8⟩ : w8.cell? ⟨E, 0, none⟩ = some (.slice none 0 0) ∧ w8.frozen? ⟨E, 0, none⟩ = false := ⟨hfin.2.1, hfin.2.2.1⟩
      clear hfin hrun hal8 hbx ho hb8 hg8 hw7
      refine wp_region_noPanic (wp_region_held_drew (S := fun W' => Below E wr W') hmx hb7.drew (fun hS => ?_))
      refine wpAnyH_take (i := 0) (v := .pointer (some ⟨E, 0, none⟩)) rfl (by kernel_rfl) (by kernel_rfl) (by kernel_rfl) (fun _ _ _ h => h) (.inl ⟨by rfl, fun w' hs => ?_⟩) hS ?_
      · clear hs
        go_simp
      simp only [List.getElem_toArray, List.getElem_cons_zero, Act.put, List.setIfInBounds_toArray, List.set_cons_zero, List.set_cons_succ]
      refine wpAnyH_take (i := 2) (v := .pointer (some ⟨O, 0, none⟩)) rfl (by kernel_rfl) (by kernel_rfl) (by kernel_rfl) (fun _ _ _ h => h) (.inl ⟨by rfl, fun w' hs => ?_⟩) hS ?_
      · clear hs
        go_simp
      simp only [List.getElem_toArray, List.getElem_cons_succ, List.getElem_cons_zero, Act.put, List.setIfInBounds_toArray, List.set_cons_zero, List.set_cons_succ]
      refine wpAnyH_take (i := 3) (v := .slice (some ⟨gu, 0, none⟩) L cu) rfl (by kernel_rfl) (by kernel_rfl) (by kernel_rfl) (fun _ _ _ h => h) (.inl ⟨by rfl, fun w' hs => ?_⟩) hS ?_
      · have x0 := cellB hs HXL.out x0
        clear hs
        go_simp
      simp only [List.getElem_toArray, List.getElem_cons_succ, List.getElem_cons_zero, Act.put, List.setIfInBounds_toArray, List.set_cons_zero, List.set_cons_succ]
      refine wpAnyH_take (i := 4) (v := .int .i64 (q : Int)) rfl (by kernel_rfl) (by kernel_rfl) (by kernel_rfl) (fun _ _ _ h => h) (.inl ⟨by rfl, fun w' hs => ?_⟩) hS ?_
      · clear hs
        go_simp
      simp only [List.getElem_toArray, List.getElem_cons_succ, List.getElem_cons_zero, Act.put, List.setIfInBounds_toArray, List.set_cons_zero, List.set_cons_succ]
      refine wpAnyH_take (i := 5) (v := .pointer (some ⟨gu, q * 6, none⟩)) rfl (by kernel_rfl) (by kernel_rfl) (by kernel_rfl) (fun _ _ _ h => h) (.inl ⟨by rfl, fun w' hs => ?_⟩) hS ?_
      · clear hs
        go_simp
      simp only [List.getElem_toArray, List.getElem_cons_succ, List.getElem_cons_zero, Act.put, List.setIfInBounds_toArray, List.set_cons_zero, List.set_cons_succ]
      refine wpAnyH_take (i := 6) (v := .agg #[.int .u8 (nd.k : Int), .int .i64 nd.n, .string nd.name, .slice an nd.names.length cn, .slice ak nd.kids.length ck, .int .i64 nd.line]) rfl (by kernel_rfl) (by kernel_rfl) (by kernel_rfl) (fun _ _ _ h => h) (.inl ⟨by rfl, fun w' hs => ?_⟩) hS ?_
      · have x0 := cellB hs hgul d0
        have x1 := cellB hs hgul d1
        have x2 := cellB hs hgul d2
        have x3 := cellB hs hgul d3
        have x4 := cellB hs hgul d4
        have x5 := cellB hs hgul d5
        clear hs
        go_simp
      simp only [List.getElem_toArray, List.getElem_cons_succ, List.getElem_cons_zero, Act.put, List.setIfInBounds_toArray, List.set_cons_zero, List.set_cons_succ]
      refine wpAnyH_ready (rs := [1, 7]) (by kernel_rfl) (by simp) (AllReadyH.cons rfl (fun K hK => ?_) (AllReadyH.cons rfl (fun K hK => ?_) AllReadyH.nil))
      · go_simp
        refine hK.out _ _ hS (fun hS => ?_)
        clear hK
        refine wpAnyH_ready (rs := [7]) (by kernel_rfl) (by simp) (AllReadyH.cons rfl (fun K hK => ?_) AllReadyH.nil)
        go_simp
        refine hK.out _ _ HAL8.out (fun hS => ?_)
        clear hK
        refine wpAnyH_ready (rs := [8]) (by kernel_rfl) (by simp) (AllReadyH.cons rfl (fun K hK => ?_) AllReadyH.nil)
        refine ready_value (by rfl) (w' := w8) (v := .slice (some ⟨g1, 0, none⟩) 1 c1) (by simp [execOp, resolve, invoke, builtin, HRUN.out, Result.andThen, Act.eval]) ?_
        refine hK.out _ _ HF.out.2.2.2.1 (fun hS => ?_)
        clear hK
        refine wpAnyH_take (i := 9) (v := .pointer (some ⟨E, 0, none⟩)) rfl (by kernel_rfl) (by kernel_rfl) (by kernel_rfl) (fun _ _ _ h => h) (.inl ⟨by rfl, fun w' hs => ?_⟩) hS ?_
        · clear hs
          go_simp
        simp only [List.getElem_toArray, List.getElem_cons_succ, List.getElem_cons_zero, Act.put, List.setIfInBounds_toArray, List.set_cons_zero, List.set_cons_succ]
        refine wpAnyH_ready (rs := [10]) (by kernel_rfl) (by simp) (AllReadyH.cons rfl (fun K hK => ?_) AllReadyH.nil)
        go_simp
        refine hK.out _ _ HF.out.1.2.2 (fun hS => ?_)
        clear hK
        refine wpAnyH_done (by kernel_rfl) (NoPanic.normal ?_) _
        go_wp2_with fail
        go_meet
        exact ⟨_, rfl, g1, c1, HF.out.1⟩
      · go_simp
        refine hK.out _ _ HAL8.out (fun hS => ?_)
        clear hK
        refine wpAnyH_ready (rs := [1]) (by kernel_rfl) (by simp) (AllReadyH.cons rfl (fun K hK => ?_) AllReadyH.nil)
        go_simp
        refine hK.out _ _ hS (fun hS => ?_)
        clear hK
        refine wpAnyH_ready (rs := [8]) (by kernel_rfl) (by simp) (AllReadyH.cons rfl (fun K hK => ?_) AllReadyH.nil)
        refine ready_value (by rfl) (w' := w8) (v := .slice (some ⟨g1, 0, none⟩) 1 c1) (by simp [execOp, resolve, invoke, builtin, HRUN.out, Result.andThen, Act.eval]) ?_
        refine hK.out _ _ HF.out.2.2.2.1 (fun hS => ?_)
        clear hK
        refine wpAnyH_take (i := 9) (v := .pointer (some ⟨E, 0, none⟩)) rfl (by kernel_rfl) (by kernel_rfl) (by kernel_rfl) (fun _ _ _ h => h) (.inl ⟨by rfl, fun w' hs => ?_⟩) hS ?_
        · clear hs
          go_simp
        simp only [List.getElem_toArray, List.getElem_cons_succ, List.getElem_cons_zero, Act.put, List.setIfInBounds_toArray, List.set_cons_zero, List.set_cons_succ]
        refine wpAnyH_ready (rs := [10]) (by kernel_rfl) (by simp) (AllReadyH.cons rfl (fun K hK => ?_) AllReadyH.nil)
        go_simp
        refine hK.out _ _ HF.out.1.2.2 (fun hS => ?_)
        clear hK
        refine wpAnyH_done (by kernel_rfl) (NoPanic.normal ?_) _
        go_wp2_with fail
        go_meet
        exact ⟨_, rfl, g1, c1, HF.out.1⟩
    case rest =>
      have hcap : L ≤ cu := by
        have h0 := HOWN.out.1
        rw [HRL.out] at h0
        exact (own_at h0).2.2.1
      clear hw7 hb7 d0 d1 d2 d3 d4 d5
      have hc4 : ¬ cu < q := by have := HQL.out; omega
      go_upto_region 8 with fail
      go_cut [] (fun wx => ∃ qs, qs = [(nd, Value.slice an nd.names.length cn, Value.slice ak nd.kids.length ck)] ++ rs.take q ∧ Nx wr wx E qs)
      case first =>
        obtain ⟨qs, hqs, g1, c1, hbx, hown1, hbw⟩ := hcut
        have hql : 0 < qs.length ∧ qs.length ≤ 4000 := by rw [hqs]; simp
        have hcw := lt_of_heap hbx
        obtain ⟨v1, w8, hrun, ho, hb8, hg8⟩ := own_append_rows (w := wc.drew) (base := E + 1) (v := .slice (some ⟨g1, 0, none⟩) qs.length c1) (rs := qs) (qs := rs.take q) ⟨hown1.1, hown1.2⟩
          (fun r h => (HOWN.out.2 r (List.mem_of_mem_take h)).below (by rw [HEE.out]; exact hbw.drew)) gu (0) (cu)
          (fun j u hj => ((hbw.cell (p := ⟨gu, _, none⟩) hgul).trans (cell_of HGU.out _ u (HCUR.out _ u (by rw [Nat.zero_add]; exact row_take rs q j u hj))))) (by have := HRL.out; simp; omega) (by show E + 1 ≤ wc.heap.size; omega)
        obtain ⟨g2, c2, rfl⟩ := own_ne ho.1 (by rw [List.length_append]; omega)
        have hrun2 : (Builtin.append_ #[22, 22] 22 #[.slice (some ⟨g1, 0, none⟩) qs.length c1, .slice (some ⟨gu, 0, none⟩) (q) (cu)]).run Try.prog wc.drew = .ok (.slice (some ⟨g2, 0, none⟩) (qs ++ rs.take q).length c2) w8 := by
          have e : (rs.take q).length = q := by have := HRL.out; simp; omega
          rw [e] at hrun
          exact hrun
        have hbx8 : Box w8 E (.slice (some ⟨g1, 0, none⟩) qs.length c1) 0 := (hb8.block _ (by omega)).trans hbx
        have hb9 : Below E wr w8 := hbw.drew.trans (hb8.mono (by omega))
        have hfin : (Box (w8.setCell ⟨E, 0, none⟩ (.slice (some ⟨g2, 0, none⟩) (qs ++ rs.take q).length c2)) E (.slice (some ⟨g2, 0, none⟩) (qs ++ rs.take q).length c2) 0 ∧ OwnNd (w8.setCell ⟨E, 0, none⟩ (.slice (some ⟨g2, 0, none⟩) (qs ++ rs.take q).length c2)) (E + 1) (.slice (some ⟨g2, 0, none⟩) (qs ++ rs.take q).length c2) (qs ++ rs.take q) ∧ Below E wr (w8.setCell ⟨E, 0, none⟩ (.slice (some ⟨g2, 0, none⟩) (qs ++ rs.take q).length c2))) ∧ Below E wr w8 :=
          ⟨⟨Joins.block_setCell (i := 0) hbx8 _, ⟨ownsRow_setCell_below (a := ⟨E, 0, none⟩) ho.1 (by show E < E + 1; omega) _, fun r h => (ho.2 r h).set hbx8 (by decide) (by decide)⟩, hb9.setCell (p := ⟨E, 0, none⟩) (Nat.le_refl _) _⟩, hb9⟩
        have HF := Lib.hid hfin
        have HRUN := Lib.hid hrun2
        have HQS := Lib.hid hqs
        have m0 := cell_of hbx 0 (.slice (some ⟨g1, 0, none⟩) qs.length c1) rfl
        have m8 := cell_of hbx8 0 (.slice (some ⟨g1, 0, none⟩) qs.length c1) rfl
        have f8 := free_of hbx8 0
        clear hfin hrun hrun2 hbx hbx8 ho hb8 hg8 hown1 hb9 hcw
        obtain ⟨n2, hn2⟩ : ∃ n2, (qs ++ rs.take q).length = n2 := ⟨_, rfl⟩
        rw [hn2] at HF HRUN
        have HN2 := Lib.hid hn2
        clear hn2 hqs
        refine wp_region_noPanic (wp_region_held_drew (S := fun W' => Below E wr W') hmx hbw.drew (fun hS => ?_))
        refine wpAnyH_take (i := 0) (v := .pointer (some ⟨E, 0, none⟩)) rfl (by kernel_rfl) (by kernel_rfl) (by kernel_rfl) (fun _ _ _ h => h) (.inl ⟨by rfl, fun w' hs => ?_⟩) hS ?_
        · clear hs
          go_simp
        simp only [List.getElem_toArray, List.getElem_cons_zero, Act.put, List.setIfInBounds_toArray, List.set_cons_zero, List.set_cons_succ]
        refine wpAnyH_take (i := 2) (v := .pointer (some ⟨O, 0, none⟩)) rfl (by kernel_rfl) (by kernel_rfl) (by kernel_rfl) (fun _ _ _ h => h) (.inl ⟨by rfl, fun w' hs => ?_⟩) hS ?_
        · clear hs
          go_simp
        simp only [List.getElem_toArray, List.getElem_cons_succ, List.getElem_cons_zero, Act.put, List.setIfInBounds_toArray, List.set_cons_zero, List.set_cons_succ]
        refine wpAnyH_take (i := 3) (v := .slice (some ⟨gu, 0, none⟩) L cu) rfl (by kernel_rfl) (by kernel_rfl) (by kernel_rfl) (fun _ _ _ h => h) (.inl ⟨by rfl, fun w' hs => ?_⟩) hS ?_
        · have x0 := cellB hs HXL.out x0
          clear hs
          go_simp
        simp only [List.getElem_toArray, List.getElem_cons_succ, List.getElem_cons_zero, Act.put, List.setIfInBounds_toArray, List.set_cons_zero, List.set_cons_succ]
        refine wpAnyH_take (i := 4) (v := .int .i64 (q : Int)) rfl (by kernel_rfl) (by kernel_rfl) (by kernel_rfl) (fun _ _ _ h => h) (.inl ⟨by rfl, fun w' hs => ?_⟩) hS ?_
        · clear hs
          go_simp
        simp only [List.getElem_toArray, List.getElem_cons_succ, List.getElem_cons_zero, Act.put, List.setIfInBounds_toArray, List.set_cons_zero, List.set_cons_succ]
        refine wpAnyH_take (i := 5) (v := .slice (some ⟨gu, 0, none⟩) q cu) rfl (by kernel_rfl) (by kernel_rfl) (by kernel_rfl) (fun _ _ _ h => h) (.inl ⟨by rfl, fun w' hs => ?_⟩) hS ?_
        · clear hs
          go_simp
        simp only [List.getElem_toArray, List.getElem_cons_succ, List.getElem_cons_zero, Act.put, List.setIfInBounds_toArray, List.set_cons_zero, List.set_cons_succ]
        refine wpAnyH_ready (rs := [1]) (by kernel_rfl) (by simp) (AllReadyH.cons rfl (fun K hK => ?_) AllReadyH.nil)
        go_simp
        refine hK.out _ _ hS (fun hS => ?_)
        clear hK
        refine wpAnyH_ready (rs := [6]) (by kernel_rfl) (by simp) (AllReadyH.cons rfl (fun K hK => ?_) AllReadyH.nil)
        refine ready_value (by rfl) (w' := w8) (v := .slice (some ⟨g2, 0, none⟩) n2 c2) (by simp [execOp, resolve, invoke, builtin, HRUN.out, Result.andThen, Act.eval]) ?_
        refine hK.out _ _ HF.out.2 (fun hS => ?_)
        clear hK
        refine wpAnyH_take (i := 7) (v := .pointer (some ⟨E, 0, none⟩)) rfl (by kernel_rfl) (by kernel_rfl) (by kernel_rfl) (fun _ _ _ h => h) (.inl ⟨by rfl, fun w' hs => ?_⟩) hS ?_
        · clear hs
          go_simp
        simp only [List.getElem_toArray, List.getElem_cons_succ, List.getElem_cons_zero, Act.put, List.setIfInBounds_toArray, List.set_cons_zero, List.set_cons_succ]
        refine wpAnyH_ready (rs := [8]) (by kernel_rfl) (by simp) (AllReadyH.cons rfl (fun K hK => ?_) AllReadyH.nil)
        go_simp
        refine hK.out _ _ HF.out.1.2.2 (fun hS => ?_)
        clear hK
        refine wpAnyH_done (by kernel_rfl) (NoPanic.normal ?_) _
        go_wp2_with fail
        go_meet
        have hn2 := HN2.out
        subst hn2
        exact ⟨_, by rw [HQS.out], g2, c2, HF.out.1⟩
      case rest =>
        go_upto_region 9 with fail
        go_cut [] (fun wx => ∃ qs, qs = [(nd, Value.slice an nd.names.length cn, Value.slice ak nd.kids.length ck)] ++ rs.take q ++ rs.drop (q + 1) ∧ Nx wr wx E qs)
        case first =>
          have hqw : IntKind.i64.wrap ((q : Int) + 1) = (q : Int) + 1 := IntWalk.i64_in _ (by have := HQL.out; omega)
          have hqt : ((q : Int) + 1).toNat = q + 1 := by omega
          have hq2 : (0 : Int) ≤ (q : Int) + 1 := by omega
          have hq3 : (q : Int) + 1 ≤ L := by omega
          have hc5 : ¬ cu < q + 1 := by have := HQL.out; omega
          obtain ⟨oo, hoo, ho1⟩ : ∃ oo, (if cu = q + 1 then (some ⟨gu, 0, none⟩ : Option Addr) else some ⟨gu, (q + 1) * 6, none⟩) = some ⟨gu, oo, none⟩ ∧ (q + 1 < L → oo = (q + 1) * 6) := by
            by_cases h : cu = q + 1
            · exact ⟨0, by rw [if_pos h], fun h2 => by omega⟩
            · exact ⟨(q + 1) * 6, by rw [if_neg h], fun _ => rfl⟩
          have HO1 := Lib.hid ho1
          clear ho1
          obtain ⟨qs, hqs, g1, c1, hbx, hown1, hbw⟩ := hcut
          have hql : 0 < qs.length ∧ qs.length ≤ 4000 := by rw [hqs]; simp; have := HRL.out; omega
          have hcw := lt_of_heap hbx
          obtain ⟨v1, w8, hrun, ho, hb8, hg8⟩ := own_append_rows (w := wc.drew) (base := E + 1) (v := .slice (some ⟨g1, 0, none⟩) qs.length c1) (rs := qs) (qs := rs.drop (q + 1)) ⟨hown1.1, hown1.2⟩
            (fun r h => (HOWN.out.2 r (List.mem_of_mem_drop h)).below (by rw [HEE.out]; exact hbw.drew)) gu oo (cu - (q + 1))
            (fun j u hj => ((hbw.cell (p := ⟨gu, _, none⟩) hgul).trans (cell_of HGU.out _ u (HCUR.out _ u (by
            have h9 := (List.getElem?_eq_some_iff.1 hj).1
            rw [row_length, List.length_drop] at h9
            rw [HO1.out (by have := HRL.out; omega)]
            exact row_drop rs (q + 1) (by have := HQL2.out; omega) j u hj))))) (by have := HRL.out; simp; omega) (by show E + 1 ≤ wc.heap.size; omega)
          obtain ⟨g2, c2, rfl⟩ := own_ne ho.1 (by rw [List.length_append]; omega)
          have hrun2 : (Builtin.append_ #[22, 22] 22 #[.slice (some ⟨g1, 0, none⟩) qs.length c1, .slice (some ⟨gu, oo, none⟩) (L - (q + 1)) (cu - (q + 1))]).run Try.prog wc.drew = .ok (.slice (some ⟨g2, 0, none⟩) (qs ++ rs.drop (q + 1)).length c2) w8 := by
            have e : (rs.drop (q + 1)).length = L - (q + 1) := by have := HRL.out; simp; omega
            rw [e] at hrun
            exact hrun
          have hbx8 : Box w8 E (.slice (some ⟨g1, 0, none⟩) qs.length c1) 0 := (hb8.block _ (by omega)).trans hbx
          have hb9 : Below E wr w8 := hbw.drew.trans (hb8.mono (by omega))
          have hfin : (Box (w8.setCell ⟨E, 0, none⟩ (.slice (some ⟨g2, 0, none⟩) (qs ++ rs.drop (q + 1)).length c2)) E (.slice (some ⟨g2, 0, none⟩) (qs ++ rs.drop (q + 1)).length c2) 0 ∧ OwnNd (w8.setCell ⟨E, 0, none⟩ (.slice (some ⟨g2, 0, none⟩) (qs ++ rs.drop (q + 1)).length c2)) (E + 1) (.slice (some ⟨g2, 0, none⟩) (qs ++ rs.drop (q + 1)).length c2) (qs ++ rs.drop (q + 1)) ∧ Below E wr (w8.setCell ⟨E, 0, none⟩ (.slice (some ⟨g2, 0, none⟩) (qs ++ rs.drop (q + 1)).length c2))) ∧ Below E wr w8 :=
            ⟨⟨Joins.block_setCell (i := 0) hbx8 _, ⟨ownsRow_setCell_below (a := ⟨E, 0, none⟩) ho.1 (by show E < E + 1; omega) _, fun r h => (ho.2 r h).set hbx8 (by decide) (by decide)⟩, hb9.setCell (p := ⟨E, 0, none⟩) (Nat.le_refl _) _⟩, hb9⟩
          have HF := Lib.hid hfin
          have HRUN := Lib.hid hrun2
          have HQS := Lib.hid hqs
          have m0 := cell_of hbx 0 (.slice (some ⟨g1, 0, none⟩) qs.length c1) rfl
          have m8 := cell_of hbx8 0 (.slice (some ⟨g1, 0, none⟩) qs.length c1) rfl
          have f8 := free_of hbx8 0
          clear hfin hrun hrun2 hbx hbx8 ho hb8 hg8 hown1 hb9 hcw
          obtain ⟨n2, hn2⟩ : ∃ n2, (qs ++ rs.drop (q + 1)).length = n2 := ⟨_, rfl⟩
          rw [hn2] at HF HRUN
          have HN2 := Lib.hid hn2
          clear hn2 hqs
          refine wp_region_noPanic (wp_region_held_drew (S := fun W' => Below E wr W') hmx hbw.drew (fun hS => ?_))
          refine wpAnyH_take (i := 0) (v := .pointer (some ⟨E, 0, none⟩)) rfl (by kernel_rfl) (by kernel_rfl) (by kernel_rfl) (fun _ _ _ h => h) (.inl ⟨by rfl, fun w' hs => ?_⟩) hS ?_
          · clear hs
            go_simp
          simp only [List.getElem_toArray, List.getElem_cons_zero, Act.put, List.setIfInBounds_toArray, List.set_cons_zero, List.set_cons_succ]
          refine wpAnyH_take (i := 2) (v := .pointer (some ⟨O, 0, none⟩)) rfl (by kernel_rfl) (by kernel_rfl) (by kernel_rfl) (fun _ _ _ h => h) (.inl ⟨by rfl, fun w' hs => ?_⟩) hS ?_
          · clear hs
            go_simp
          simp only [List.getElem_toArray, List.getElem_cons_succ, List.getElem_cons_zero, Act.put, List.setIfInBounds_toArray, List.set_cons_zero, List.set_cons_succ]
          refine wpAnyH_take (i := 3) (v := .slice (some ⟨gu, 0, none⟩) L cu) rfl (by kernel_rfl) (by kernel_rfl) (by kernel_rfl) (fun _ _ _ h => h) (.inl ⟨by rfl, fun w' hs => ?_⟩) hS ?_
          · have x0 := cellB hs HXL.out x0
            clear hs
            go_simp
          simp only [List.getElem_toArray, List.getElem_cons_succ, List.getElem_cons_zero, Act.put, List.setIfInBounds_toArray, List.set_cons_zero, List.set_cons_succ]
          refine wpAnyH_take (i := 4) (v := .int .i64 (q : Int)) rfl (by kernel_rfl) (by kernel_rfl) (by kernel_rfl) (fun _ _ _ h => h) (.inl ⟨by rfl, fun w' hs => ?_⟩) hS ?_
          · clear hs
            go_simp
          simp only [List.getElem_toArray, List.getElem_cons_succ, List.getElem_cons_zero, Act.put, List.setIfInBounds_toArray, List.set_cons_zero, List.set_cons_succ]
          refine wpAnyH_take (i := 5) (v := .int .i64 ((q : Int) + 1)) rfl (by kernel_rfl) (by kernel_rfl) (by kernel_rfl) (fun _ _ _ h => h) (.inl ⟨by rfl, fun w' hs => ?_⟩) hS ?_
          · clear hs
            go_simp
          simp only [List.getElem_toArray, List.getElem_cons_succ, List.getElem_cons_zero, Act.put, List.setIfInBounds_toArray, List.set_cons_zero, List.set_cons_succ]
          refine wpAnyH_take (i := 6) (v := .slice (some ⟨gu, oo, none⟩) (L - (q + 1)) (cu - (q + 1))) rfl (by kernel_rfl) (by kernel_rfl) (by kernel_rfl) (fun _ _ _ h => h) (.inl ⟨by rfl, fun w' hs => ?_⟩) hS ?_
          · clear hs
            go_simp
          simp only [List.getElem_toArray, List.getElem_cons_succ, List.getElem_cons_zero, Act.put, List.setIfInBounds_toArray, List.set_cons_zero, List.set_cons_succ]
          refine wpAnyH_ready (rs := [1]) (by kernel_rfl) (by simp) (AllReadyH.cons rfl (fun K hK => ?_) AllReadyH.nil)
          go_simp
          refine hK.out _ _ hS (fun hS => ?_)
          clear hK
          refine wpAnyH_ready (rs := [7]) (by kernel_rfl) (by simp) (AllReadyH.cons rfl (fun K hK => ?_) AllReadyH.nil)
          refine ready_value (by rfl) (w' := w8) (v := .slice (some ⟨g2, 0, none⟩) n2 c2) (by simp [execOp, resolve, invoke, builtin, HRUN.out, Result.andThen, Act.eval]) ?_
          refine hK.out _ _ HF.out.2 (fun hS => ?_)
          clear hK
          refine wpAnyH_take (i := 8) (v := .pointer (some ⟨E, 0, none⟩)) rfl (by kernel_rfl) (by kernel_rfl) (by kernel_rfl) (fun _ _ _ h => h) (.inl ⟨by rfl, fun w' hs => ?_⟩) hS ?_
          · clear hs
            go_simp
          simp only [List.getElem_toArray, List.getElem_cons_succ, List.getElem_cons_zero, Act.put, List.setIfInBounds_toArray, List.set_cons_zero, List.set_cons_succ]
          refine wpAnyH_ready (rs := [9]) (by kernel_rfl) (by simp) (AllReadyH.cons rfl (fun K hK => ?_) AllReadyH.nil)
          go_simp
          refine hK.out _ _ HF.out.1.2.2 (fun hS => ?_)
          clear hK
          refine wpAnyH_done (by kernel_rfl) (NoPanic.normal ?_) _
          go_wp2_with fail
          go_meet
          have hn2 := HN2.out
          subst hn2
          exact ⟨_, by rw [HQS.out], g2, c2, HF.out.1⟩
        case rest =>
          clear hcap hc4
          obtain ⟨qs, hqs, g1, c1, hbx, hown1, hbw⟩ := hcut
          have hqm : qs.map (·.1) = pull q m := by rw [hqs, pull_rows HR.out, HMAP.out]
          have hqL : qs.length = L := by rw [hqs]; have := HRL.out; have := HQL2.out; simp; omega
          rw [hqL] at hbx hown1
          obtain ⟨P, hP⟩ : ∃ P, placeZ q s = P := ⟨_, rfl⟩
          have hplace : ∀ (a : Int) W, Calls Try.prog 29 #[.int .i64 a, .int .i64 (q : Int)] W fun e w' => e = .returned (.int .i64 (placeZ q a)) ∧ W = w' := fun a W => law_place a q W (by have := HQL.out; omega)
          have HPLACE := Lib.hid hplace
          have x1' := cellB hbw HXL.out x1
          have m0 := cell_of hbx 0 (.slice (some ⟨g1, 0, none⟩) L c1) rfl
          have m1 := cell_of hbx 1 (.int .i64 0) rfl
          have f1 := free_of hbx 1
          have hbx2 := Joins.block_setCell (i := 1) hbx (.int .i64 P)
          have hown2 : OwnNd (wc.setCell ⟨E, 1, none⟩ (.int .i64 P)) (E + 1) (.slice (some ⟨g1, 0, none⟩) L c1) qs := ⟨ownsRow_setCell_below (a := ⟨E, 1, none⟩) hown1.1 (by show E < E + 1; omega) _, fun r h => (hown1.2 r h).set hbx (by decide) (by decide)⟩
          have hbw2 : Below E wr (wc.setCell ⟨E, 1, none⟩ (.int .i64 P)) := hbw.setCell (p := ⟨E, 1, none⟩) (Nat.le_refl _) _
          have HQM := Lib.hid hqm
          have HQN := Lib.hid hqL
          have HW2 := Lib.hid (show Box (wc.setCell ⟨E, 1, none⟩ (.int .i64 P)) E (.slice (some ⟨g1, 0, none⟩) L c1) P ∧ OwnNd (wc.setCell ⟨E, 1, none⟩ (.int .i64 P)) (E + 1) (.slice (some ⟨g1, 0, none⟩) L c1) qs ∧ Below E wr (wc.setCell ⟨E, 1, none⟩ (.int .i64 P)) from ⟨hbx2, hown2, hbw2⟩)
          have HPP := Lib.hid hP
          clear hqs hqm hqL hplace hbx hown1 hbw hbx2 hown2 hbw2 hmx
          go_wp2_with fail
          refine (HPLACE.out s _).mono ?_
          rintro e w' ⟨rfl, rfl⟩
          rw [hP]
          go_upto_block 2 with fail
          go_cut [] (fun wx => ∃ us c2, us.map (·.1) = front q m ∧ us.length = L ∧ Box wx E (.slice (some ⟨g1, 0, none⟩) L c2) P ∧ OwnNd wx (E + 1) (.slice (some ⟨g1, 0, none⟩) L c2) us ∧ Below E wr wx)
          case first =>
            obtain ⟨W, hW⟩ : ∃ W, wc.setCell ⟨E, 1, none⟩ (.int .i64 P) = W := ⟨_, rfl⟩
            rw [hW] at HW2 ⊢
            go_wp2_with fail
            go_loopg [9] L (fun r i wx => ∃ (j : Nat) (us : List R3), r = L - j ∧ i = .int .i64 (j : Int) ∧ j ≤ L ∧ us.length = L ∧ us.map (·.1) = ((pull q m).take j).map (mapK (placeZ q)) ++ (pull q m).drop j ∧ Box wx E (.slice (some ⟨g1, 0, none⟩) L c1) P ∧ OwnNd wx (E + 1) (.slice (some ⟨g1, 0, none⟩) L c1) us ∧ Below E wr wx)
            case atStart => exact ⟨0, qs, rfl, rfl, Nat.zero_le _, HQN.out, by rw [HQM.out]; rfl, HW2.out⟩
            case round =>
              rename World => wy
              obtain ⟨j, us, rfl, rfl, hj, hul, hum, hbx, hown, hbw⟩ := hrel
              have hpl : (pull q m).length = L := by rw [← HQM.out, List.length_map, HQN.out]
              by_cases hlt : j < L
              case neg =>
                obtain rfl : j = L := by omega
                have hlt' : ¬ (j : Int) < j := by omega
                have m0 := cell_of hbx 0 (.slice (some ⟨g1, 0, none⟩) j c1) rfl
                have HE := Lib.hid (show us.map (·.1) = front q m ∧ us.length = j ∧ Box wy E (.slice (some ⟨g1, 0, none⟩) j c1) P ∧ OwnNd wy (E + 1) (.slice (some ⟨g1, 0, none⟩) j c1) us ∧ Below E wr wy from ⟨by
                  rw [hum, List.take_of_length_le (by omega), List.drop_of_length_le (by omega), List.append_nil]
                  rfl, hul, hbx, hown, hbw⟩)
                clear hum hul hbx hown hbw hpl
                go_wp2_with fail
                go_meet
                exact ⟨us, c1, HE.out⟩
              have hlt' : (j : Int) < L := by omega
              have h0 := hown.1
              rw [hul] at h0
              obtain ⟨_, hEg, _, cur9, hgg, hcg⟩ := own_at h0
              obtain ⟨r9, hr9⟩ : ∃ r, us[j]? = some r := ⟨_, List.getElem?_eq_getElem (by omega)⟩
              have hrS := hown.2 r9 (List.mem_of_getElem? hr9)
              obtain ⟨nj, vnj, vkj⟩ := r9
              have hnj : (pull q m)[j]? = some nj := by
                have h1 := part_at (mapK (placeZ q)) (pull q m) j
                rw [← hum, List.getElem?_map, hr9] at h1
                exact h1.symm
              have hfj : Fine nj := fine_pull (l := m) (k := q) (by rw [← HMAP.out, List.length_map]; exact HQL2.out) HFINE.out nj (List.mem_of_getElem? hnj)
              have s2 := own_slice hrS.2
              dsimp only at s2
              obtain ⟨akj, ckj, rfl⟩ := s2
              obtain ⟨NK, hNK⟩ : ∃ NK, NK = nj.kids.length := ⟨_, rfl⟩
              have hNK8 : NK * 8 ≤ 140737488351232 := by have := hfj.2.2.2.2.2.2.1; omega
              have hcp := copy_ints (.slice akj NK ckj) nj.kids wy (by have h1 := lst_of hrS.2 (by have := hfj.2.2.2.2.2.2.1; dsimp only; omega); rw [hNK]; exact h1) (by omega)
              rw [← hNK] at hrS hr9
              have hcell : cur9[j * 6 + 4]? = some (.slice akj NK ckj) := hcg _ _ (by rw [row_at us j 4 _ hr9 (by omega)]; rfl)
              have hgl := lt_of_heap hgg
              have m0 := cell_of hbx 0 (.slice (some ⟨g1, 0, none⟩) L c1) rfl
              have d4 := cell_of hgg (j * 6 + 4) _ hcell
              have j0 : (0 : Int) ≤ j := Int.natCast_nonneg _
              obtain ⟨F, hF⟩ : ∃ F, wy.heap.size = F := ⟨_, rfl⟩
              have HREL := Lib.hid (show us.length = L ∧ us.map (·.1) = ((pull q m).take j).map (mapK (placeZ q)) ++ (pull q m).drop j ∧ Box wy E (.slice (some ⟨g1, 0, none⟩) L c1) P ∧ OwnNd wy (E + 1) (.slice (some ⟨g1, 0, none⟩) L c1) us ∧ Below E wr wy from ⟨hul, hum, hbx, hown, hbw⟩)
              have HGG := Lib.hid hgg
              have HRS9 := Lib.hid hrS
              have HR9 := Lib.hid hr9
              have HNJ := Lib.hid hnj
              have HPL := Lib.hid hpl
              have HCELL := Lib.hid hcell
              have HNK := Lib.hid hNK
              have HEG := Lib.hid hEg
              have HCP := Lib.hid hcp
              have HF := Lib.hid hF
              clear h0 hul hum hbx hown hbw hgg hcg hrS hr9 hnj hpl hcell hNK hfj hEg hcp
              go_wp2_with fail
              refine HCP.out.mono ?_
              rintro e w4 ⟨vk', rfl, hok, hb4⟩
              rw [← HNK.out] at hok
              obtain ⟨ak', ck', rfl⟩ := own_slice hok
              have hg4 := (hb4.block _ hgl).trans HGG.out
              have d5 := cell_of hg4 (j * 6 + 4) _ HCELL.out
              have f5 := free_of hg4 (j * 6 + 4)
              have hrow5 := own_set (r' := (nj, vnj, .slice ak' NK ck')) (HREL.out.2.2.2.1.below hb4) HREL.out.1 HR9.out (show 4 < 6 by omega) rfl ⟨own_below5 HRS9.out.1 hb4, by have h9 := ownsRow_base hok (Nat.zero_le _); rw [HNK.out] at h9 ⊢; exact h9⟩
              have hok5 := ownsRow_setCell_below hok (a := ⟨g1, j * 6 + 4, none⟩) hgl (.slice ak' NK ck')
              have hg5 := Joins.block_setCell (i := j * 6 + 4) hg4 (.slice ak' NK ck')
              have hb5 : Below (E + 1) wy (w4.setCell ⟨g1, j * 6 + 4, none⟩ (.slice ak' NK ck')) := (hb4.mono (by have := HEG.out; omega)).setCell (p := ⟨g1, j * 6 + 4, none⟩) HEG.out _
              dsimp only at hrow5
              have hkeep : ∀ x, x < F → x ≠ g1 → (w4.setCell ⟨g1, j * 6 + 4, none⟩ (.slice ak' NK ck')).heap[x]? = wy.heap[x]? := fun x hx hn => (Below.heap_setCell _ _ _ _ hn).trans (hb4.block x (by rw [HF.out]; exact hx))
              rw [HF.out] at hok5 hgl
              have hc5 := cell_of hg5 (j * 6 + 4) (.slice ak' NK ck') (by rw [Array.getElem?_setIfInBounds_self_of_lt (Array.getElem?_eq_some_iff.1 HCELL.out).1])
              have H5 := Lib.hid (show OwnNd (w4.setCell ⟨g1, j * 6 + 4, none⟩ (.slice ak' NK ck')) (E + 1) (.slice (some ⟨g1, 0, none⟩) L c1) (us.set j (nj, vnj, .slice ak' NK ck')) ∧ (w4.setCell ⟨g1, j * 6 + 4, none⟩ (.slice ak' NK ck')).ownsRow F 3 1 (.slice ak' NK ck') NK (nj.kids.map (.int .i64)) ∧ (w4.setCell ⟨g1, j * 6 + 4, none⟩ (.slice ak' NK ck')).cell? ⟨g1, j * 6 + 4, none⟩ = some (.slice ak' NK ck') ∧ Below (E + 1) wy (w4.setCell ⟨g1, j * 6 + 4, none⟩ (.slice ak' NK ck')) ∧ ∀ x, x < F → x ≠ g1 → (w4.setCell ⟨g1, j * 6 + 4, none⟩ (.slice ak' NK ck')).heap[x]? = wy.heap[x]? from ⟨hrow5, hok5, hc5, hb5, hkeep⟩)
              have HGL := Lib.hid (show g1 < F from hgl)
              clear hrow5 hok5 hc5 hb5 hkeep hg5 hb4 hok hg4 d4 m0 hgl
              go_upto_block 4 with fail
              obtain ⟨w5, hw5⟩ : ∃ w5, w4.setCell ⟨g1, j * 6 + 4, none⟩ (.slice ak' NK ck') = w5 := ⟨_, rfl⟩
              rw [hw5] at H5 ⊢
              clear hw5 d5 f5
              have hmx : Try.prog.follows .mixedOrders = true := by kernel_rfl
              go_wp2_with fail
              go_loopg [11] NK (fun r i wx => ∃ mm : Nat, r = NK - mm ∧ i = .int .i64 (mm : Int) ∧ mm ≤ NK ∧ Below F w5 wx ∧ wx.ownsRow F 3 1 (.slice ak' NK ck') NK (((nj.kids.take mm).map (placeZ q) ++ nj.kids.drop mm).map (.int .i64)))
              case atStart => exact ⟨0, rfl, rfl, Nat.zero_le _, Below.refl _ _, H5.out.2.1⟩
              case round =>
                rename World => wz
                obtain ⟨mm, rfl, rfl, hmm, hbz, hoz⟩ := hrel
                have z4 := cellB hbz HGL.out H5.out.2.2.1
                by_cases hl2 : mm < NK
                case neg =>
                  obtain rfl : mm = NK := by omega
                  have hl2' : ¬ (mm : Int) < mm := by omega
                  rw [List.take_of_length_le (by have := HNK.out; omega), List.drop_of_length_le (by have := HNK.out; omega), List.append_nil] at hoz
                  have hrow6 : wz.ownsRow (E + 1) 30 6 (.slice (some ⟨g1, 0, none⟩) L c1) L (rowCells (us.set j (nj, vnj, .slice ak' mm ck'))) := by
                    have h1 := H5.out.1.1
                    rw [List.length_set, HREL.out.1] at h1
                    obtain ⟨_, _, _, curx, hcx, _⟩ := own_at h1
                    refine ⟨h1.1, ?_⟩
                    rcases h1.2 with ⟨h2, _⟩ | ⟨g', cap, cur, hv, hb, hh, hr⟩
                    · cases h2
                    · cases hv
                      exact .inr ⟨g1, c1, cur, rfl, hb, (hbz.block _ HGL.out).trans hh, hr⟩
                  have hfar : ∀ x, x < wy.heap.size → x ≠ g1 → wz.heap[x]? = wy.heap[x]? := fun x hx hn => (hbz.block x (by rw [← HF.out]; exact hx)).trans (H5.out.2.2.2.2 x (by rw [← HF.out]; exact hx) hn)
                  have hrr : Sub wz (mapK (placeZ q) nj, vnj, .slice ak' mm ck') := by
                    refine ⟨(HRS9.out.far HGG.out hfar).1, ?_⟩
                    have h9 := ownsRow_base hoz (Nat.zero_le _)
                    have e9 : (mapK (placeZ q) nj).kids.length = mm := by show (nj.kids.map _).length = mm; rw [List.length_map, HNK.out]
                    rw [e9]
                    exact h9
                  have hnew : OwnNd wz (E + 1) (.slice (some ⟨g1, 0, none⟩) L c1) (us.set j (mapK (placeZ q) nj, vnj, .slice ak' mm ck')) :=
                    own_kids_kept (a := (nj, vnj, .slice ak' mm ck')) (by rw [HREL.out.1]; exact hrow6) rfl (fun r hr => (HREL.out.2.2.2.1.2 r hr).far HGG.out hfar) hrr
                  have hbw6 : Below (E + 1) wy wz := H5.out.2.2.2.1.trans (hbz.mono (by have := HGL.out; have := HEG.out; omega))
                  have hum6 : (us.set j (mapK (placeZ q) nj, vnj, .slice ak' mm ck')).map (·.1) = ((pull q m).take (j + 1)).map (mapK (placeZ q)) ++ (pull q m).drop (j + 1) := by
                    rw [List.map_set, HREL.out.2.1]
                    have h9 := set_part (mapK (placeZ q)) (fun n : Nd => n) (pull q m) j nj HNJ.out
                    rw [List.map_id', List.map_id'] at h9
                    exact h9
                  have hjw : IntKind.i64.wrap ((j : Int) + 1) = (j : Int) + 1 := IntWalk.i64_in _ (by omega)
                  have HNEW := Lib.hid (show (us.set j (mapK (placeZ q) nj, vnj, .slice ak' mm ck')).length = L ∧ (us.set j (mapK (placeZ q) nj, vnj, .slice ak' mm ck')).map (·.1) = ((pull q m).take (j + 1)).map (mapK (placeZ q)) ++ (pull q m).drop (j + 1) ∧ Box wz E (.slice (some ⟨g1, 0, none⟩) L c1) P ∧ OwnNd wz (E + 1) (.slice (some ⟨g1, 0, none⟩) L c1) (us.set j (mapK (placeZ q) nj, vnj, .slice ak' mm ck')) ∧ Below E wr wz from
                    ⟨by rw [List.length_set]; exact HREL.out.1, hum6, (hbw6.block _ (by omega)).trans HREL.out.2.2.1, hnew, HREL.out.2.2.2.2.trans (hbw6.mono (by omega))⟩)
                  clear hrow6 hfar hrr hnew hbw6 hum6 hoz hbz
                  go_wp2_with fail
                  go_roundg (L - (j + 1))
                  case measure => omega
                  case rel => exact ⟨j + 1, _, rfl, by go_num, by omega, HNEW.out⟩
                have hl2' : (mm : Int) < NK := by omega
                have mm0 : (0 : Int) ≤ mm := Int.natCast_nonneg _
                obtain ⟨gk, ck2, hgk⟩ := own_ne hoz (by omega)
                cases hgk
                obtain ⟨_, hFg, _, curk, hhk, hck⟩ := own_at hoz
                obtain ⟨kx, hkx⟩ : ∃ kx, nj.kids[mm]? = some kx := ⟨_, List.getElem?_eq_getElem (by have := HNK.out; omega)⟩
                have hckx := cell_of hhk mm (.int .i64 kx) (hck _ _ (by rw [List.getElem?_map, part_at, hkx]; rfl))
                have hfkx := free_of hhk mm
                have hoz2 := own_set1 (j := mm) (v := .int .i64 (placeZ q kx)) hoz
                rw [set_part (placeZ q) (Value.int .i64) nj.kids mm kx hkx] at hoz2
                have HEND := Lib.hid (show Below F w5 (wz.drew.setCell ⟨gk, mm, none⟩ (.int .i64 (placeZ q kx))) ∧ (wz.drew.setCell ⟨gk, mm, none⟩ (.int .i64 (placeZ q kx))).ownsRow F 3 1 (.slice (some ⟨gk, 0, none⟩) NK ck') NK (((nj.kids.take (mm + 1)).map (placeZ q) ++ nj.kids.drop (mm + 1)).map (.int .i64)) ∧ Below F wz (wz.drew.setCell ⟨gk, mm, none⟩ (.int .i64 (placeZ q kx))) from ⟨hbz.drew.setCell (p := ⟨gk, mm, none⟩) hFg _, hoz2, (Below.refl _ _).drew.setCell (p := ⟨gk, mm, none⟩) hFg _⟩)
                have hmw : IntKind.i64.wrap ((mm : Int) + 1) = (mm : Int) + 1 := IntWalk.i64_in _ (by omega)
                clear hoz hoz2 hkx hhk hck hbz
                go_wp2_with fail
                refine wp_region_noPanic (wp_region_held_drew (S := fun W' => Below F wz W') hmx (Below.refl _ _).drew (fun hS => ?_))
                refine wpAnyH_take (i := 0) (v := .pointer (some ⟨g1, j * 6, none⟩)) rfl (by kernel_rfl) (by kernel_rfl) (by kernel_rfl) (fun _ _ _ h => h) (.inl ⟨by rfl, fun w' hs => ?_⟩) hS ?_
                · clear hs
                  go_simp
                simp only [List.getElem_toArray, List.getElem_cons_zero, Act.put, List.setIfInBounds_toArray, List.set_cons_zero, List.set_cons_succ]
                refine wpAnyH_take (i := 1) (v := .pointer (some ⟨g1, j * 6, none⟩)) rfl (by kernel_rfl) (by kernel_rfl) (by kernel_rfl) (fun _ _ _ h => h) (.inl ⟨by rfl, fun w' hs => ?_⟩) hS ?_
                · clear hs
                  go_simp
                simp only [List.getElem_toArray, List.getElem_cons_succ, List.getElem_cons_zero, Act.put, List.setIfInBounds_toArray, List.set_cons_zero, List.set_cons_succ]
                refine wpAnyH_take (i := 2) (v := .pointer (some ⟨g1, j * 6 + 4, none⟩)) rfl (by kernel_rfl) (by kernel_rfl) (by kernel_rfl) (fun _ _ _ h => h) (.inl ⟨by rfl, fun w' hs => ?_⟩) hS ?_
                · clear hs
                  go_simp
                simp only [List.getElem_toArray, List.getElem_cons_succ, List.getElem_cons_zero, Act.put, List.setIfInBounds_toArray, List.set_cons_zero, List.set_cons_succ]
                refine wpAnyH_take (i := 3) (v := .slice (some ⟨gk, 0, none⟩) NK ck') rfl (by kernel_rfl) (by kernel_rfl) (by kernel_rfl) (fun _ _ _ h => h) (.inl ⟨by rfl, fun w' hs => ?_⟩) hS ?_
                · have x0 := cellB hs HGL.out z4
                  clear hs
                  go_simp
                simp only [List.getElem_toArray, List.getElem_cons_succ, List.getElem_cons_zero, Act.put, List.setIfInBounds_toArray, List.set_cons_zero, List.set_cons_succ]
                refine wpAnyH_take (i := 4) (v := .int .i64 (mm : Int)) rfl (by kernel_rfl) (by kernel_rfl) (by kernel_rfl) (fun _ _ _ h => h) (.inl ⟨by rfl, fun w' hs => ?_⟩) hS ?_
                · clear hs
                  go_simp
                simp only [List.getElem_toArray, List.getElem_cons_succ, List.getElem_cons_zero, Act.put, List.setIfInBounds_toArray, List.set_cons_zero, List.set_cons_succ]
                refine wpAnyH_take (i := 5) (v := .pointer (some ⟨g1, j * 6, none⟩)) rfl (by kernel_rfl) (by kernel_rfl) (by kernel_rfl) (fun _ _ _ h => h) (.inl ⟨by rfl, fun w' hs => ?_⟩) hS ?_
                · clear hs
                  go_simp
                simp only [List.getElem_toArray, List.getElem_cons_succ, List.getElem_cons_zero, Act.put, List.setIfInBounds_toArray, List.set_cons_zero, List.set_cons_succ]
                refine wpAnyH_take (i := 6) (v := .pointer (some ⟨g1, j * 6, none⟩)) rfl (by kernel_rfl) (by kernel_rfl) (by kernel_rfl) (fun _ _ _ h => h) (.inl ⟨by rfl, fun w' hs => ?_⟩) hS ?_
                · clear hs
                  go_simp
                simp only [List.getElem_toArray, List.getElem_cons_succ, List.getElem_cons_zero, Act.put, List.setIfInBounds_toArray, List.set_cons_zero, List.set_cons_succ]
                refine wpAnyH_take (i := 7) (v := .pointer (some ⟨g1, j * 6 + 4, none⟩)) rfl (by kernel_rfl) (by kernel_rfl) (by kernel_rfl) (fun _ _ _ h => h) (.inl ⟨by rfl, fun w' hs => ?_⟩) hS ?_
                · clear hs
                  go_simp
                simp only [List.getElem_toArray, List.getElem_cons_succ, List.getElem_cons_zero, Act.put, List.setIfInBounds_toArray, List.set_cons_zero, List.set_cons_succ]
                refine wpAnyH_take (i := 8) (v := .slice (some ⟨gk, 0, none⟩) NK ck') rfl (by kernel_rfl) (by kernel_rfl) (by kernel_rfl) (fun _ _ _ h => h) (.inl ⟨by rfl, fun w' hs => ?_⟩) hS ?_
                · have x0 := cellB hs HGL.out z4
                  clear hs
                  go_simp
                simp only [List.getElem_toArray, List.getElem_cons_succ, List.getElem_cons_zero, Act.put, List.setIfInBounds_toArray, List.set_cons_zero, List.set_cons_succ]
                refine wpAnyH_take (i := 9) (v := .int .i64 (mm : Int)) rfl (by kernel_rfl) (by kernel_rfl) (by kernel_rfl) (fun _ _ _ h => h) (.inl ⟨by rfl, fun w' hs => ?_⟩) hS ?_
                · clear hs
                  go_simp
                simp only [List.getElem_toArray, List.getElem_cons_succ, List.getElem_cons_zero, Act.put, List.setIfInBounds_toArray, List.set_cons_zero, List.set_cons_succ]
                refine wpAnyH_take (i := 10) (v := .pointer (some ⟨gk, mm, none⟩)) rfl (by kernel_rfl) (by kernel_rfl) (by kernel_rfl) (fun _ _ _ h => h) (.inl ⟨by rfl, fun w' hs => ?_⟩) hS ?_
                · clear hs
                  go_simp
                simp only [List.getElem_toArray, List.getElem_cons_succ, List.getElem_cons_zero, Act.put, List.setIfInBounds_toArray, List.set_cons_zero, List.set_cons_succ]
                refine wpAnyH_take (i := 12) (v := .int .i64 (q : Int)) rfl (by kernel_rfl) (by kernel_rfl) (by kernel_rfl) (fun _ _ _ h => h) (.inl ⟨by rfl, fun w' hs => ?_⟩) hS ?_
                · clear hs
                  go_simp
                simp only [List.getElem_toArray, List.getElem_cons_succ, List.getElem_cons_zero, Act.put, List.setIfInBounds_toArray, List.set_cons_zero, List.set_cons_succ]
                refine wpAnyH_ready (rs := [11]) (by kernel_rfl) (by simp) (AllReadyH.cons rfl (fun K hK => ?_) AllReadyH.nil)
                go_simp
                refine hK.out _ _ hS (fun hS => ?_)
                clear hK
                refine wpAnyH_ready (rs := [13]) (by kernel_rfl) (by simp) (AllReadyH.cons rfl (fun K hK => ?_) AllReadyH.nil)
                go_simp
                refine (HPLACE.out kx _).mono ?_
                rintro e w'' ⟨rfl, rfl⟩
                refine hK.out _ _ hS (fun hS => ?_)
                clear hK
                refine wpAnyH_take (i := 14) (v := .pointer (some ⟨gk, mm, none⟩)) rfl (by kernel_rfl) (by kernel_rfl) (by kernel_rfl) (fun _ _ _ h => h) (.inl ⟨by rfl, fun w' hs => ?_⟩) hS ?_
                · clear hs
                  go_simp
                simp only [List.getElem_toArray, List.getElem_cons_succ, List.getElem_cons_zero, Act.put, List.setIfInBounds_toArray, List.set_cons_zero, List.set_cons_succ]
                refine wpAnyH_ready (rs := [15]) (by kernel_rfl) (by simp) (AllReadyH.cons rfl (fun K hK => ?_) AllReadyH.nil)
                go_simp
                refine hK.out _ _ HEND.out.2.2 (fun hS => ?_)
                clear hK
                refine wpAnyH_done (by kernel_rfl) (NoPanic.normal ?_) _
                go_wp2_with fail
                go_roundg (NK - (mm + 1))
                case measure => omega
                case rel => exact ⟨mm + 1, rfl, by go_num, by omega, HEND.out.1, HEND.out.2.1⟩
          case rest =>
            obtain ⟨us, c2, hum, hul, hbx, hown, hbw⟩ := hcut
            have hO9 : Box wc O (.slice (some ⟨gu, 0, none⟩) L cu) s := (hbw.block _ HXL.out).trans HX.out
            have i1 := Joins.block_setCell (i := 0) hO9 (.slice (some ⟨g1, 0, none⟩) L c2)
            have i2 := Joins.block_setCell (i := 1) i1 (.int .i64 P)
            have hwO : w.heap.size ≤ O := by have := HO1.out; omega
            have hbe := HBE.out.size
            rw [HEE.out] at hbe
            have hrow9 := ownsRow_base hown.1 (b' := w.heap.size) (by omega)
            have hm1 : q < m.length := by rw [← HMAP.out, List.length_map]; exact HQL2.out
            have HNEW := Lib.hid (show OwnNd ((wc.setCell ⟨O, 0, none⟩ (.slice (some ⟨g1, 0, none⟩) L c2)).setCell ⟨O, 1, none⟩ (.int .i64 P)) w.heap.size (.slice (some ⟨g1, 0, none⟩) L c2) us ∧ us.map (·.1) = front q m ∧ us.length = L ∧ Shuf l root (front q m) P ∧ (∀ n ∈ front q m, Fine n) ∧ In64 P ∧ Box ((wc.setCell ⟨O, 0, none⟩ (.slice (some ⟨g1, 0, none⟩) L c2)).setCell ⟨O, 1, none⟩ (.int .i64 P)) O (.slice (some ⟨g1, 0, none⟩) L c2) P ∧ Box ((wc.setCell ⟨O, 0, none⟩ (.slice (some ⟨g1, 0, none⟩) L c2)).setCell ⟨O, 1, none⟩ (.int .i64 P)) (w.heap.size + 1) (.slice none 0 0) 0 ∧ Below w.heap.size w ((wc.setCell ⟨O, 0, none⟩ (.slice (some ⟨g1, 0, none⟩) L c2)).setCell ⟨O, 1, none⟩ (.int .i64 P)) from
              ⟨⟨own_other (own_other hrow9 hO9 (by decide)) i1 (by decide), fun r hr => ((hown.2 r hr).set hO9 (by decide) (by decide)).set i1 (by decide) (by decide)⟩, hum, hul, by rw [← HPP.out]; exact .step HSH.out hm1, fun n hn => by
                obtain ⟨x, hx, rfl⟩ := List.mem_map.1 hn
                exact fine_place (by have := HQL.out; omega) (fine_pull hm1 HFINE.out x hx), by
                rw [← HPP.out]
                have h1 := HS64.out
                have h2 := HQL.out
                unfold In64 placeZ at *
                split
                · omega
                · split <;> omega, i2, (Below.heap_setCell _ _ _ _ (by have := HO1.out; show w.heap.size + 1 ≠ O; omega)).trans ((Below.heap_setCell _ _ _ _ (by have := HO1.out; show w.heap.size + 1 ≠ O; omega)).trans ((hbw.block _ HRS.out).trans HRES.out)), ((HBE.out.trans (hbw.mono hbe)).setCell (p := ⟨O, 0, none⟩) hwO _).setCell (p := ⟨O, 1, none⟩) hwO _⟩)
            have e0 := cell_of hbx 0 (.slice (some ⟨g1, 0, none⟩) L c2) rfl
            have e1 := cell_of hbx 1 (.int .i64 P) rfl
            have o0 := cell_of hO9 0 (.slice (some ⟨gu, 0, none⟩) L cu) rfl
            have o1 := cell_of hO9 1 (.int .i64 s) rfl
            have of0 := free_of hO9 0
            have of1 := free_of hO9 1
            have kw : IntKind.i64.wrap ((k : Int) + 1) = (k : Int) + 1 := IntWalk.i64_in _ (by have := HC1.out; omega)
            clear hum hul hbx hown hbw hO9 i1 i2 hrow9 hm1 hbe
            go_wp2_with fail
            go_roundg (K - (k + 1))
            case measure => have := HC1.out; omega
            case rel => exact ⟨k + 1, _, _, _, _, rfl, by go_num, by have := HC1.out; omega, HNEW.out⟩

end Go.Proofs.Ytmddffacjkkeiaa.Nd
