/-
  Layer 5: NodesMoved.
-/
import Derived.Test.YtmddffacjkkeiaaDvAwk
import Derived.Test.YtmddffacjkkeiaaDvMoved
import Derived.Test.YtmddffacjkkeiaaNdMove
namespace Go.Proofs.Ytmddffacjkkeiaa.Nd
open Go Go.RowKit Go.ChangeShapes Go.WideShapes Go.Shelf
open Go.Proofs.Ytmddffacjkkeiaa.Rf

theorem fine_of_syn {w : World} {v : Value} {l : List Nd} {root : Int} (h : SynAt w v l root) : ∀ n ∈ l, Fine n := by
  obtain ⟨v0, rfl, ⟨ao, c, rfl, _, hc⟩, _⟩ := h
  intro n hn
  obtain ⟨i, hi, rfl⟩ := List.getElem_of_mem hn
  obtain ⟨g, off, _, _, hx⟩ := hc (fun e => by rw [e] at hi; cases hi)
  obtain ⟨_, _, _, _, _, _, _, _, _, _, hr⟩ := hx i hi
  exact hr
/-- The first ones' lines are new. -/
def upTo (f : Nat → Int) (m : List Nd) (i : Nat) : List Nd := (lineN f 0 m).take i ++ m.drop i
theorem upTo_len (f : Nat → Int) (m : List Nd) (i : Nat) (h : i ≤ m.length) : (upTo f m i).length = m.length := by
  unfold upTo
  rw [List.length_append, List.length_take, List.length_drop, lineN_length]; omega
theorem upTo_at (f : Nat → Int) (m : List Nd) (i : Nat) (h : i < m.length) : (upTo f m i)[i]? = m[i]? := by
  unfold upTo
  rw [List.getElem?_append_right (by rw [List.length_take, lineN_length]; omega), List.length_take, lineN_length, List.getElem?_drop]
  congr 1; omega
theorem upTo_succ (f : Nat → Int) (m : List Nd) (i : Nat) (n : Nd) (h : m[i]? = some n) : (upTo f m i).set i { n with line := f i } = upTo f m (i + 1) := by
  have hi := (List.getElem?_eq_some_iff.1 h).1
  have h1 : (lineN f 0 m)[i]? = some { n with line := f i } := by rw [lineN_at, h, Nat.zero_add]; rfl
  have hl : i < (lineN f 0 m).length := by rw [lineN_length]; exact hi
  unfold upTo
  rw [List.set_append_right _ _ (by rw [List.length_take]; omega), show i - ((lineN f 0 m).take i).length = 0 by rw [List.length_take]; omega, List.drop_eq_getElem_cons hi, List.take_succ_eq_append_getElem hl, (List.getElem?_eq_some_iff.1 h1).2, List.set_cons_zero, List.append_assoc]
  rfl
theorem upTo_all (f : Nat → Int) (m : List Nd) : upTo f m m.length = lineN f 0 m := by
  unfold upTo
  rw [List.take_of_length_le (by rw [lineN_length]; omega), List.drop_of_length_le (Nat.le_refl _), List.append_nil]
theorem lineN_fine {f : Nat → Int} (hf : ∀ i, In64 (f i)) : ∀ (m : List Nd) (i : Nat), (∀ n ∈ m, Fine n) → ∀ n ∈ lineN f i m, Fine n
  | [], _, _, n, hn => by cases hn
  | a :: m, i, h, n, hn => by
    rcases List.mem_cons.1 hn with rfl | hn
    · obtain ⟨h1, h2, _, h4⟩ := h a (List.mem_cons_self ..)
      exact ⟨h1, h2, hf i, h4⟩
    · exact lineN_fine hf m (i + 1) (fun x hx => h x (List.mem_cons_of_mem _ hx)) n hn

theorem right_by {v : Value} {l : List Nd} {root : Int} {w : World} (b : Bool) (hS : SynAt w v l root) (hl : l.length ≤ 1000000) (hf : ∀ n ∈ l, Fine n) (h : b = true ↔ RightC (rowD nmD) l root) :
    Calls Try.prog 8 #[v] w fun e w' => e = .returned (.bool b) ∧ Below w.heap.size w w' :=
  (own_right v l root w hS hl hf).mono fun e w' ⟨b', he, hb, hw⟩ => by
    refine ⟨?_, hw⟩
    rw [he]
    have : b' = b := by rw [Bool.eq_iff_iff, hb, h]
    rw [this]
theorem same_by {va vb : Value} {l m : List Nd} {x y : Int} {w : World} (b : Bool) (hS : SynAt w va l x) (hT : SynAt w vb m y) (hl9 : l.length ≤ 1000000) (hm9 : m.length ≤ 1000000) (hfine : ∀ n ∈ l, Fine n) (hfine2 : ∀ n ∈ m, Fine n) (h : b = true ↔ SameC (rowD nmD) l x m y) :
    Calls Try.prog 12 #[va, vb] w fun e w' => e = .returned (.bool b) ∧ Below w.heap.size w w' :=
  (own_same va vb l m x y w hS hT hl9 hm9 hfine hfine2).mono fun e w' ⟨b', he, hb, hw⟩ => by
    refine ⟨?_, hw⟩
    rw [he]
    have : b' = b := by rw [Bool.eq_iff_iff, hb, h]
    rw [this]

set_option maxRecDepth 100000 in
set_option maxHeartbeats 8000000 in
theorem nodesMoved_walk (v vs : Value) (l : List Nd) (root : Int) (zs : List Int) (line : Int) (w : World) (hS : SynAt w v l root) (hZ : Lst w vs (zs.map (.int .i64))) (hzi : ∀ c ∈ zs, In64 c) :
    Calls Try.prog 4 #[v, vs, .int .i64 line] w fun e w' => e = .returned (.bool true) ∧ Below w.heap.size w w' := by
  have HS := Lib.hid hS
  have HFINE := Lib.hid (fine_of_syn hS)
  obtain ⟨ao, c, rfl, hNd, hr1, hr2⟩ := hS.open
  obtain ⟨az, cz, rfl⟩ := hZ.slice (n := zs.length) (by rw [List.length_map])
  have HZ := Lib.hid hZ
  have HZI := Lib.hid hzi
  obtain ⟨L, hL⟩ : ∃ L, L = l.length := ⟨_, rfl⟩
  rw [← hL] at HS ⊢
  have HL := Lib.hid hL
  have hb1 : Below w.heap.size w (w.alloc (.cells #[.slice ao L c, .int .i64 root] 24)) := (Below.refl _ _).alloc (Nat.le_refl _) _
  have hx1 := new_block w (.cells #[.slice ao L c, .int .i64 root] 24)
  have HB1 := Lib.hid hb1
  have HX1 := Lib.hid hx1
  clear hS hZ hzi hNd hL hb1 hx1
  by_cases h15 : 1500 < L
  · have j1 : (1500 : Int) < L := by omega
    go_enter Try.func4, Try.ntmps4
    go_wp2_with fail
    refine (awake_fn _).mono ?_
    rintro e w2 ⟨rfl, b⟩
    go_wp2_with fail
    go_ret
    exact ⟨rfl, HB1.out.trans (b.mono HB1.out.size)⟩
  have j1 : ¬ (1500 : Int) < L := by omega
  have h15' : l.length ≤ 1500 := by have := HL.out; omega
  have hmv : ∀ W, Below w.heap.size w W → Calls Try.prog 11 #[.agg #[.slice ao L c, .int .i64 root], .slice az zs.length cz] W (Mvd W l root) := fun W hW => moved_fn _ _ l root zs W (HS.out.below hW) (HZ.out.below hW) HZI.out h15'
  have HMV := Lib.hid hmv
  have H15 := Lib.hid h15'
  clear hmv h15'
  go_enter Try.func4, Try.ntmps4
  go_wp2_with fail
  refine (HMV.out _ HB1.out).mono ?_
  rintro e w2 ⟨u, m, s2, rs, rfl, hown, hmap, hsh, hfine, hs64, hb2⟩
  obtain ⟨au, cu, rfl⟩ := own_slice hown.1
  have hml : m.length = L := by rw [hsh.length, HL.out]
  have hrl : rs.length = L := by rw [← hml, ← hmap, List.length_map]
  rw [hrl] at hown ⊢
  obtain ⟨π, hpi, hpr⟩ := hsh.moved
  have hRR : RightC (rowD nmD) m s2 ↔ RightC (rowD nmD) l root := by rw [right_iff, right_iff, hpr]; exact right_moved hpi root
  obtain ⟨T, hT⟩ : ∃ T, w2.heap.size = T := ⟨_, rfl⟩
  have hBT : Box (w2.alloc (.cells #[.slice au L cu, .int .i64 s2] 24)) T (.slice au L cu) s2 := by rw [← hT]; exact new_block w2 _
  have hal : Below w2.heap.size w2 (w2.alloc (.cells #[.slice au L cu, .int .i64 s2] 24)) := (Below.refl _ _).alloc (Nat.le_refl _) _
  have hbw := (HB1.out.trans (hb2.mono HB1.out.size))
  have hbw2 := hbw.trans (hal.mono hbw.size)
  have hBS : Box (w2.alloc (.cells #[.slice au L cu, .int .i64 s2] 24)) w.heap.size (.slice ao L c) root := (hal.block _ (by have := lt_of_heap HX1.out; have := hb2.size; omega)).trans ((hb2.block _ (lt_of_heap HX1.out)).trans HX1.out)
  have hOT := OwnNd.below hown hal
  have hbT : Below w.heap.size w (w2.alloc (.cells #[.slice au L cu, .int .i64 s2] 24)) := hbw2
  have hsz3 : (w2.alloc (.cells #[.slice au L cu, .int .i64 s2] 24)).heap.size = T + 1 := by rw [← hT]; simp
  have hwT : w.heap.size ≤ T := by have := hbw.size; omega
  have hgT : ∀ g, au = some ⟨g, 0, none⟩ → w.heap.size ≤ g ∧ g < T := fun g e => by
    subst e
    have h1 := hown.1
    rw [hrl] at h1
    obtain ⟨_, h2, _, cur, h3, _⟩ := own_at h1
    have := lt_of_heap h3
    have := HB1.out.size
    omega
  have HGT := Lib.hid hgT
  have HPI := Lib.hid (show Moved π l m ∧ s2 = π root from ⟨hpi, hpr⟩)
  clear hpi hpr
  go_upto_region 4 with fail
  obtain ⟨W3, hW3⟩ : ∃ W3, w2.alloc (.cells #[.slice au L cu, .int .i64 s2] 24) = W3 := ⟨_, rfl⟩
  rw [hW3] at hBT hBS hOT hbT hsz3 ⊢
  clear hW3 hal hbw hbw2 hb2 hown hgT
  have hs : ∀ W, Below W3.heap.size W3 W → SynAt W (.agg #[.slice ao L c, .int .i64 root]) l root := fun W hW => HS.out.below (hbT.trans (hW.mono hbT.size))
  have ht : ∀ W, Below W3.heap.size W3 W → SynAt W (.agg #[.slice au L cu, .int .i64 s2]) m s2 := fun W hW => by
    have h1 := own_syn (root := s2) (hOT.below hW) (fun r hr => hfine _ (by rw [← hmap]; exact List.mem_map_of_mem hr)) hs64 (by omega)
    rwa [hmap] at h1
  obtain ⟨B, hB⟩ : ∃ B : Bool, B = true ↔ RightC (rowD nmD) l root := by
    rcases Classical.em (RightC (rowD nmD) l root) with h | h
    · exact ⟨true, ⟨fun _ => h, fun _ => rfl⟩⟩
    · exact ⟨false, ⟨fun e => Bool.noConfusion e, fun e => absurd e h⟩⟩
  have cs : ∀ W, Below W3.heap.size W3 W → Calls Try.prog 8 #[.agg #[.slice ao L c, .int .i64 root]] W fun e w' => e = .returned (.bool B) ∧ Below W.heap.size W w' := fun W hW => right_by B (hs W hW) (by have := H15.out; omega) HFINE.out hB
  have ct : ∀ W, Below W3.heap.size W3 W → Calls Try.prog 8 #[.agg #[.slice au L cu, .int .i64 s2]] W fun e w' => e = .returned (.bool B) ∧ Below W.heap.size W w' := fun W hW => right_by B (ht W hW) (by omega) hfine (hB.trans hRR.symm)
  have x0 := cell_of hBT 0 (.slice au L cu) rfl
  have x1 := cell_of hBT 1 (.int .i64 s2) rfl
  have y0 := cell_of hBS 0 (.slice ao L c) rfl
  have y1 := cell_of hBS 1 (.int .i64 root) rfl
  have CS := Lib.hid cs
  have CT := Lib.hid ct
  have HSS := Lib.hid hs
  have HTT := Lib.hid ht
  have HBB := Lib.hid hB
  have HRR := Lib.hid hRR
  have HOT := Lib.hid hOT
  have HMAP := Lib.hid hmap
  have HFT := Lib.hid hfine
  have HML := Lib.hid hml
  have HRL := Lib.hid hrl
  have HBT := Lib.hid hBT
  have HBS := Lib.hid hBS
  have HBE := Lib.hid hbT
  have HS64 := Lib.hid hs64
  have HSZ := Lib.hid (show W3.heap.size = T + 1 ∧ w.heap.size ≤ T from ⟨hsz3, hwT⟩)
  have hmx : Try.prog.follows .mixedOrders = true := by kernel_rfl
  clear cs ct hs ht hB hRR hOT hmap hfine hml hrl hsh hBT hBS hbT hs64 hsz3 hwT hT
  go_cut [21] (fun v wx => v = .bool false ∧ Below W3.heap.size W3 wx)
  case first =>
    refine wp_region_noPanic (wp_region_held_drew (S := fun W' => Below W3.heap.size W3 W') hmx (Below.refl _ _).drew (fun hS => ?_))
    refine wpAnyH_take (i := 0) (v := .agg #[.slice au L cu, .int .i64 s2]) rfl (by kernel_rfl) (by kernel_rfl) (by kernel_rfl) (fun _ _ _ h => h) (.inl ⟨by rfl, fun w' hs => ?_⟩) hS ?_
    · have x0 := cellS hs x0
      have x1 := cellS hs x1
      clear hs
      go_simp
    simp only [List.getElem_toArray, List.getElem_cons_zero, Act.put, List.setIfInBounds_toArray, List.set_cons_zero, List.set_cons_succ]
    refine wpAnyH_take (i := 2) (v := .agg #[.slice ao L c, .int .i64 root]) rfl (by kernel_rfl) (by kernel_rfl) (by kernel_rfl) (fun _ _ _ h => h) (.inl ⟨by rfl, fun w' hs => ?_⟩) hS ?_
    · have x0 := cellS hs y0
      have x1 := cellS hs y1
      clear hs
      go_simp
    simp only [List.getElem_toArray, List.getElem_cons_succ, List.getElem_cons_zero, Act.put, List.setIfInBounds_toArray, List.set_cons_zero, List.set_cons_succ]
    refine wpAnyH_ready (rs := [1]) (by kernel_rfl) (by simp) (AllReadyH.cons rfl (fun K hK => ?_) AllReadyH.nil)
    go_simp
    refine (CT.out _ hS).mono ?_
    rintro e W' ⟨rfl, b⟩
    refine hK.out _ _ (hS.trans (b.mono hS.size)) (fun hS => ?_)
    clear hK b
    refine wpAnyH_ready (rs := [3]) (by kernel_rfl) (by simp) (AllReadyH.cons rfl (fun K hK => ?_) AllReadyH.nil)
    go_simp
    refine (CS.out _ hS).mono ?_
    rintro e W'' ⟨rfl, b⟩
    refine hK.out _ _ (hS.trans (b.mono hS.size)) (fun hS => ?_)
    clear hK b
    refine wpAnyH_take (i := 4) (v := .bool false) rfl (by kernel_rfl) (by kernel_rfl) (by kernel_rfl) (fun _ _ _ h => h) (.inl ⟨by rfl, fun w' hs => ?_⟩) hS ?_
    · clear hs
      go_simp
    simp only [List.getElem_toArray, List.getElem_cons_succ, List.getElem_cons_zero, Act.put, List.setIfInBounds_toArray, List.set_cons_zero, List.set_cons_succ]
    refine wpAnyH_done (by kernel_rfl) (NoPanic.normal ?_) _
    go_wp2_with fail
    go_meet
    exact ⟨rfl, hS⟩
  case rest =>
    obtain ⟨rfl, hb4⟩ := hcut
    have HB4 := Lib.hid hb4
    have z0 := cellS hb4 x0
    have z1 := cellS hb4 x1
    have v0 := cellS hb4 y0
    have v1 := cellS hb4 y1
    clear hb4 x0 x1 y0 y1
    go_wp2_with fail
    refine (CS.out _ HB4.out).mono ?_
    rintro e W5 ⟨rfl, b⟩
    have x0 := cellS b z0
    have x1 := cellS b z1
    have y0 := cellS b v0
    have y1 := cellS b v1
    have HB5 := Lib.hid (HB4.out.trans (b.mono HB4.out.size))
    clear z0 z1 v0 v1 b HB4
    cases B with
    | false =>
      have hnR : ¬ RightC (rowD nmD) l root := fun h => by have := HBB.out.2 h; cases this
      have cst : ∀ W, Below W3.heap.size W3 W → Calls Try.prog 12 #[.agg #[.slice ao L c, .int .i64 root], .agg #[.slice au L cu, .int .i64 s2]] W fun e w' => e = .returned (.bool false) ∧ Below W.heap.size W w' := fun W hW => same_by false (HSS.out W hW) (HTT.out W hW) (by have := H15.out; omega) (by have := HML.out; omega) HFINE.out HFT.out ⟨fun e => Bool.noConfusion e, fun h => absurd h.one hnR⟩
      have ctt : ∀ W, Below W3.heap.size W3 W → Calls Try.prog 12 #[.agg #[.slice au L cu, .int .i64 s2], .agg #[.slice au L cu, .int .i64 s2]] W fun e w' => e = .returned (.bool false) ∧ Below W.heap.size W w' := fun W hW => same_by false (HTT.out W hW) (HTT.out W hW) (by have := HML.out; omega) (by have := HML.out; omega) HFT.out HFT.out ⟨fun e => Bool.noConfusion e, fun h => absurd (HRR.out.1 h.one) hnR⟩
      have CST := Lib.hid cst
      have CTT := Lib.hid ctt
      clear cst ctt hnR
      go_wp2_with fail
      refine (CST.out _ HB5.out).mono ?_
      rintro e W6 ⟨rfl, b⟩
      have z0 := cellS b x0
      have z1 := cellS b x1
      have HB6 := Lib.hid (HB5.out.trans (b.mono HB5.out.size))
      clear b x0 x1 y0 y1
      go_wp2_with fail
      refine (CTT.out _ HB6.out).mono ?_
      rintro e W7 ⟨rfl, b⟩
      have HB7 := Lib.hid (HB6.out.trans (b.mono HB6.out.size))
      clear b z0 z1
      go_wp2_with fail
      refine (awake_fn _).mono ?_
      rintro e W8 ⟨rfl, b⟩
      have HB8 := Lib.hid (HB7.out.trans (b.mono HB7.out.size))
      clear b
      go_wp2_with fail
      go_ret
      exact ⟨rfl, HBE.out.trans (HB8.out.mono HBE.out.size)⟩
    | true =>
      have hR := HBB.out.1 rfl
      have hpos : 0 < L := by
        have := hR.tied.top
        unfold inR at this
        have := HL.out
        omega
      have hrow := HOT.out.1
      rw [HRL.out] at hrow
      obtain ⟨gt, ct, hgt⟩ := own_ne hrow hpos
      cases hgt
      have hgt := HGT.out gt rfl
      have hos : OwnSyn W5 (.slice (some ⟨gt, 0, none⟩) L cu) m := ⟨rs, (HOT.out.below HB5.out).low, HMAP.out⟩
      have hbx : Box W5 T (.slice (some ⟨gt, 0, none⟩) L cu) s2 := (HB5.out.block _ (by have := HSZ.out.1; omega)).trans HBT.out
      have hbs : Box W5 w.heap.size (.slice ao L c) root := (HB5.out.block _ (by have := HSZ.out; omega)).trans HBS.out
      have hbw : Below w.heap.size w W5 := HBE.out.trans (HB5.out.mono HBE.out.size)
      obtain ⟨f, hf⟩ : ∃ f : Nat → Int, f = fun i : Nat => 1 + IntKind.i64.wrap (line + i) % 1000 := ⟨_, rfl⟩
      have hf1 : ∀ i, 1 ≤ f i ∧ In64 (f i) := fun i => by
        rw [hf]
        dsimp only
        have h1 := Int.emod_nonneg (IntKind.i64.wrap (line + i)) (show (1000 : Int) ≠ 0 by omega)
        have h2 := Int.emod_lt_of_pos (IntKind.i64.wrap (line + i)) (show (0 : Int) < 1000 by omega)
        unfold In64
        omega
      have hpk : ∀ (i : Nat) W, Calls Try.prog 13 #[.int .i64 (IntKind.i64.wrap (line + i)), .int .i64 1000] W fun e w' => e = .returned (.int .i64 (f i - 1)) ∧ W = w' := fun i W => by
        have h1 := law_pick (IntKind.i64.wrap (line + i)) 1000 W (by
          rw [IntKind.wrap_i64]
          unfold In64
          omega) ⟨by decide, by decide⟩
        have e : pickZ (IntKind.i64.wrap (line + i)) 1000 = f i - 1 := by
          rw [hf]
          unfold pickZ
          rw [if_neg (by decide)]
          dsimp only
          omega
        rwa [e] at h1
      have HF1 := Lib.hid hf1
      have HPK := Lib.hid hpk
      have HRC := Lib.hid hR
      have HRM := Lib.hid (HRR.out.2 hR)
      have HSTART := Lib.hid (show OwnSyn W5 (.slice (some ⟨gt, 0, none⟩) L cu) (upTo f m 0) ∧ Box W5 T (.slice (some ⟨gt, 0, none⟩) L cu) s2 ∧ Box W5 w.heap.size (.slice ao L c) root ∧ Below w.heap.size w W5 from ⟨hos, hbx, hbs, hbw⟩)
      have HGT2 := Lib.hid hgt
      clear hrow hgt hos hbx hbs hbw hf hf1 hpk hR hpos CS CT HTT HSS HGT HOT y0 y1 x1 HBB HRR
      go_wp2_with fail
      go_loopg [8] L (fun r i wx => ∃ k : Nat, r = L - k ∧ i = .int .i64 (k : Int) ∧ k ≤ L ∧ OwnSyn wx (.slice (some ⟨gt, 0, none⟩) L cu) (upTo f m k) ∧ Box wx T (.slice (some ⟨gt, 0, none⟩) L cu) s2 ∧ Box wx w.heap.size (.slice ao L c) root ∧ Below w.heap.size w wx)
      case atStart => exact ⟨0, rfl, rfl, Nat.zero_le _, HSTART.out⟩
      case round =>
        clear HSTART x0
        obtain ⟨k, rfl, rfl, hk, hos, hbx, hbs, hbw⟩ := hrel
        have x0 := cell_of hbx 0 (.slice (some ⟨gt, 0, none⟩) L cu) rfl
        have x1 := cell_of hbx 1 (.int .i64 s2) rfl
        by_cases hlt : k < L
        · have hlt' : (k : Int) < L := by omega
          obtain ⟨nk, hnk⟩ : ∃ n, m[k]? = some n := ⟨_, List.getElem?_eq_getElem (by have := HML.out; omega)⟩
          have hul := upTo_len f m k (by have := HML.out; omega)
          have hua := upTo_at f m k (by have := HML.out; omega)
          have hos2 := (hos.below (Below.refl _ _).drew).turn (j := k) (i := 5) (v := .int .i64 (f k)) (a := nk) (b := { nk with line := f k }) (by rw [hul]; exact HML.out) (by rw [hua, hnk]) (by decide) (fun vn vk => ⟨vk, rfl, fun h => h⟩)
          rw [upTo_succ f m k nk hnk] at hos2
          obtain ⟨⟨vk, ek⟩, fk⟩ := hos.cellOk (k * 6 + 5) (by rw [hul]; have := HML.out; omega)
          have hne : gt ≠ T := by have := HGT2.out; omega
          have hnw : w.heap.size ≤ gt := HGT2.out.1
          have hnb : gt ≠ w.heap.size := by
            intro e
            obtain ⟨cur, hc⟩ := hos.block
            rw [e, hbs] at hc
            cases hc
          have HEND := Lib.hid (show OwnSyn (wr.drew.setCell ⟨gt, k * 6 + 5, none⟩ (.int .i64 (f k))) (.slice (some ⟨gt, 0, none⟩) L cu) (upTo f m (k + 1)) ∧ Box (wr.drew.setCell ⟨gt, k * 6 + 5, none⟩ (.int .i64 (f k))) T (.slice (some ⟨gt, 0, none⟩) L cu) s2 ∧ Box (wr.drew.setCell ⟨gt, k * 6 + 5, none⟩ (.int .i64 (f k))) w.heap.size (.slice ao L c) root ∧ Below w.heap.size w (wr.drew.setCell ⟨gt, k * 6 + 5, none⟩ (.int .i64 (f k))) from
            ⟨hos2, (Below.heap_setCell _ _ _ _ (Ne.symm hne)).trans hbx, (Below.heap_setCell _ _ _ _ (Ne.symm hnb)).trans hbs, hbw.drew.setCell (p := ⟨gt, k * 6 + 5, none⟩) hnw _⟩)
          have hS9 := cell_of HEND.out.2.1 0 (.slice (some ⟨gt, 0, none⟩) L cu) rfl
          have hw1 : IntKind.i64.wrap (1 + (f k - 1)) = f k := by
            have h1 := (HF1.out k).2
            unfold In64 at h1
            rw [show 1 + (f k - 1) = f k by omega]
            exact IntWalk.i64_in _ h1
          have k0 : (0 : Int) ≤ k := Int.natCast_nonneg _
          have kw : IntKind.i64.wrap ((k : Int) + 1) = (k : Int) + 1 := IntWalk.i64_in _ (by omega)
          have HS9 := Lib.hid hS9
          clear hos hos2 hul hua hnk hne hnw hnb hbx hbs hbw hS9
          go_wp2_with fail
          refine wp_region_noPanic (wp_region_held_drew (S := fun W' => W'.cell? ⟨T, 0, none⟩ = some (.slice (some ⟨gt, 0, none⟩) L cu)) hmx x0 (fun hS => ?_))
          refine wpAnyH_take (i := 0) (v := .pointer (some ⟨T, 0, none⟩)) rfl (by kernel_rfl) (by kernel_rfl) (by kernel_rfl) (fun _ _ _ h => h) (.inl ⟨by rfl, fun w' hs => ?_⟩) hS ?_
          · clear hs
            go_simp
          simp only [List.getElem_toArray, List.getElem_cons_zero, Act.put, List.setIfInBounds_toArray, List.set_cons_zero, List.set_cons_succ]
          refine wpAnyH_take (i := 1) (v := .slice (some ⟨gt, 0, none⟩) L cu) rfl (by kernel_rfl) (by kernel_rfl) (by kernel_rfl) (fun _ _ _ h => h) (.inl ⟨by rfl, fun w' hs => ?_⟩) hS ?_
          · have x0 := hs
            clear hs
            go_simp
          simp only [List.getElem_toArray, List.getElem_cons_succ, List.getElem_cons_zero, Act.put, List.setIfInBounds_toArray, List.set_cons_zero, List.set_cons_succ]
          refine wpAnyH_take (i := 2) (v := .int .i64 (k : Int)) rfl (by kernel_rfl) (by kernel_rfl) (by kernel_rfl) (fun _ _ _ h => h) (.inl ⟨by rfl, fun w' hs => ?_⟩) hS ?_
          · clear hs
            go_simp
          simp only [List.getElem_toArray, List.getElem_cons_succ, List.getElem_cons_zero, Act.put, List.setIfInBounds_toArray, List.set_cons_zero, List.set_cons_succ]
          refine wpAnyH_take (i := 3) (v := .int .i64 line) rfl (by kernel_rfl) (by kernel_rfl) (by kernel_rfl) (fun _ _ _ h => h) (.inl ⟨by rfl, fun w' hs => ?_⟩) hS ?_
          · clear hs
            go_simp
          simp only [List.getElem_toArray, List.getElem_cons_succ, List.getElem_cons_zero, Act.put, List.setIfInBounds_toArray, List.set_cons_zero, List.set_cons_succ]
          refine wpAnyH_take (i := 4) (v := .int .i64 (k : Int)) rfl (by kernel_rfl) (by kernel_rfl) (by kernel_rfl) (fun _ _ _ h => h) (.inl ⟨by rfl, fun w' hs => ?_⟩) hS ?_
          · clear hs
            go_simp
          simp only [List.getElem_toArray, List.getElem_cons_succ, List.getElem_cons_zero, Act.put, List.setIfInBounds_toArray, List.set_cons_zero, List.set_cons_succ]
          refine wpAnyH_take (i := 5) (v := .int .i64 (IntKind.i64.wrap (line + (k : Int)))) rfl (by kernel_rfl) (by kernel_rfl) (by kernel_rfl) (fun _ _ _ h => h) (.inl ⟨by rfl, fun w' hs => ?_⟩) hS ?_
          · clear hs
            go_simp
          simp only [List.getElem_toArray, List.getElem_cons_succ, List.getElem_cons_zero, Act.put, List.setIfInBounds_toArray, List.set_cons_zero, List.set_cons_succ]
          refine wpAnyH_ready (rs := [6]) (by kernel_rfl) (by simp) (AllReadyH.cons rfl (fun K hK => ?_) AllReadyH.nil)
          go_simp
          refine (HPK.out k _).mono ?_
          rintro e W' ⟨rfl, rfl⟩
          refine hK.out _ _ hS (fun hS => ?_)
          clear hK
          refine wpAnyH_take (i := 7) (v := .int .i64 (f k)) rfl (by kernel_rfl) (by kernel_rfl) (by kernel_rfl) (fun _ _ _ h => h) (.inl ⟨by rfl, fun w' hs => ?_⟩) hS ?_
          · clear hs
            go_simp
          simp only [List.getElem_toArray, List.getElem_cons_succ, List.getElem_cons_zero, Act.put, List.setIfInBounds_toArray, List.set_cons_zero, List.set_cons_succ]
          refine wpAnyH_take (i := 8) (v := .pointer (some ⟨gt, k * 6, none⟩)) rfl (by kernel_rfl) (by kernel_rfl) (by kernel_rfl) (fun _ _ _ h => h) (.inl ⟨by rfl, fun w' hs => ?_⟩) hS ?_
          · clear hs
            go_simp
          simp only [List.getElem_toArray, List.getElem_cons_succ, List.getElem_cons_zero, Act.put, List.setIfInBounds_toArray, List.set_cons_zero, List.set_cons_succ]
          refine wpAnyH_take (i := 9) (v := .pointer (some ⟨gt, k * 6 + 5, none⟩)) rfl (by kernel_rfl) (by kernel_rfl) (by kernel_rfl) (fun _ _ _ h => h) (.inl ⟨by rfl, fun w' hs => ?_⟩) hS ?_
          · clear hs
            go_simp
          simp only [List.getElem_toArray, List.getElem_cons_succ, List.getElem_cons_zero, Act.put, List.setIfInBounds_toArray, List.set_cons_zero, List.set_cons_succ]
          refine wpAnyH_ready (rs := [10]) (by kernel_rfl) (by simp) (AllReadyH.cons rfl (fun K hK => ?_) AllReadyH.nil)
          go_simp
          refine hK.out _ _ HS9.out (fun hS => ?_)
          clear hK
          refine wpAnyH_done (by kernel_rfl) (NoPanic.normal ?_) _
          go_wp2_with fail
          go_roundg (L - (k + 1))
          case measure => omega
          case rel => exact ⟨k + 1, rfl, by go_num, by omega, HEND.out⟩
        · obtain rfl : k = L := by omega
          have hlt' : ¬ (k : Int) < k := by omega
          have y0 := cell_of hbs 0 (.slice ao k c) rfl
          have y1 := cell_of hbs 1 (.int .i64 root) rfl
          rw [← HML.out, upTo_all, HML.out] at hos
          have hR1 := (right_iff _ _ _).1 HRC.out
          have hR2 : RightP (rowD nmD) (lineN f 0 m) s2 := rightD_lineN (lineN_no f m) (fun i hi => by rw [lineN_in hi]; exact (HF1.out _).1) ((right_iff _ _ _).1 HRM.out)
          have hsp : SameP (rowD nmD) l root (lineN f 0 m) s2 := by
            obtain ⟨hp1, hp2⟩ := HPI.out
            rw [hp2] at hR2 ⊢
            exact same_moved hp1 (lineN_no f m) hR1 hR2
          have hll : (lineN f 0 m).length ≤ 1000000 := by rw [lineN_length]; have := HML.out; omega
          have hfl : ∀ n ∈ lineN f 0 m, Fine n := lineN_fine (fun i => (HF1.out i).2) m 0 HFT.out
          have hS : ∀ W, Below wr.heap.size wr W → SynAt W (.agg #[.slice ao k c, .int .i64 root]) l root := fun W hW => HS.out.below (hbw.trans (hW.mono hbw.size))
          have hT : ∀ W, Below wr.heap.size wr W → SynAt W (.agg #[.slice (some ⟨gt, 0, none⟩) k cu, .int .i64 s2]) (lineN f 0 m) s2 := fun W hW => (hos.below hW).syn hfl s2 HS64.out hll
          have cst : ∀ W, Below wr.heap.size wr W → Calls Try.prog 12 #[.agg #[.slice ao k c, .int .i64 root], .agg #[.slice (some ⟨gt, 0, none⟩) k cu, .int .i64 s2]] W fun e w' => e = .returned (.bool true) ∧ Below W.heap.size W w' := fun W hW => same_by true (hS W hW) (hT W hW) (by have := H15.out; omega) hll HFINE.out hfl ⟨fun _ => hsp.sameC, fun _ => rfl⟩
          have cts : ∀ W, Below wr.heap.size wr W → Calls Try.prog 12 #[.agg #[.slice (some ⟨gt, 0, none⟩) k cu, .int .i64 s2], .agg #[.slice ao k c, .int .i64 root]] W fun e w' => e = .returned (.bool true) ∧ Below W.heap.size W w' := fun W hW => same_by true (hT W hW) (hS W hW) hll (by have := H15.out; omega) hfl HFINE.out ⟨fun _ => (same_sym hsp).sameC, fun _ => rfl⟩
          have CST := Lib.hid cst
          have CTS := Lib.hid cts
          have HBW := Lib.hid hbw
          clear cst cts hS hT hll hfl hsp hR1 hR2 hos hbx hbs hbw
          go_wp2_with fail
          refine (CST.out _ (Below.refl _ _)).mono ?_
          rintro e W6 ⟨rfl, b⟩
          have z0 := cellS b x0
          have z1 := cellS b x1
          have v0 := cellS b y0
          have v1 := cellS b y1
          have HB6 := Lib.hid b
          clear b x0 x1 y0 y1
          go_wp2_with fail
          refine (CTS.out _ HB6.out).mono ?_
          rintro e W7 ⟨rfl, b⟩
          have HB7 := Lib.hid (HB6.out.trans (b.mono HB6.out.size))
          clear b z0 z1 v0 v1
          go_wp2_with fail
          refine (awake_fn _).mono ?_
          rintro e W8 ⟨rfl, b⟩
          have HB8 := Lib.hid (HB7.out.trans (b.mono HB7.out.size))
          clear b
          go_wp2_with fail
          go_ret
          exact ⟨rfl, HBW.out.trans (HB8.out.mono HBW.out.size)⟩

end Go.Proofs.Ytmddffacjkkeiaa.Nd
