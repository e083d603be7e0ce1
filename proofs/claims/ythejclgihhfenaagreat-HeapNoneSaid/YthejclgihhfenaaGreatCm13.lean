import Derived.Test.YthejclgihhfenaaGreatCm12
/-
  Layer 13: the developers' table: a new place, the last one.
-/
namespace Go.Proofs.YthejclgihhfenaaGreat.Td
open Go Go.RowKit Go.Proofs.YthejclgihhfenaaGreat.Pl Go.Proofs.YthejclgihhfenaaGreat.Tb

def newP (g : Nat) (k : Vl) : Plc := ⟨g, k, nilV, false⟩
theorem find_add : ∀ (l : List Plc) (g : Nat) (k j : Vl), (∀ q ∈ l, q.k ≠ k) → findP (l ++ [newP g k]) j = if j = k then some g else findP l j
  | [], g, k, j, _ => by
    show findP [newP g k] j = _
    rw [find_cons]
    by_cases e : j = k
    · rw [if_pos e, if_pos (show (newP g k).k = j from e.symm)]; rfl
    · rw [if_neg e, if_neg (show ¬ (newP g k).k = j from fun x => e x.symm)]
  | q :: l, g, k, j, h => by
    show findP (q :: (l ++ [newP g k])) j = if j = k then some g else findP (q :: l) j
    rw [find_cons, find_cons, find_add l g k j (fun r hr => h r (List.mem_cons_of_mem _ hr))]
    by_cases e : q.k = j
    · rw [if_pos e, if_pos e, if_neg (fun x => h q (List.mem_cons_self ..) (e.trans x))]
    · rw [if_neg e, if_neg e]
section
variable {w w' : World} {b mb g : Nat} {l l1 l2 : List Plc} {lv ln : Int} {p : Plc} {vf : Value} {fd G : List Nat}
theorem TM.lasts (h : TM w b mb l lv ln) : w.cell? ⟨b, 6, none⟩ = some (.pointer (some (prevA b l))) ∧ w.cell? ⟨(prevA b l).block, (prevA b l).off + 5, none⟩ = some (.pointer (some (endA b))) := by
  obtain ⟨P, hP⟩ := prev_split b l
  have h0 := h.links
  rw [hP, List.append_assoc, List.singleton_append, links_app] at h0
  exact ⟨h0.2.1.2, h0.2.1.1⟩
def tied (w : World) (x : Addr) (b g : Nat) : World := (w.setCell ⟨x.block, x.off + 5, none⟩ (.pointer (some ⟨g, 0, none⟩))).setCell ⟨b, 6, none⟩ (.pointer (some ⟨g, 0, none⟩))
theorem TM.tie (h : TM w b mb l lv ln) (k : Vl) (hg : ∀ q ∈ l, q.b ≠ g) (hgb : g ≠ b) (h4 : w.cell? ⟨g, 4, none⟩ = some (.pointer (some (prevA b l)))) (h5 : w.cell? ⟨g, 5, none⟩ = some (.pointer (some (endA b)))) :
    Links (tied w (prevA b l) b g) (endA b :: (l ++ [newP g k]).map adr ++ [endA b]) := by
  obtain ⟨P, hP⟩ := prev_split b l
  have hb : ∀ q ∈ l, q.b ≠ b := fun q hq => h.apart hq
  have hx := prev_is b l
  have hE : endA b = endA b ∨ ∃ q ∈ l, endA b = adr q := .inl rfl
  have hxg : (prevA b l).block ≠ g := by
    rcases hx with e | ⟨q, hq, e⟩
    · rw [e]; exact hgb.symm
    · rw [e]; exact hg q hq
  have h0 := h.links
  obtain ⟨t1, t2⟩ := tail_last _ _ _ _ hP
  rw [hP, List.append_assoc, List.singleton_append, links_app] at h0
  rw [show endA b :: (l ++ [newP g k]).map adr ++ [endA b] = (endA b :: l.map adr) ++ (adr (newP g k) :: [endA b]) from by simp, hP, List.append_assoc, List.singleton_append, links_app]
  have mU : ∀ z ∈ P ++ [prevA b l], z = endA b ∨ ∃ q ∈ l, z = adr q := fun z hz => mem_prev (by rw [hP]; exact hz)
  refine ⟨links_set4 (x := endA b) _ (fun z hz => one_off hb (mU z hz) hE) ?_ (links_set5 _ (fun z hz => one_off hb (mU z hz) hx) ?_ h0.1), ⟨?_, ?_⟩, ⟨?_, ?_⟩, trivial⟩
  · rw [t1]
    intro z hz e
    obtain ⟨q, hq, rfl⟩ := List.mem_map.1 hz
    exact hb q hq e
  · rw [t2]
    exact last_ne P _ (by rw [← hP]; exact nd_prev h.nd hb)
  · exact cell_keep (cell_put h0.2.1.1) (addr_ne45 (x := endA b) (one_off hb hx hE))
  · exact cell_keep (cell_keep h4 (ne_blk hxg)) (ne_blk hgb.symm)
  · exact cell_keep (cell_keep h5 (ne_blk hxg)) (ne_blk hgb.symm)
  · exact cell_put (cell_keep h0.2.1.2 (addr_ne54 (z := endA b) (one_off hb hE hx)))
theorem FAt.tie2 {x : Addr} (h : FAt w b vf fd) (hT : TM w b mb l lv ln) (hx : x = endA b ∨ ∃ q ∈ l, x = adr q) (u v : Value) : FAt ((w.setCell ⟨x.block, x.off + 5, none⟩ u).setCell ⟨b, 6, none⟩ v) b vf fd := by
  have ap := fun k hk => h.apart hT (k := k) hk
  refine ⟨cell_keep (cell_keep h.cell ?_) (ne_off (by decide)), row_turns h.row ((turns_one (G := [x.block, b]) (by simp) _ _).trans (turns_one (G := [x.block, b]) (by simp) _ _) (fun _ h => .inl h)) (fun k hk hm => ?_)⟩
  · rcases hx with e | ⟨q, hq, e⟩
    · rw [e]; exact ne_off (show 2 + 5 ≠ 9 by decide)
    · rw [e]; exact ne_blk (hT.apart hq)
  · rcases List.mem_cons.1 hm with e | hm
    · rcases hx with e2 | ⟨q, hq, e2⟩
      · exact (ap k hk).1 (by rw [e, e2]; rfl)
      · exact (ap k hk).2.2 q hq (by rw [e, e2]; rfl)
    · exact (ap k hk).1 (List.mem_singleton.1 hm)
set_option maxHeartbeats 2000000 in
set_option maxRecDepth 100000 in
theorem add_fn (h : TM w b mb l lv ln) (hf : FAt w b vf fd) (k : Vl) (hk : k.In) (hk0 : k.kind ≠ 0) (hno : ∀ q ∈ l, q.k ≠ k) (hl : l.length < 65536) :
    Calls Tryz.prog 104 #[.pointer (some ⟨b, 0, none⟩), k.val] w (fun e w' => ∃ g, e = .returned (.pointer (some ⟨g, 0, none⟩)) ∧ w.heap.size ≤ g ∧ TM w' b mb (l ++ [newP g k]) lv ln ∧ FAt w' b vf fd ∧ Turns (mb :: tableG b vf l) w w') := by
  obtain ⟨kk, kn⟩ := k
  have hx := prev_is b l
  have hx2 := spot_end hx
  have hx0 := new_block w (.cells #[.int .u8 (kk : Int), .int .i64 kn] 37)
  have hb0 := (Below.refl w.heap.size w).alloc (Nat.le_refl _) (.cells #[.int .u8 (kk : Int), .int .i64 kn] 37)
  have y0 := cell_of hx0 0 _ rfl
  have y1 := cell_of hx0 1 _ rfl
  have hT0 := h.below hb0
  have x6 := hT0.lasts.1
  have HX := Lib.hid hx
  obtain ⟨xb, xo, hxe⟩ : ∃ xb xo, prevA b l = ⟨xb, xo, none⟩ := ⟨_, _, hx2⟩
  have HXE := Lib.hid hxe
  rw [hxe] at x6
  have HT0 := Lib.hid hT0
  have HF0 := Lib.hid (hf.below hb0)
  have HB0 := Lib.hid hb0
  have HBK := Lib.hid hx0
  have HS := Lib.hid (And.intro hk (And.intro hk0 (And.intro hno hl)))
  have HLT := Lib.hid (And.intro h.head.shape.lt (And.intro h.mapLt (fun q hq => (h.nodes q hq).shape.lt)))
  have HFL := Lib.hid (fun j hj => row_lt hf.row (k := j) hj)
  show Calls Tryz.prog 104 #[.pointer (some ⟨b, 0, none⟩), .agg #[.int .u8 (kk : Int), .int .i64 kn]] w _
  obtain ⟨β, hβ⟩ : ∃ β, w.heap.size = β := ⟨_, rfl⟩
  have HBE := Lib.hid hβ
  rw [hβ] at y0 y1 HBK
  clear hx hx2 hx0 hb0 hT0 hxe h hf hk hk0 hno hl
  go_enter Tryz.func104, Tryz.ntmps104
  go_upto_region 1 with fail
  obtain ⟨w1, hW⟩ : ∃ w1, w.alloc (.cells #[.int .u8 (kk : Int), .int .i64 kn] 37) = w1 := ⟨_, rfl⟩
  have hs1 : w1.heap.size = β + 1 := by rw [← hW, ← hβ]; simp
  rw [hW] at y0 y1 x6 HT0 HF0 HB0 HBK ⊢
  clear hW hβ
  go_region_held3 (fun w' => w'.cell? ⟨β, 0, none⟩ = some (.int .u8 (kk : Int)) ∧ w'.cell? ⟨β, 1, none⟩ = some (.int .i64 kn) ∧ w'.cell? ⟨b, 6, none⟩ = some (.pointer (some ⟨xb, xo, none⟩)))
    (go_keep)
    (fail)
  have hg0 : (w1.alloc (.cells #[.int .u8 (kk : Int), .int .i64 kn, .int .u8 0, .int .i64 0, .pointer (some ⟨xb, xo, none⟩), .pointer (some ⟨b, 2, none⟩), .bool false] 140)).drew.heap[β + 1]? = some (.cells #[.int .u8 (kk : Int), .int .i64 kn, .int .u8 0, .int .i64 0, .pointer (some ⟨xb, xo, none⟩), .pointer (some ⟨b, 2, none⟩), .bool false] 140 (0, 0)) := by
    rw [← hs1]; exact new_block w1 _
  have hb2 : Below w1.heap.size w1 (w1.alloc (.cells #[.int .u8 (kk : Int), .int .i64 kn, .int .u8 0, .int .i64 0, .pointer (some ⟨xb, xo, none⟩), .pointer (some ⟨b, 2, none⟩), .bool false] 140)).drew := ((Below.refl _ _).alloc (Nat.le_refl _) _).drew
  generalize (w1.alloc (.cells #[.int .u8 (kk : Int), .int .i64 kn, .int .u8 0, .int .i64 0, .pointer (some ⟨xb, xo, none⟩), .pointer (some ⟨b, 2, none⟩), .bool false] 140)).drew = w2 at *
  have hT2 := HT0.out.below hb2
  have hF2 := HF0.out.below hb2
  have hK2 := (hb2.block _ (lt_of_get HBK.out)).trans HBK.out
  have hB2 := HB0.out.trans (hb2.mono HB0.out.size)
  clear y0 y1 x6 hb2 hs1
  obtain ⟨g, hgd⟩ : ∃ g, β + 1 = g := ⟨_, rfl⟩
  rw [hgd] at hg0 ⊢
  have HGD := Lib.hid hgd
  clear hgd
  have hgq : ∀ q ∈ l, q.b ≠ g := fun q hq e => by have h1 := HLT.out.2.2 q hq; have h2 := HBE.out; have h3 := HGD.out; omega
  have hgb : g ≠ b := fun e => by have h1 := HLT.out.1; have h2 := HBE.out; have h3 := HGD.out; omega
  have hgm : g ≠ mb := fun e => by have h1 := HLT.out.2.1; have h2 := HBE.out; have h3 := HGD.out; omega
  have hxg : xb ≠ g := by
    rcases HX.out with e | ⟨q, hq, e⟩
    · rw [HXE.out] at e; injection e with e _; rw [e]; exact hgb.symm
    · rw [HXE.out] at e; injection e with e _; rw [e]; exact hgq q hq
  have g4 := cell_of hg0 4 _ rfl
  have g5 := cell_of hg0 5 _ rfl
  have hlast := hT2.lasts
  rw [HXE.out] at hlast
  have hxm := hT2.blockIn HX.out vf
  have zx := hT2.freeAt HX.out (xo + 5)
  rw [HXE.out] at hxm zx
  have x6 := hlast.1
  have x5 : w2.cell? ⟨xb, xo + 5, none⟩ = some (.pointer (some ⟨b, 2, none⟩)) := hlast.2
  have z6 := hT2.head.shape.free 6
  have hlinks := hT2.tie ⟨kk, kn⟩ hgq hgb (by rw [HXE.out]; exact g4) g5
  have hhead := hT2.head.untie (l := l) (y := endA b) (fun q hq => hT2.apart hq) HX.out (.inl rfl) (.pointer (some ⟨g, 0, none⟩)) (.pointer (some ⟨g, 0, none⟩))
  have hnodes : ∀ q ∈ l, NodeAt (tied w2 (prevA b l) b g) q := fun q hq => (hT2.nodes q hq).untie (l := l) (y := endA b) (hT2.apart hq) HX.out (.inl rfl) _ _
  have hnew : NodeAt (tied w2 (prevA b l) b g) (newP g ⟨kk, kn⟩) := (show NodeAt w2 (newP g ⟨kk, kn⟩) from ⟨⟨_, hg0, rfl⟩, cell_of hg0 0 _ rfl, cell_of hg0 1 _ rfl, cell_of hg0 2 _ rfl, cell_of hg0 3 _ rfl, cell_of hg0 6 _ rfl⟩).untie (l := l) (y := endA b) hgb HX.out (.inl rfl) _ _
  have hF3 := hF2.tie2 hT2 HX.out (.pointer (some ⟨g, 0, none⟩)) (.pointer (some ⟨g, 0, none⟩))
  obtain ⟨M, hM, hmap⟩ := hT2.map
  have hbm := hT2.mapHead
  have hM3 : (tied w2 (prevA b l) b g).heap[mb]? = some M := by
    unfold tied
    rw [heap_setCell_other _ ⟨b, 6, none⟩ _ _ hbm.symm, HXE.out, heap_setCell_other _ ⟨xb, xo + 5, none⟩ _ _ hxm.2.1.symm]
    exact hM
  have hkb : β ≠ xb ∧ β ≠ b ∧ β ≠ mb ∧ β ≠ g := by
    have h2 := HBE.out
    have h3 := HGD.out
    have h4 := HLT.out.1
    have h5 := HLT.out.2.1
    refine ⟨?_, by omega, by omega, by omega⟩
    rcases HX.out with e | ⟨q, hq, e⟩
    · rw [HXE.out] at e; injection e with e _; rw [e]; omega
    · have := HLT.out.2.2 q hq
      rw [HXE.out] at e; injection e with e _; rw [e]; omega
  have k0 : (tied w2 (prevA b l) b g).cell? ⟨β, 0, none⟩ = some (.int .u8 (kk : Int)) := by
    unfold tied; rw [HXE.out]; exact cell_keep (cell_keep (cell_of hK2 0 _ rfl) (ne_blk hkb.1.symm)) (ne_blk hkb.2.1.symm)
  have k1 : (tied w2 (prevA b l) b g).cell? ⟨β, 1, none⟩ = some (.int .i64 kn) := by
    unfold tied; rw [HXE.out]; exact cell_keep (cell_keep (cell_of hK2 1 _ rfl) (ne_blk hkb.1.symm)) (ne_blk hkb.2.1.symm)
  have hturns : Turns (mb :: tableG b vf l) w2 (tied w2 (prevA b l) b g) := by
    unfold tied
    rw [HXE.out]
    exact (turns_one (List.mem_cons_of_mem _ hxm.1) _ _).trans (turns_one (List.mem_cons_of_mem _ (List.mem_cons_self ..)) _ _) (fun _ h => .inl h)
  have hd := hT2.nd
  have hd2 := hT2.keys
  have hd3 := hT2.ok
  have hmn := fun q hq => hT2.mapNode (p := q) hq
  have hrm := row_map hF2.row hM hmap
  have hmm := hhead.map
  have hoo := one_off (z := ⟨xb, xo, none⟩) (x := endA b) (l := l) (b := b) (fun q hq => hT2.apart hq) (by rw [← HXE.out]; exact HX.out) (.inl rfl)
  rw [HXE.out] at hlinks hhead hnodes hnew hF3 hM3 k0 k1 hturns hmm
  unfold tied at hlinks hnodes hnew hM3 k0 k1 hturns
  dsimp only [endA] at hlinks hhead hnodes hnew hF3 hM3 k0 k1 hturns hmm hoo
  have HM := Lib.hid hmap
  have HLK := Lib.hid hlinks
  have HHD := Lib.hid hhead
  have HND := Lib.hid hnodes
  have HNW := Lib.hid hnew
  have HF3 := Lib.hid hF3
  have HM3 := Lib.hid hM3
  have HTU := Lib.hid hturns
  have HB2 := Lib.hid hB2
  have HOK := Lib.hid (And.intro hd (And.intro hd2 hd3))
  have HMN := Lib.hid (And.intro hmn hrm)
  have HNE := Lib.hid (And.intro hgq (And.intro hgb (And.intro hgm (And.intro hbm hkb))))
  have n1 : ∀ (w' : World) (j : Nat) (x : Value), (w'.setCell ⟨xb, xo + 5, none⟩ x).cell? ⟨g, j, none⟩ = w'.cell? ⟨g, j, none⟩ := fun _ _ _ => World.cell?_setCell_other _ _ _ _ (ne_blk hxg)
  have n2 : ∀ (w' : World) (j : Nat) (x : Value), (w'.setCell ⟨b, 6, none⟩ x).cell? ⟨g, j, none⟩ = w'.cell? ⟨g, j, none⟩ := fun _ _ _ => World.cell?_setCell_other _ _ _ _ (ne_blk hgb.symm)
  have n3 : ∀ (w' : World) (x : Value), (w'.setCell ⟨xb, xo + 5, none⟩ x).cell? ⟨b, 6, none⟩ = w'.cell? ⟨b, 6, none⟩ := fun _ _ => World.cell?_setCell_other _ _ _ _ (fun e => by injection e with e1 e2; have := hoo e1; omega)
  have n4 : ∀ (w' : World) (x : Value), (w'.setCell ⟨b, 6, none⟩ x).cell? ⟨xb, xo + 5, none⟩ = w'.cell? ⟨xb, xo + 5, none⟩ := fun _ _ => World.cell?_setCell_other _ _ _ _ (fun e => by injection e with e1 e2; have := hoo e1.symm; omega)
  clear hT2 hF2 hK2 hB2 hg0 hgq hgb hgm hlast hxm hlinks hhead hnodes hnew hF3 hM hmap hbm hM3 hkb hturns hd hd2 hd3 hmn hrm hoo hxg
  go_upto_region 2 with fail
  go_region_held3 (fun w' => w'.cell? ⟨g, 4, none⟩ = some (.pointer (some ⟨xb, xo, none⟩)) ∧ w'.cell? ⟨g, 5, none⟩ = some (.pointer (some ⟨b, 2, none⟩)))
    (go_keep)
    (fail)
  clear n1 n2 n3 n4 g4 g5 x5 x6 zx z6
  generalize hW : (w2.setCell ⟨xb, xo + 5, none⟩ (.pointer (some ⟨g, 0, none⟩))).setCell ⟨b, 6, none⟩ (.pointer (some ⟨g, 0, none⟩)) = w3 at *
  clear hW
  obtain ⟨w4, hrun, M4, hM4, hmap4, ht4, hsz⟩ := HM.out.store (w := w3.drew.drew) HM3.out (by have := HS.out.2.2.2; omega) ⟨kk, kn⟩ g HS.out.1
  have hG3 : ∀ x : Nat, x ≠ mb → x ∉ [mb] := fun x hx hm => hx (List.mem_singleton.1 hm)
  have o0 : w4.cell? ⟨β, 0, none⟩ = some (.int .u8 (kk : Int)) := cell_turns (w := w3.drew.drew) k0 ht4 (hG3 β HNE.out.2.2.2.2.2.2.1)
  have o1 : w4.cell? ⟨β, 1, none⟩ = some (.int .i64 kn) := cell_turns (w := w3.drew.drew) k1 ht4 (hG3 β HNE.out.2.2.2.2.2.2.1)
  have om : w4.cell? ⟨b, 1, none⟩ = some (.map (some mb)) := cell_turns (w := w3.drew.drew) hmm ht4 (hG3 b HNE.out.2.2.2.1)
  unfold mapT Vl.val Vl.cells ptrP at hrun
  dsimp only at hrun
  have HM4 := Lib.hid (And.intro hM4 hmap4)
  have HT4 := Lib.hid (turns_drew2 ht4)
  have HG3 := Lib.hid hG3
  clear hM4 hmap4 ht4 hsz hG3
  go_upto_region 3 with fail
  go_region_held3 (fun w' => w'.cell? ⟨b, 1, none⟩ = some (.map (some mb)) ∧ w'.cell? ⟨β, 0, none⟩ = some (.int .u8 (kk : Int)) ∧ w'.cell? ⟨β, 1, none⟩ = some (.int .i64 kn))
    (go_keep)
    (fail)
  go_wp2_with fail
  go_ret
  obtain ⟨hm1, hm2⟩ := HM4.out
  obtain ⟨d1, d2, d3⟩ := HOK.out
  have hkn : findP l ⟨kk, kn⟩ = none := by
    rcases find_cases l ⟨kk, kn⟩ with ⟨h1, _⟩ | ⟨q, hq, h1, _⟩
    · exact h1
    · exact absurd h1 (HS.out.2.2.1 q hq)
  have hgm : g ∉ [mb] := HG3.out g HNE.out.2.2.1
  refine ⟨g, rfl, by have h1 := HBE.out; have h2 := HGD.out; omega, ⟨HHD.out.turns HT4.out (HG3.out b HNE.out.2.2.2.1), fun q hq => ?_, ?_, ⟨M4, hm1, ?_⟩, ?_, ?_, fun q hq => ?_⟩, HF3.out.turns HT4.out (HG3.out b HNE.out.2.2.2.1) (fun j hj => HG3.out j (fun e => HMN.out.2 (by rw [hj, e]))), ((Turns.of_below HB2.out).trans HTU.out (fun _ h => .inl h)).trans HT4.out (fun x hx => .inl (by rw [List.mem_singleton.1 hx]; exact List.mem_cons_self ..))⟩
  · rcases List.mem_append.1 hq with hq | hq
    · exact (HND.out q hq).turns HT4.out (HG3.out q.b (HMN.out.1 q hq))
    · rw [List.mem_singleton.1 hq]
      exact HNW.out.turns HT4.out hgm
  · exact links_turns HT4.out _ (fun z hz => by
      rcases ends_mem hz with rfl | ⟨q, hq, rfl⟩
      · exact HG3.out b HNE.out.2.2.2.1
      · rcases List.mem_append.1 hq with hq | hq
        · exact HG3.out q.b (HMN.out.1 q hq)
        · rw [List.mem_singleton.1 hq]
          exact hgm) HLK.out
  · rw [hkn] at hm2
    rw [if_neg (show ¬ (none : Option Nat).isSome = true from fun h => by cases h)] at hm2
    rw [List.length_append, List.length_singleton]
    exact hm2.congr (fun j => find_add l g ⟨kk, kn⟩ j HS.out.2.2.1)
  · rw [List.map_append, List.nodup_append]
    refine ⟨d1, by simp, fun x hx y hy e => ?_⟩
    obtain ⟨q, hq, e2⟩ := List.mem_map.1 hx
    have hy : y = g := by simpa [newP] using hy
    exact HNE.out.1 q hq (by rw [e2, e, hy])
  · rw [List.map_append, List.nodup_append]
    refine ⟨d2, by simp, fun x hx y hy e => ?_⟩
    obtain ⟨q, hq, e2⟩ := List.mem_map.1 hx
    have hy : y = ⟨kk, kn⟩ := by simpa [newP] using hy
    exact HS.out.2.2.1 q hq (by rw [e2, e, hy])
  · rcases List.mem_append.1 hq with hq | hq
    · exact d3 q hq
    · rw [List.mem_singleton.1 hq]
      exact ⟨HS.out.1, ⟨by show 0 < 256; decide, by show -9223372036854775808 ≤ (0 : Int); decide, by show (0 : Int) ≤ 9223372036854775807; decide⟩, HS.out.2.1⟩
end
end Go.Proofs.YthejclgihhfenaaGreat.Td
