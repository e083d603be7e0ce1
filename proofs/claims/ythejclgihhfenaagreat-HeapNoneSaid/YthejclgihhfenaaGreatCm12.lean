import Derived.Test.YthejclgihhfenaaGreatCm11
/-
  Layer 13: the developers' table: a place taken out.
-/
namespace Go.Proofs.YthejclgihhfenaaGreat.Td
open Go Go.RowKit Go.Proofs.YthejclgihhfenaaGreat.Pl Go.Proofs.YthejclgihhfenaaGreat.Tb

theorem find_drop : ∀ (l1 : List Plc) (p : Plc) (l2 : List Plc) (k : Vl), ((l1 ++ p :: l2).map (·.k)).Nodup → findP (l1 ++ l2) k = if k = p.k then none else findP (l1 ++ p :: l2) k
  | [], p, l2, k, h => by
    have h2 := List.nodup_cons.1 (show (p.k :: l2.map (·.k)).Nodup from h)
    show findP l2 k = if k = p.k then none else findP (p :: l2) k
    rw [find_cons]
    by_cases e : k = p.k
    · rw [if_pos e]
      rcases find_cases l2 k with ⟨h1, _⟩ | ⟨q, hq, h1, _⟩
      · exact h1
      · exact absurd (List.mem_map.2 ⟨q, hq, h1.trans e⟩) h2.1
    · rw [if_neg e, if_neg (fun x => e x.symm)]
  | q :: l1, p, l2, k, h => by
    have h2 := List.nodup_cons.1 (show (q.k :: (l1 ++ p :: l2).map (·.k)).Nodup from h)
    show findP (q :: (l1 ++ l2)) k = if k = p.k then none else findP (q :: (l1 ++ p :: l2)) k
    rw [find_cons, find_cons, find_drop l1 p l2 k h2.2]
    by_cases e : q.k = k
    · rw [if_pos e, if_pos e, if_neg (fun x => h2.1 (by rw [e, x]; exact List.mem_map.2 ⟨p, by simp, rfl⟩))]
    · rw [if_neg e, if_neg e]
section
variable {w w' : World} {b mb g : Nat} {l l1 l2 : List Plc} {lv ln : Int} {p : Plc} {vf : Value} {fd G : List Nat}
theorem turns_drew2 (h : Turns G w.drew.drew w') : Turns G w w' := ⟨h.os, h.tape, h.output, h.size, h.block⟩
theorem prev_in {b : Nat} {l1 l2 : List Plc} {p : Plc} : prevA b l1 = endA b ∨ ∃ q ∈ l1 ++ p :: l2, prevA b l1 = adr q := (prev_is b l1).imp id (fun ⟨q, hq, e⟩ => ⟨q, List.mem_append_left _ hq, e⟩)
theorem next_in {b : Nat} {l1 l2 : List Plc} {p : Plc} : nextA b l2 = endA b ∨ ∃ q ∈ l1 ++ p :: l2, nextA b l2 = adr q := (next_is b l2).imp id (fun ⟨q, hq, e⟩ => ⟨q, List.mem_append_right _ (List.mem_cons_of_mem _ hq), e⟩)
theorem TM.freeAt (h : TM w b mb l lv ln) {x : Addr} (hx : x = endA b ∨ ∃ q ∈ l, x = adr q) (i : Nat) : w.frozen? ⟨x.block, i, none⟩ = false := by
  rcases hx with rfl | ⟨q, hq, rfl⟩
  · exact h.head.shape.free i
  · exact (h.nodes q hq).shape.free i
theorem TM.blockIn (h : TM w b mb l lv ln) {x : Addr} (hx : x = endA b ∨ ∃ q ∈ l, x = adr q) (vf : Value) : x.block ∈ tableG b vf l ∧ x.block ≠ mb ∧ x.block < w.heap.size := by
  rcases hx with rfl | ⟨q, hq, rfl⟩
  · exact ⟨List.mem_cons_self .., h.mapHead, h.head.shape.lt⟩
  · exact ⟨List.mem_cons_of_mem _ (List.mem_append_right _ (List.mem_map.2 ⟨q, hq, rfl⟩)), h.mapNode hq, (h.nodes q hq).shape.lt⟩
theorem FAt.tie {x : Addr} (h : FAt w b vf fd) (hT : TM w b mb l lv ln) (hx : x = endA b ∨ ∃ q ∈ l, x = adr q) (i : Nat) (hi : x = endA b → i ≠ 9) (v : Value) : FAt (w.setCell ⟨x.block, i, none⟩ v) b vf fd := by
  rcases hx with rfl | ⟨q, hq, rfl⟩
  · exact h.head9 hT (Head9.set i (hi rfl) v)
  · exact h.store hT hq i v
set_option maxHeartbeats 2000000 in
set_option maxRecDepth 100000 in
theorem drop_fn (h : TM w b mb (l1 ++ p :: l2) lv ln) (hf : FAt w b vf fd) :
    Calls Tryz.prog 129 #[.pointer (some ⟨b, 0, none⟩), .pointer (some ⟨p.b, 0, none⟩)] w (fun e w' => e = .returned (.tuple #[]) ∧ TM w' b mb (l1 ++ l2) lv ln ∧ FAt w' b vf fd ∧ Turns (mb :: tableG b vf (l1 ++ p :: l2)) w w') := by
  have hp : p ∈ l1 ++ p :: l2 := by simp
  obtain ⟨s1, s2, s3, s4⟩ := h.split
  have hu := h.untie
  have hx := prev_in (b := b) (l1 := l1) (l2 := l2) (p := p)
  have hy := next_in (b := b) (l1 := l1) (l2 := l2) (p := p)
  have hb : ∀ q ∈ l1 ++ p :: l2, q.b ≠ b := fun q hq => h.apart hq
  have hn := split_nd h
  have hxp : (prevA b l1).block ≠ p.b := by
    rcases prev_is b l1 with e | ⟨q, hq, e⟩
    · rw [e]; exact (hb p hp).symm
    · rw [e]; exact hn.2.2.2.1 q hq
  have hyp : (nextA b l2).block ≠ p.b := by
    rcases next_is b l2 with e | ⟨q, hq, e⟩
    · rw [e]; exact (hb p hp).symm
    · rw [e]; exact hn.2.2.2.2 q hq
  have hh := h.head.untie (l := l1 ++ p :: l2) hb hx hy (.pointer (some (nextA b l2))) (.pointer (some (prevA b l1)))
  have hnodes : ∀ q ∈ l1 ++ p :: l2, NodeAt (untied w (prevA b l1) (nextA b l2)) q := fun q hq => (h.nodes q hq).untie (l := l1 ++ p :: l2) (hb q hq) hx hy _ _
  have zx := h.freeAt hx ((prevA b l1).off + 5)
  have zy := h.freeAt hy ((nextA b l2).off + 4)
  have bx := h.blockIn hx vf
  have by' := h.blockIn hy vf
  obtain ⟨M, hM, hmap⟩ := h.map
  have hMu : (untied w (prevA b l1) (nextA b l2)).heap[mb]? = some M := by
    unfold untied
    rw [heap_setCell_other _ ⟨(nextA b l2).block, (nextA b l2).off + 4, none⟩ _ _ by'.2.1.symm, heap_setCell_other _ ⟨(prevA b l1).block, (prevA b l1).off + 5, none⟩ _ _ bx.2.1.symm]
    exact hM
  have hTu : Turns (mb :: tableG b vf (l1 ++ p :: l2)) w (untied w (prevA b l1) (nextA b l2)) := (turns_one (List.mem_cons_of_mem _ bx.1) _ _).trans (turns_one (List.mem_cons_of_mem _ by'.1) _ _) (fun _ h => .inl h)
  have hFu : FAt (untied w (prevA b l1) (nextA b l2)) b vf fd := by
    have ap := fun k hk => hf.apart h (k := k) hk
    refine ⟨?_, row_turns hf.row ((turns_one (G := [(prevA b l1).block, (nextA b l2).block]) (by simp) _ _).trans (turns_one (G := [(prevA b l1).block, (nextA b l2).block]) (by simp) _ _) (fun _ h => .inl h)) (fun k hk hm => ?_)⟩
    · refine cell_keep (cell_keep hf.cell ?_) ?_
      · rcases hx with e | ⟨q, hq, e⟩
        · rw [e]; exact ne_off (show 2 + 5 ≠ 9 by decide)
        · rw [e]; exact ne_blk (hb q hq)
      · rcases hy with e | ⟨q, hq, e⟩
        · rw [e]; exact ne_off (show 2 + 4 ≠ 9 by decide)
        · rw [e]; exact ne_blk (hb q hq)
    · rcases List.mem_cons.1 hm with e | hm
      · rcases hx with e2 | ⟨q, hq, e2⟩
        · exact (ap k hk).1 (by rw [e, e2]; rfl)
        · exact (ap k hk).2.2 q hq (by rw [e, e2]; rfl)
      · have e := List.mem_singleton.1 hm
        rcases hy with e2 | ⟨q, hq, e2⟩
        · exact (ap k hk).1 (by rw [e, e2]; rfl)
        · exact (ap k hk).2.2 q hq (by rw [e, e2]; rfl)
  have hfind := get_mem h.keys hp
  have hki := (h.ok p hp).1
  have m0 := (hnodes p hp).k0
  have m1 := (hnodes p hp).k1
  have mm := hh.map
  have hlp : (l1 ++ p :: l2).length - 1 = (l1 ++ l2).length := by simp
  have hoo := one_off hb hx hy
  have HU := Lib.hid hu
  have HH := Lib.hid hh
  have HN := Lib.hid hnodes
  have HT := Lib.hid hTu
  have HF := Lib.hid hFu
  have HMU := Lib.hid hMu
  have HMAP := Lib.hid hmap
  have HFIND := Lib.hid hfind.2.2
  have HK := Lib.hid hki
  have HND := Lib.hid (And.intro h.nd (And.intro h.keys h.ok))
  have HLP := Lib.hid hlp
  have HBM := Lib.hid (And.intro h.mapHead (fun q hq => h.mapNode (p := q) hq))
  have HAP := Lib.hid (show vf.ownBlock ≠ some mb from row_map hf.row hM hmap)
  obtain ⟨xb, xo, hxe⟩ : ∃ xb xo, prevA b l1 = ⟨xb, xo, none⟩ := ⟨_, _, spot_end hx⟩
  obtain ⟨yb, yo, hye⟩ : ∃ yb yo, nextA b l2 = ⟨yb, yo, none⟩ := ⟨_, _, spot_end hy⟩
  have a4 : w.cell? ⟨p.b, 4, none⟩ = some (.pointer (some ⟨xb, xo, none⟩)) := by rw [← hxe]; exact s2.2
  have a5 : w.cell? ⟨p.b, 5, none⟩ = some (.pointer (some ⟨yb, yo, none⟩)) := by rw [← hye]; exact s3.1
  have ax : w.cell? ⟨xb, xo + 5, none⟩ = some (.pointer (some ⟨p.b, 0, none⟩)) := by have := s2.1; rw [hxe] at this; exact this
  have ay : w.cell? ⟨yb, yo + 4, none⟩ = some (.pointer (some ⟨p.b, 0, none⟩)) := by have := s3.2; rw [hye] at this; exact this
  rw [hxe] at hxp zx
  rw [hye] at hyp zy
  rw [hxe, hye] at HU HN HT HF HMU m0 m1
  rw [hxe, hye] at HH mm hoo
  unfold untied at HU HN HT HF HMU m0 m1
  dsimp only at hoo hxp hyp zx zy HH HU HN HT HF HMU m0 m1 mm
  clear hmap hM hMu hFu hTu hfind hki hnodes hh hu s1 s2 s3 s4 hx hy hb hn bx by' h hf hxe hye hp hlp
  obtain ⟨g, hg⟩ : ∃ g, p.b = g := ⟨_, rfl⟩
  have HG := Lib.hid hg
  rw [hg] at hxp hyp a4 a5 ax ay m0 m1 ⊢
  clear hg
  have n1 : ∀ (w' : World) (j : Nat) (x : Value), (w'.setCell ⟨xb, xo + 5, none⟩ x).cell? ⟨g, j, none⟩ = w'.cell? ⟨g, j, none⟩ := fun _ _ _ => World.cell?_setCell_other _ _ _ _ (ne_blk hxp)
  have n2 : ∀ (w' : World) (j : Nat) (x : Value), (w'.setCell ⟨yb, yo + 4, none⟩ x).cell? ⟨g, j, none⟩ = w'.cell? ⟨g, j, none⟩ := fun _ _ _ => World.cell?_setCell_other _ _ _ _ (ne_blk hyp)
  have n3 : ∀ (w' : World) (x : Value), (w'.setCell ⟨xb, xo + 5, none⟩ x).cell? ⟨yb, yo + 4, none⟩ = w'.cell? ⟨yb, yo + 4, none⟩ := fun _ _ => World.cell?_setCell_other _ _ _ _ (fun e => by injection e with e1 e2; have := hoo e1; omega)
  have n4 : ∀ (w' : World) (x : Value), (w'.setCell ⟨yb, yo + 4, none⟩ x).cell? ⟨xb, xo + 5, none⟩ = w'.cell? ⟨xb, xo + 5, none⟩ := fun _ _ => World.cell?_setCell_other _ _ _ _ (fun e => by injection e with e1 e2; have := hoo e1.symm; omega)
  clear hoo
  go_enter Tryz.func129, Tryz.ntmps129
  go_upto_region 0 with fail
  go_region_held3 (fun w' => w'.cell? ⟨g, 4, none⟩ = some (.pointer (some ⟨xb, xo, none⟩)) ∧ w'.cell? ⟨g, 5, none⟩ = some (.pointer (some ⟨yb, yo, none⟩)))
    (go_keep)
    (fail)
  clear n1 n2 n3 n4 a4 a5 ax ay zx zy
  generalize hW : (w.setCell ⟨xb, xo + 5, none⟩ (.pointer (some ⟨yb, yo, none⟩))).setCell ⟨yb, yo + 4, none⟩ (.pointer (some ⟨xb, xo, none⟩)) = w1 at *
  clear hW
  obtain ⟨w3, hrun, M3, hM3, hmap3, ht3, hsz⟩ := HMAP.out.drop (w := w1.drew.drew) HMU.out p.k HK.out 0
  rw [HFIND.out] at hmap3
  have hgm : g ≠ mb := fun e => HBM.out.2 p (by simp) (HG.out.trans e)
  have hbm : b ≠ mb := HBM.out.1
  have hG3 : ∀ x : Nat, x ≠ mb → x ∉ [mb] := fun x hx hm => hx (List.mem_singleton.1 hm)
  have o0 : w3.cell? ⟨g, 0, none⟩ = some (.int .u8 (p.k.kind : Int)) := cell_turns (w := w1.drew.drew) m0 ht3 (hG3 g hgm)
  have o1 : w3.cell? ⟨g, 1, none⟩ = some (.int .i64 p.k.n) := cell_turns (w := w1.drew.drew) m1 ht3 (hG3 g hgm)
  have om : w3.cell? ⟨b, 1, none⟩ = some (.map (some mb)) := cell_turns (w := w1.drew.drew) mm ht3 (hG3 b hbm)
  unfold mapT Vl.val Vl.cells at hrun
  have HM3 := Lib.hid (And.intro hM3 hmap3)
  have HT3 := Lib.hid ht3
  have HG3 := Lib.hid hG3
  clear hM3 hmap3 ht3 hsz hG3 hgm hbm
  go_upto_region 1 with fail
  go_region_held3 (fun w' => w'.cell? ⟨b, 1, none⟩ = some (.map (some mb)) ∧ w'.cell? ⟨g, 0, none⟩ = some (.int .u8 (p.k.kind : Int)) ∧ w'.cell? ⟨g, 1, none⟩ = some (.int .i64 p.k.n))
    (go_keep)
    (fail)
  go_wp2_with fail
  refine bodyPost_end (v := .tuple #[]) (by simp [results, Tryz.results129, go_sem]) rfl ?_
  have hT2 : Turns [mb] w1 w3 := turns_drew2 HT3.out
  obtain ⟨hm1, hm2⟩ := HM3.out
  obtain ⟨d1, d2, d3⟩ := HND.out
  have hsub : (l1 ++ l2).Sublist (l1 ++ p :: l2) := (List.sublist_cons_self p l2).append_left l1
  have hmem : ∀ q ∈ l1 ++ l2, q ∈ l1 ++ p :: l2 := fun q hq => hsub.subset hq
  have hno : ∀ q ∈ l1 ++ p :: l2, q.b ∉ [mb] := fun q hq => HG3.out q.b (HBM.out.2 q hq)
  refine ⟨rfl, ⟨HH.out.turns hT2 (HG3.out b HBM.out.1), fun q hq => (HN.out q (hmem q hq)).turns hT2 (hno q (hmem q hq)), ?_, ⟨M3, hm1, ?_⟩, d1.sublist (hsub.map _), d2.sublist (hsub.map _), fun q hq => d3 q (hmem q hq)⟩, ?_, HT.out.trans hT2 (fun x hx => .inl (by rw [List.mem_singleton.1 hx]; exact List.mem_cons_self ..))⟩
  · exact links_turns hT2 _ (fun z hz => by
      rcases ends_mem hz with rfl | ⟨q, hq, rfl⟩
      · exact HG3.out b HBM.out.1
      · exact hno q (hmem q hq)) HU.out
  · rw [if_pos (show (some p.b).isSome = true from rfl), HLP.out] at hm2
    exact hm2.congr (fun j => find_drop l1 p l2 j d2)
  · exact HF.out.turns hT2 (HG3.out b HBM.out.1) (fun k hk => HG3.out k (fun e => HAP.out (by rw [hk, e])))
end
end Go.Proofs.YthejclgihhfenaaGreat.Td

/-
  Layer 13: the developers' table: all dead places taken out.
-/
namespace Go.Proofs.YthejclgihhfenaaGreat.Td
open Go Go.RowKit Go.Proofs.YthejclgihhfenaaGreat.Pl Go.Proofs.YthejclgihhfenaaGreat.Tb

/-- What becomes of a place when the ones of the blocks s are looked at. -/
def sweep1 (s : List Nat) (q : Plc) : Option Plc := if q.b ∈ s then (if q.v.kind = 0 then none else some (putN false q)) else some q
def sweep (l : List Plc) (s : List Nat) : List Plc := l.filterMap (sweep1 s)
theorem sweep_nil (l : List Plc) : sweep l [] = l := by
  unfold sweep
  rw [show sweep1 [] = some from funext (fun q => if_neg List.not_mem_nil)]
  exact List.filterMap_some
theorem sweep_step (l : List Plc) (s : List Nat) (g : Nat) : sweep l (s ++ [g]) = sweep (sweep l s) [g] := by
  unfold sweep
  rw [List.filterMap_filterMap]
  congr 1
  funext q
  unfold sweep1
  by_cases h1 : q.b ∈ s
  · rw [if_pos h1, if_pos (List.mem_append_left _ h1)]
    by_cases h0 : q.v.kind = 0
    · rw [if_pos h0]; rfl
    · rw [if_neg h0]
      show _ = (if (putN false q).b ∈ [g] then _ else _)
      by_cases h2 : q.b ∈ [g]
      · rw [if_pos (show (putN false q).b ∈ [g] from h2), if_neg (show ¬ (putN false q).v.kind = 0 from h0)]
        rfl
      · rw [if_neg (show ¬ (putN false q).b ∈ [g] from h2)]
  · rw [if_neg h1]
    show _ = (if q.b ∈ [g] then _ else _)
    by_cases h2 : q.b ∈ [g]
    · rw [if_pos (List.mem_append_right _ h2), if_pos h2]
    · rw [if_neg (fun h => (List.mem_append.1 h).elim h1 h2), if_neg h2]
theorem sweep_other {l : List Plc} {g : Nat} (h : ∀ q ∈ l, q.b ≠ g) : sweep l [g] = l := by
  induction l with
  | nil => rfl
  | cons q l ih =>
    unfold sweep at *
    rw [List.filterMap_cons, show sweep1 [g] q = some q from if_neg (fun hm => h q (List.mem_cons_self ..) (List.mem_singleton.1 hm))]
    dsimp only
    rw [ih (fun r hr => h r (List.mem_cons_of_mem _ hr))]
theorem sweep_split {l1 l2 : List Plc} {p : Plc} (h1 : ∀ q ∈ l1, q.b ≠ p.b) (h2 : ∀ q ∈ l2, q.b ≠ p.b) : sweep (l1 ++ p :: l2) [p.b] = if p.v.kind = 0 then l1 ++ l2 else l1 ++ putN false p :: l2 := by
  have e1 := sweep_other h1
  have e2 := sweep_other h2
  unfold sweep at *
  rw [List.filterMap_append, List.filterMap_cons, e1, e2]
  unfold sweep1
  rw [if_pos (List.mem_singleton.2 rfl)]
  split <;> simp_all
theorem sweep_there {l : List Plc} {s : List Nat} {g : Nat} (hg : g ∈ l.map (·.b)) (hn : g ∉ s) : g ∈ (sweep l s).map (·.b) := by
  obtain ⟨q, hq, rfl⟩ := List.mem_map.1 hg
  exact List.mem_map.2 ⟨q, List.mem_filterMap.2 ⟨q, hq, if_neg hn⟩, rfl⟩
theorem sweep_from {l : List Plc} {s : List Nat} {q : Plc} (hq : q ∈ sweep l s) : ∃ r ∈ l, q.b = r.b := by
  obtain ⟨r, hr, h⟩ := List.mem_filterMap.1 hq
  refine ⟨r, hr, ?_⟩
  unfold sweep1 at h
  split at h
  · split at h
    · cases h
    · injection h with h; rw [← h]; rfl
  · injection h with h; rw [h]
theorem sweep_all {l : List Plc} {fd : List Nat} (hd : ∀ q ∈ l, q.v.kind = 0 → q.b ∈ fd) : tblOf (sweep l fd) = (tblOf l).filter alive := by
  induction l with
  | nil => rfl
  | cons q l ih =>
    have ih := ih (fun r hr => hd r (List.mem_cons_of_mem _ hr))
    unfold sweep tblOf at *
    rw [List.filterMap_cons, List.map_cons, List.filter_cons]
    unfold sweep1
    by_cases h0 : q.v.kind = 0
    · rw [if_pos (hd q (List.mem_cons_self ..) h0), if_pos h0, if_neg (by unfold alive pv; simp [h0])]
      exact ih
    · rw [if_pos (show alive (pv q) = true by unfold alive pv; simp [h0])]
      by_cases h1 : q.b ∈ fd
      · rw [if_pos h1, if_neg h0]
        dsimp only
        rw [List.map_cons]
        exact congrArg (pv q :: ·) ih
      · rw [if_neg h1]
        dsimp only
        rw [List.map_cons]
        exact congrArg (pv q :: ·) ih
theorem sweep_notes {l : List Plc} {fd : List Nat} (hn : ∀ q ∈ l, q.noted = true ↔ q.b ∈ fd) : ∀ q ∈ sweep l fd, q.noted = false := by
  intro q hq
  obtain ⟨r, hr, h⟩ := List.mem_filterMap.1 hq
  unfold sweep1 at h
  split at h
  · split at h
    · cases h
    · injection h with h; rw [← h]; rfl
  · rename_i h1
    injection h with h
    subst h
    cases hx : r.noted with
    | false => rfl
    | true => exact absurd ((hn r hr).1 hx) h1
theorem row_item {w : World} {v : Value} {fd : List Nat} (hr : Row w v fd) (i : Nat) (hi : i < fd.length) : ∃ g cap, v = .slice (some ⟨g, 0, none⟩) fd.length cap ∧ w.cell? ⟨g, i, none⟩ = some (.pointer (some ⟨fd[i], 0, none⟩)) := by
  rcases hr.2 with ⟨rfl, h0⟩ | ⟨g, cap, cur, rfl, hb, hg, hc, hm, _⟩
  · omega
  · refine ⟨g, cap, rfl, ?_⟩
    rw [hr.cellAt i (by omega), List.getElem?_eq_getElem (by rw [ptrs_len]; exact hi)]
    unfold ptrs
    rw [List.getElem_map]
    rfl
section
variable {w w' : World} {b mb g : Nat} {l l1 l2 : List Plc} {lv ln : Int} {p : Plc} {vf : Value} {fd G : List Nat}
set_option maxHeartbeats 2000000 in
set_option maxRecDepth 100000 in
theorem sweep_fn (h : TM w b mb l lv ln) (hf : FAt w b vf fd) (hni : NI l fd none) (hl : l.length ≤ 65536) :
    Calls Tryz.prog 103 #[.pointer (some ⟨b, 0, none⟩)] w (fun e w' => e = .returned (.tuple #[]) ∧ TM w' b mb (sweep l fd) lv ln ∧ FAt w' b (.slice none 0 0) [] ∧ Turns (mb :: tableG b vf l) w w') := by
  have x9 := hf.cell
  have hfl : fd.length ≤ 65536 := Nat.le_trans hni.few hl
  obtain ⟨aa, mm, cc, rfl⟩ := own_some hf.row
  obtain ⟨n, hn⟩ : ∃ n, n = fd.length := ⟨_, rfl⟩
  have hmm : mm = n := by
    rcases hf.row.2 with ⟨e, h0⟩ | ⟨g, cap, cur, e, _⟩
    · injection e with _ e; rw [hn, h0, e]
    · injection e with _ e; rw [hn, e]
  subst hmm
  have HH := Lib.hid h
  have HF := Lib.hid hf
  have HNI := Lib.hid hni
  have HN := Lib.hid hn
  have HNL := Lib.hid (show mm ≤ 65536 by omega)
  clear h hf hni hfl hl hn
  go_enter Tryz.func103, Tryz.ntmps103
  go_wp2_with fail
  go_loopg [9] mm (fun r i wr => ∃ k : Nat, r = mm - k ∧ i = .int .i64 (k : Int) ∧ k ≤ mm ∧ TM wr b mb (sweep l (fd.take k)) lv ln ∧ FAt wr b (.slice aa mm cc) fd ∧ Turns (mb :: tableG b (.slice aa mm cc) l) w wr)
  case atStart => exact ⟨0, rfl, rfl, Nat.zero_le _, by rw [List.take_zero, sweep_nil]; exact HH.out, HF.out, Turns.refl _ _⟩
  case round =>
    obtain ⟨k, rfl, rfl, hk, hT, hF, ht⟩ := hrel
    have HT := Lib.hid hT
    have HFR := Lib.hid hF
    have HTU := Lib.hid ht
    clear hT hF ht
    by_cases hlt : k < mm
    · have hki : k < fd.length := by have := HN.out; omega
      obtain ⟨gr, cap, hv, hc⟩ := row_item HFR.out.row k hki
      obtain ⟨g, hg⟩ : ∃ g, g = fd[k] := ⟨_, rfl⟩
      rw [← hg] at hc
      have HG := Lib.hid hg
      have hgn : g ∉ fd.take k := by
        rw [hg]
        intro hm
        obtain ⟨j, hj, e⟩ := List.mem_take_iff_getElem.1 hm
        have := (List.nodup_iff_pairwise_ne.1 HNI.out.nodup)
        rw [List.pairwise_iff_getElem] at this
        exact this j k (by omega) hki (by omega) e
      have hgt := sweep_there (HNI.out.there g (by rw [hg]; exact List.getElem_mem hki)) hgn
      obtain ⟨q, hq, hqb⟩ := List.mem_map.1 hgt
      obtain ⟨a, c, hac⟩ := List.append_of_mem hq
      have hTa := HT.out
      rw [hac] at hTa
      have hT1 := hTa.setNoted (g := q.b) (List.mem_map.2 ⟨q, by simp, rfl⟩) false
      rw [at_split hTa.nd] at hT1
      have hF1 := HFR.out.store hTa (p := q) (by simp) 6 (.bool false)
      have z6 := (hTa.nodes q (by simp)).shape.free 6
      have x6 := (hTa.nodes q (by simp)).noted
      have hsp := split_nd hTa
      have hst : sweep l (fd.take (k + 1)) = if q.v.kind = 0 then a ++ c else a ++ putN false q :: c := by
        rw [List.take_add_one, List.getElem?_eq_getElem hki, ← hg, ← hqb]
        show sweep l (fd.take k ++ [q.b]) = _
        rw [sweep_step, hac, sweep_split hsp.2.2.2.1 hsp.2.2.2.2]
      have hsub : ∀ x ∈ mb :: tableG b (.slice aa mm cc) (a ++ putN false q :: c), x ∈ mb :: tableG b (.slice aa mm cc) l := by
        intro x hx
        rcases List.mem_cons.1 hx with e | hx
        · rw [e]; exact List.mem_cons_self ..
        · unfold tableG at hx ⊢
          rcases List.mem_cons.1 hx with e | hx
          · rw [e]; simp
          · rcases List.mem_append.1 hx with hx | hx
            · simp [hx]
            · obtain ⟨r, hr, e⟩ := List.mem_map.1 hx
              have : ∃ r' ∈ sweep l (fd.take k), r'.b = x := by
                rw [hac]
                rcases List.mem_append.1 hr with hr | hr
                · exact ⟨r, by simp [hr], e⟩
                · rcases List.mem_cons.1 hr with e2 | hr
                  · exact ⟨q, by simp, by rw [← e, e2]; rfl⟩
                  · exact ⟨r, by simp [hr], e⟩
              obtain ⟨r', hr', e'⟩ := this
              obtain ⟨s, hs, e2⟩ := sweep_from hr'
              exact List.mem_cons_of_mem _ (List.mem_cons_of_mem _ (List.mem_append_right _ (List.mem_map.2 ⟨s, hs, by rw [← e2, e']⟩)))
      have hq2 : q.b ∈ mb :: tableG b (.slice aa mm cc) l := hsub q.b (by unfold tableG; simp [putN])
      have hv2 := hv
      rw [← HN.out] at hv2
      injection hv2 with e1 _ e3
      subst e1 e3
      obtain ⟨hd, hhd⟩ : ∃ hd, hd = q.v.kind := ⟨_, rfl⟩
      have q2 := hT1.nodes (putN false q) (by simp)
      have q2 := q2.v0
      have HST := Lib.hid hst
      have HSUB := Lib.hid hsub
      have HT1 := Lib.hid hT1
      have HF1 := Lib.hid hF1
      have HTU1 := Lib.hid (HTU.out.trans (turns_one (w := wr) hq2 6 (.bool false)) (fun _ h => .inl h))
      have HQB := Lib.hid hqb
      have hlt' : (k : Int) < mm := by omega
      have e0 := IntWalk.i64_in ((k : Int) + 1) (by have := HNL.out; omega)
      rw [← hqb] at hc
      have q2 : (wr.setCell ⟨q.b, 6, none⟩ (.bool false)).cell? ⟨q.b, 2, none⟩ = some (.int .u8 (q.v.kind : Int)) := q2
      have cd := dead_fn q.b q.v.kind _ q2
      clear hst hsub hT1 hF1 hqb hac hsp hTa hgt hgn hq hg hq2 hv hhd
      go_upto_region 4 with fail
      generalize wr.setCell ⟨q.b, 6, none⟩ (.bool false) = w1 at *
      by_cases h0 : q.v.kind = 0
      · rw [decide_eq_true h0] at cd
        have H0 := Lib.hid h0
        clear h0
        have c5 := drop_fn (p := putN false q) HT1.out HF1.out
        have c5 : Calls Tryz.prog 129 #[.pointer (some ⟨b, 0, none⟩), .pointer (some ⟨q.b, 0, none⟩)] w1 _ := c5
        go_wp2_with fail
        refine cd.mono ?_
        rintro e w2 ⟨rfl, rfl⟩
        clear cd
        go_wp2_with fail
        refine c5.mono ?_
        rintro e w3 ⟨rfl, r1, r2, r3⟩
        clear c5
        have HR := Lib.hid (And.intro r1 (And.intro r2 r3))
        clear r1 r2 r3
        go_wp2_with fail
        go_roundg (mm - (k + 1))
        case rel => exact ⟨k + 1, rfl, by rw [Int.natCast_succ], by omega, by rw [HST.out, if_pos H0.out]; exact HR.out.1, HR.out.2.1, HTU1.out.trans HR.out.2.2 (fun x hx => .inl (HSUB.out x hx))⟩
        case measure => omega
      · rw [decide_eq_false h0] at cd
        have H0 := Lib.hid h0
        clear h0
        go_wp2_with fail
        refine cd.mono ?_
        rintro e w2 ⟨rfl, rfl⟩
        clear cd
        go_wp2_with fail
        go_roundg (mm - (k + 1))
        case rel => exact ⟨k + 1, rfl, by rw [Int.natCast_succ], by omega, by rw [HST.out, if_neg H0.out]; exact HT1.out, HF1.out, HTU1.out⟩
        case measure => omega
    · have hkm : k = mm := by omega
      subst hkm
      have hTk := HT.out
      rw [HN.out, List.take_length] at hTk
      have x9 := HFR.out.cell
      have z9 := hTk.head.shape.free 9
      have HTK := Lib.hid hTk
      clear hTk hlt hk
      go_wp2_with fail
      refine bodyPost_end (v := .tuple #[]) (by simp [results, Tryz.results103, go_sem]) rfl ?_
      exact ⟨rfl, HTK.out.setFad _, ⟨cell_put x9, World.ownsRow_nil _ _ _ _⟩, HTU.out.trans (turns_one (G := mb :: tableG b (.slice aa k cc) l) (by unfold tableG; simp) 9 _) (fun _ h => .inl h)⟩
end
end Go.Proofs.YthejclgihhfenaaGreat.Td
