import Derived.Test.YthejclgihhfenaaGreatCm28
import Derived.Shelf.Small.Bits
import Derived.Shelf.Strconv.Itoa0
import Derived.Shelf.LaysM
import Derived.Shelf.Strconv.Clone
import Derived.Test.YthejclgihhfenaaGreatProg
/-
  Layer 14: the developers' heap: New; what add comes to where no text is put in.
-/
namespace Go.Proofs.YthejclgihhfenaaGreat.Hd
open Go Go.RowKit Go.Proofs.YthejclgihhfenaaGreat.Pl Go.Proofs.YthejclgihhfenaaGreat.Tb Go.Proofs.YthejclgihhfenaaGreat.Vm Go.Proofs.YthejclgihhfenaaGreat.Hp Go.Proofs.YthejclgihhfenaaGreat.Td

/-- A heap's cells when it is made. -/
abbrev headCells (b ob tb pb : Nat) (m : Int) : Array Value := #[.pointer (some ⟨b, 0, none⟩), .int .i64 m, .pointer (some ⟨pb, 0, none⟩), .map (some ob), .map (some tb), .int .i64 0, .map none]
theorem new_hx {w : World} {b ob tb pb : Nat} {m : Int} {Fp : List Nat} (hb : w.heap[b]? = some (.cells (headCells b ob tb pb m) heapT (0, 0))) (ho : w.heap[ob]? = some (.map #[] 0)) (ht : w.heap[tb]? = some (.map #[] 0)) (hp : PA w pb m [] Fp) (h1 : 1 ≤ m) (h2 : m ≤ 16777216)
    (n1 : ob ≠ b) (n2 : tb ≠ b) (n3 : ob ≠ tb) (n4 : ∀ x ∈ Fp, x ≠ b ∧ x ≠ ob ∧ x ≠ tb) : HX w b { max := m, obs := [] } pb ob tb none Fp (fun _ => none) 0 (fun _ => none) [] where
  rm := {
    shape := ⟨_, hb, rfl⟩
    self := cell_of hb 0 _ rfl
    max := cell_of hb 1 _ rfl
    poolc := cell_of hb 2 _ rfl
    objc := cell_of hb 3 _ rfl
    txtc := cell_of hb 4 _ rfl
    madec := cell_of hb 5 _ rfl
    notc := cell_of hb 6 _ rfl
    pool := hp
    objs := ⟨_, ho, (gm_new SO).congr (fun k => by unfold foL atL; split <;> rfl)⟩
    txts := ⟨_, ht, gm_new ST⟩
    nots := fun x hx => by cases hx
    each := fun i p hi => by cases hi
    tags := ⟨fun x => if x = b then 0 else if x = ob then 1 else if x = tb then 2 else 4, {
      head := if_pos rfl
      objs := by
        show (if ob = b then _ else _) = _
        rw [if_neg n1, if_pos rfl]
      txts := by
        show (if tb = b then _ else _) = _
        rw [if_neg n2, if_neg (fun e => n3 e.symm), if_pos rfl]
      nots := fun x hx => by cases hx
      pool := fun x hx => by
        obtain ⟨a1, a2, a3⟩ := n4 x hx
        show (if x = b then _ else _) = _
        rw [if_neg a1, if_neg a2, if_neg a3]
      obj := fun i p hi => by cases hi
      part := fun i p hi => by cases hi
      thr := fun i p hi => by cases hi }⟩ }
  obs := rfl
  made := by show In64 0; unfold In64; omega
  watch := rfl
  nts := fun x hx => by cases hx
  still := fun _ i p hi => by cases hi
  ok := fun i p hi => by cases hi
  top := ⟨h1, h2⟩
  txt := fun s n => ⟨fun h => (by cases h), fun ⟨i, p, hi, _⟩ => (by cases hi)⟩
set_option maxRecDepth 100000 in
theorem new_fn' (m : Int) (w : World) (h1 : 1 ≤ m) (h2 : m ≤ 16777216) : Calls Tryz.prog 5 #[.int .i64 m] w (NewHSays HP m w) := by
  have hmm := @run_makeMap Tryz.prog
  have cp := new_yes m w (by omega) (by omega)
  have H12 := Lib.hid (And.intro h1 h2)
  have l1 : ¬ m < 1 := by omega
  have l2 : ¬ 16777216 < m := by omega
  clear h1 h2
  go_enter Tryz.func5, Tryz.ntmps5
  go_wp2_with fail
  refine cp.mono ?_
  rintro e w1 ⟨pb, Fp, rfl, hpa, hfp, hb⟩
  have hal := (((Below.refl w1.heap.size w1).alloc (Nat.le_refl _) (.map #[] 0)).alloc (by simp) (.map #[] 0)).alloc (by simp; omega) (.cells (headCells (w1.heap.size + 1 + 1) w1.heap.size (w1.heap.size + 1) pb m) heapT)
  have g0 : (((w1.alloc (.map #[] 0)).alloc (.map #[] 0)).alloc (.cells (headCells (w1.heap.size + 1 + 1) w1.heap.size (w1.heap.size + 1) pb m) heapT)).heap[w1.heap.size]? = some (.map #[] 0) := by
    rw [heap_alloc_old _ _ (by simp; omega), heap_alloc_old _ _ (by simp)]
    exact new_block _ _
  have g1 : (((w1.alloc (.map #[] 0)).alloc (.map #[] 0)).alloc (.cells (headCells (w1.heap.size + 1 + 1) w1.heap.size (w1.heap.size + 1) pb m) heapT)).heap[w1.heap.size + 1]? = some (.map #[] 0) := by
    rw [heap_alloc_old _ _ (by simp), ← size_alloc' w1 (.map #[] 0)]
    exact new_block _ _
  have g2 : (((w1.alloc (.map #[] 0)).alloc (.map #[] 0)).alloc (.cells (headCells (w1.heap.size + 1 + 1) w1.heap.size (w1.heap.size + 1) pb m) heapT)).heap[w1.heap.size + 1 + 1]? = some (.cells (headCells (w1.heap.size + 1 + 1) w1.heap.size (w1.heap.size + 1) pb m) heapT (0, 0)) := by
    have := new_block ((w1.alloc (.map #[] 0)).alloc (.map #[] 0)) (.cells (headCells (w1.heap.size + 1 + 1) w1.heap.size (w1.heap.size + 1) pb m) heapT)
    rw [size_alloc', size_alloc'] at this
    exact this
  have hp2 := hpa.keep (G := []) (Turns.of_below hal) (fun _ _ => List.not_mem_nil)
  have hlt := hpa.mem.2
  have hx := new_hx g2 g0 g1 hp2 H12.out.1 H12.out.2 (by omega) (by omega) (by omega) (fun x hx => by have := hlt x hx; omega)
  have HXX := Lib.hid hx
  have HB := Lib.hid (hb.trans (hal.mono hb.size))
  have HB1 := Lib.hid hb
  have HFP := Lib.hid hfp
  clear hx hp2 hlt g0 g1 g2 hal hpa cp hfp hb
  go_wp2_with fail
  go_ret2
  have hs := HB1.out.size
  refine ⟨_, _, rfl, ⟨pb, _, _, none, Fp, _, _, _, [], HXX.out, rfl⟩, fun k hk => ?_, HB.out⟩
  rcases in_F.1 hk with e | e | e | e | e | ⟨i, p, hi, _⟩
  · omega
  · omega
  · omega
  · cases e
  · exact HFP.out k e
  · cases hi
section
variable {w w' : World} {b pb ob tb : Nat} {h h' : Hp} {nb : Option Nat} {Fp Fp' F G : List Nat} {sn sn' : Nat} {ft ft' : ByteArray → Option Int} {fn fn' : Int → Option Unit} {l l' : ObL}
/-- What add comes to, where no text is put in. -/
theorem add_out {p : OP} {e : Ending} (H : HX w b h pb ob tb nb Fp ft sn fn l) (hk : p.o.kind ≠ 4) (ha : AddSays b h pb ob tb nb Fp (l.countP textO) ft l p w e w') :
    e = .returned (two (addH h p.o).2.1 (addH h p.o).2.2) ∧ ∃ Fp' sn' fn' l', HX w' b (addH h p.o).1 pb ob tb nb Fp' ft sn' fn' l' ∧ Turns (Fof b ob tb nb Fp l) w w' ∧ ∀ x ∈ Fof b ob tb nb Fp' l', x ∈ Fof b ob tb nb Fp l ∨ x ∈ p.G ∨ w.heap.size ≤ x := by
  rcases ha with ⟨hc, he, Fp', sn', fn', hx, ht, hf⟩ | ⟨hc, he, Fp', sn', fn', q, hx, hq, hg, hG, hqt, ht, hf⟩
  · have e1 : addH h p.o = (h, nilV, 152) := by unfold addH; exact if_pos hc
    rw [e1]
    exact ⟨he, Fp', sn', fn', l, ⟨hx, H.txt⟩, ht, fun x hx => (F_pool (R := fun x => w.heap.size ≤ x) hf x hx).imp id .inr⟩
  · have e1 : addH h p.o = ({ h with obs := putO h.obs (leastL (obOf h)) { p.o with serial := serN h p.o.kind, noted := h.watch }, made := madeN h p.o.kind }, valO (leastL (obOf h)) p.o, 0) := by
      unfold addH
      rw [if_neg hc]
      rfl
    rw [e1]
    have hem := least_empty H.obs
    have hqk : q.o.kind ≠ 4 := by rw [hq]; exact hk
    refine ⟨he, Fp', sn', fn', putP l (leastL (obOf h)) q, ⟨?_, txt_put H.txt hem hqk⟩, ht, fun x hx => ?_⟩
    · rw [cnt_putP textO rfl hem, show textO (some q) = false from decide_eq_false hqk]
      exact hx
    · rcases F_put (Fp := Fp) (R := fun x => x ∈ p.G ∨ w.heap.size ≤ x) hem (fun x hx => (hf x hx).imp id .inr) (.inr hg) (fun x hx => .inl (by rw [← hG]; exact hx)) x hx with h1 | h1
      · exact .inl h1
      · exact .inr h1
/-- What a call leaves that puts its result into a box of its own. -/
theorem chg_box {r x y : Value} {g : Nat} (H' : HX w' b h' pb ob tb nb Fp' ft' sn' fn' l') (ht : Turns (Fof b ob tb nb Fp l) w w') (hf : ∀ x ∈ Fof b ob tb nb Fp' l', x ∈ Fof b ob tb nb Fp l ∨ w.heap.size ≤ x) (hg : g ∉ Fof b ob tb nb Fp' l') (hw : w.heap.size ≤ g) :
    ChgSays HP b h' (Fof b ob tb nb Fp l) r w (.returned r) ((w'.setCell ⟨g, 0, none⟩ x).setCell ⟨g, 1, none⟩ y) :=
  chg_of (H'.turns (turns_two w' g 0 1) (fun x hx hm => hg (by rw [← List.mem_singleton.1 hm]; exact hx))) (ht.trans (turns_two w' g 0 1) (fun x hx => .inr (by rw [List.mem_singleton.1 hx]; exact hw))) hf
end
end Go.Proofs.YthejclgihhfenaaGreat.Hd

/-
  Layer 14: the developers' heap: Cell, Table.
-/
namespace Go.Proofs.YthejclgihhfenaaGreat.Hd
open Go Go.RowKit Go.Proofs.YthejclgihhfenaaGreat.Pl Go.Proofs.YthejclgihhfenaaGreat.Tb Go.Proofs.YthejclgihhfenaaGreat.Vm Go.Proofs.YthejclgihhfenaaGreat.Hp Go.Proofs.YthejclgihhfenaaGreat.Td

theorem nil_in : nilV.In := by unfold Vl.In nilV Pl.In64; exact ⟨by decide, by decide, by decide⟩
theorem vls_nil (P : Nat → Prop) (w : World) : VlsP P w (.slice none 0 0) [] := ⟨none, 0, rfl, ⟨Nat.le_refl _, Nat.zero_le _⟩, fun h => absurd rfl h⟩
def cellP (v : Vl) : OP := { o := { kind := 9, has := v }, g := 0, t := 0, G := [], cv := .slice none 0 0 }
theorem in_zero : In64 0 := by unfold In64; omega
theorem cell_part (v : Vl) (w : World) : PartAt w (cellP v) := ⟨fun h => (by cases h), vls_nil _ _, fun _ _ => rfl, fun h => (by cases h), fun _ h => absurd h List.not_mem_nil⟩
theorem cell_data {v : Vl} (hv : v.In) : DataOk (cellP v).o := ⟨.inr (.inr (.inr (.inr rfl))), in_zero, Nat.zero_le _, fun _ => rfl, fun _ => ⟨rfl, rfl⟩, fun _ => ⟨rfl, rfl⟩, fun h => absurd rfl h, nil_in, hv, in_zero, ⟨Nat.zero_le _, fun _ h => absurd h List.not_mem_nil⟩⟩
section
variable {w w' : World} {b pb ob tb : Nat} {h h' : Hp} {nb : Option Nat} {Fp Fp' F G : List Nat} {sn sn' : Nat} {ft ft' : ByteArray → Option Int} {fn fn' : Int → Option Unit} {l l' : ObL}
set_option maxRecDepth 100000 in
theorem cell_fn' (H : HX w b h pb ob tb nb Fp ft sn fn l) (v : Vl) (hv : v.In) :
    Calls Tryz.prog 16 #[.pointer (some ⟨b, 0, none⟩), v.val] w (ChgSays HP b (cellH h v).1 (Fof b ob tb nb Fp l) (two (cellH h v).2.1 (cellH h v).2.2) w) := by
  have hx := boxR w (.int .u8 (v.kind : Int)) (.int .i64 v.n)
  obtain ⟨β, hβ⟩ : ∃ β, w.heap.size = β := ⟨_, rfl⟩
  have HBE := Lib.hid hβ
  have h0 := H.below (hx.low.mono (Nat.le_refl _))
  have hs := h0.rm.self
  have ck := keep_fn h0.rm v hv
  rw [h0.keepIs] at ck
  have HH := Lib.hid H
  have H0 := Lib.hid h0
  rw [hβ] at hx
  have HXX := Lib.hid hx
  have HV := Lib.hid hv
  have x0 := cell_of hx.at0 0 _ rfl
  have x1 := cell_of hx.at0 1 _ rfl
  obtain ⟨R, hR⟩ : ∃ R, cellH h v = R := ⟨_, rfl⟩
  have HR := Lib.hid hR
  rw [hR]
  obtain ⟨kb, hkb⟩ : ∃ kb, keepB h v = kb := ⟨_, rfl⟩
  have HKB := Lib.hid hkb
  rw [hkb] at ck
  clear h0 hx H hv hR hkb
  obtain ⟨vk, vn⟩ := v
  have ck : Calls Tryz.prog 66 #[.pointer (some ⟨b, 0, none⟩), .agg #[.int .u8 (vk : Int), .int .i64 vn]] ((w.alloc (.cells #[.int .u8 (vk : Int), .int .i64 vn] 37)).alloc (.cells #[.int .u8 0, .int .i64 0] 37)) _ := ck
  show Calls Tryz.prog 16 #[.pointer (some ⟨b, 0, none⟩), .agg #[.int .u8 (vk : Int), .int .i64 vn]] w _
  dsimp only at *
  go_enter Tryz.func16, Tryz.ntmps16
  go_wp2_with fail
  generalize hW : (w.alloc (.cells #[.int .u8 (vk : Int), .int .i64 vn] 37)).alloc (.cells #[.int .u8 0, .int .i64 0] 37) = w0 at *
  clear hW hβ
  refine (made_fn b _ hs).mono ?_
  rintro e w1 ⟨rfl, rfl⟩
  have HLOW := Lib.hid (show Below w.heap.size w w1 from by rw [HBE.out]; exact HXX.out.low)
  cases kb with
  | false =>
    go_wp2_with fail
    refine ck.mono ?_
    rintro e w2 ⟨rfl, hb⟩
    have hx2 := HXX.out.below hb
    have HB2 := Lib.hid (HLOW.out.trans (hb.mono HLOW.out.size))
    have H2 := Lib.hid (H0.out.below hb)
    clear x0 x1 hb ck
    have z0 := cell_of hx2.at1 0 _ rfl
    have z1 := cell_of hx2.at1 1 _ rfl
    have f0 := free_of hx2.at1 0
    have f1 := free_of hx2.at1 1
    clear hx2
    go_wp2_with fail
    refine bodyPost_ret (v := .tuple #[.agg #[.int .u8 0, .int .i64 0], .int .i64 150]) (by simp [results, Tryz.results16, go_sem, z0, z1]) rfl ?_
    have e : R = (h, nilV, 150) := by
      rw [← HR.out]
      unfold cellH
      rw [HKB.out, if_neg (by decide)]
    rw [e]
    exact chg_box H2.out (Turns.of_below HB2.out) (fun x hx => .inl hx) (fun hm => by have h1 := HH.out.rm.lt _ hm; have h2 := HBE.out; omega) (by rw [HBE.out]; exact Nat.le_succ _)
  | true =>
    go_wp2_with fail
    refine ck.mono ?_
    rintro e w2 ⟨rfl, hb⟩
    have hx2 := HXX.out.below hb
    have HX2 := Lib.hid hx2
    have HB2 := Lib.hid (HLOW.out.trans (hb.mono HLOW.out.size))
    have H2 := Lib.hid (H0.out.below hb)
    clear x0 x1 hb ck
    have x0 := cell_of hx2.at0 0 _ rfl
    have x1 := cell_of hx2.at0 1 _ rfl
    clear hx2
    have ca := add_fn H2.out.toHXo (cellP ⟨vk, vn⟩) rfl rfl (cell_part _ _) (cell_data HV.out) (fun _ hx => absurd hx List.not_mem_nil) (fun e => (by cases e)) (fun _ _ _ _ => ⟨List.not_mem_nil, fun e => (by cases e)⟩)
    have ca : Calls Tryz.prog 58 #[.pointer (some ⟨b, 0, none⟩), .agg #[.int .u8 9, .int .i64 0, .string ⟨#[]⟩, .pointer none, .int .u8 0, .int .i64 0, .int .i64 0, .slice none 0 0, .int .u8 (vk : Int), .int .i64 vn, .pointer none]] w2 _ := ca
    go_wp2_with fail
    refine ca.mono ?_
    intro e w3 h3
    obtain ⟨rfl, Fp', sn', fn', l', h3, ht3, hf3⟩ := add_out H2.out (show (9 : Nat) ≠ 4 by decide) h3
    have e : R = addH h (cellP ⟨vk, vn⟩).o := by
      rw [← HR.out]
      unfold cellH
      rw [HKB.out, if_pos rfl]
      rfl
    have hnb : ∀ x ∈ Fof b ob tb nb Fp' l', x ≠ β + 1 ∧ (x ∈ Fof b ob tb nb Fp l ∨ w.heap.size ≤ x) := fun x hx => by
      have h2 := HBE.out
      have h3 := lt_of_get HX2.out.at1
      rcases hf3 x hx with h1 | h1 | h1
      · have h4 := HH.out.rm.lt _ h1
        exact ⟨by omega, .inl h1⟩
      · cases h1
      · have h5 := HB2.out.size
        exact ⟨by omega, .inr (by omega)⟩
    have hx3 := (ht3.block (β + 1) (lt_of_get HX2.out.at1) (fun hm => by have h4 := HH.out.rm.lt _ hm; have h2 := HBE.out; omega)).trans HX2.out.at1
    have z0 := cell_of hx3 0 _ rfl
    have z1 := cell_of hx3 1 _ rfl
    have f0 := free_of hx3 0
    have f1 := free_of hx3 1
    have H3 := Lib.hid h3
    have HT3 := Lib.hid ht3
    have HNB := Lib.hid hnb
    have HE := Lib.hid e
    clear h3 ht3 hf3 hx3 ca hnb x0 x1
    rw [← e]
    clear e
    obtain ⟨rh, ⟨rk, rn⟩, re⟩ := R
    unfold two Vl.val Vl.cells
    dsimp only
    go_wp2_with fail
    refine bodyPost_ret (v := .tuple #[.agg #[.int .u8 (rk : Int), .int .i64 rn], .int .i64 re]) (by simp [results, Tryz.results16, go_sem, z0, z1]) rfl ?_
    have h3 := H3.out
    rw [← HE.out] at h3
    exact chg_box h3 ((Turns.of_below HB2.out).trans HT3.out (fun x hx => .inl hx)) (fun x hx => (HNB.out x hx).2) (fun hm => (HNB.out _ hm).1 rfl) (by rw [HBE.out]; exact Nat.le_succ _)
def tabP (t : Nat) (G : List Nat) : OP := { o := { kind := 5 }, g := 0, t := t, G := G, cv := .slice none 0 0 }
theorem tab_data (t : Nat) (G : List Nat) : DataOk (tabP t G).o := ⟨.inr (.inl rfl), in_zero, Nat.zero_le _, fun _ => rfl, fun h => absurd rfl h, fun _ => ⟨rfl, rfl⟩, fun _ => rfl, nil_in, nil_in, in_zero, ⟨Nat.zero_le _, fun _ h => absurd h List.not_mem_nil⟩⟩
theorem tnew_fn (w : World) : Calls Tryz.prog 60 #[] w (fun e w' => ∃ b F, e = .returned (.pointer (some ⟨b, 0, none⟩)) ∧ TA w' b [] F ∧ (∀ k ∈ F, w.heap.size ≤ k) ∧ Below w.heap.size w w') :=
  (Td.new_fn' w).mono fun e w' ⟨b, mb, he, h1, h2, hT, h9, hb⟩ => by
    refine ⟨b, mb :: tableG b (.slice none 0 0) [], he, ⟨mb, [], .slice none 0 0, [], 0, 0, hT, ⟨h9, World.ownsRow_nil _ _ _ _⟩, ⟨rfl, ⟨0, rfl, fun i hi => absurd hi (Nat.not_lt_zero _), rfl⟩, ⟨List.nodup_nil, fun _ h => absurd h List.not_mem_nil, fun _ h => absurd h List.not_mem_nil, fun _ h => absurd h List.not_mem_nil⟩⟩, rfl, rfl⟩, fun k hk => ?_, hb⟩
    rcases in_table.1 hk with e | e | e | ⟨q, hq, _⟩
    · rw [e]; exact h2
    · rw [e]; exact h1
    · cases e
    · cases hq
set_option maxRecDepth 100000 in
theorem table_fn' (H : HX w b h pb ob tb nb Fp ft sn fn l) :
    Calls Tryz.prog 12 #[.pointer (some ⟨b, 0, none⟩)] w (ChgSays HP b (tableH h).1 (Fof b ob tb nb Fp l) (two (tableH h).2.1 (tableH h).2.2) w) := by
  obtain ⟨β, hβ⟩ : ∃ β, w.heap.size = β := ⟨_, rfl⟩
  have HBE := Lib.hid hβ
  have hal := (Below.refl w.heap.size w).alloc (Nat.le_refl _) (.cells #[.int .u8 0, .int .i64 0] 37)
  have hx := new_block w (.cells #[.int .u8 0, .int .i64 0] 37)
  rw [hβ] at hx
  have h0 := H.below hal
  have hs := h0.rm.self
  have HH := Lib.hid H
  have H0 := Lib.hid h0
  have HX0 := Lib.hid hx
  have HLOW := Lib.hid hal
  obtain ⟨R, hR⟩ : ∃ R, tableH h = R := ⟨_, rfl⟩
  have HR := Lib.hid hR
  rw [hR]
  clear h0 hx H hR hal
  go_enter Tryz.func12, Tryz.ntmps12
  go_wp2_with fail
  generalize hW : w.alloc (.cells #[.int .u8 0, .int .i64 0] 37) = w0 at *
  clear hW hβ
  refine (made_fn b _ hs).mono ?_
  rintro e w1 ⟨rfl, rfl⟩
  go_wp2_with fail
  refine (tnew_fn w1).mono ?_
  rintro e w2 ⟨t, G, rfl, hT, hG, hb⟩
  have hx2 := (hb.block β (lt_of_get HX0.out)).trans HX0.out
  have HX2 := Lib.hid hx2
  have H2 := Lib.hid (H0.out.below hb)
  have HB2 := Lib.hid (HLOW.out.trans (hb.mono HLOW.out.size))
  have hGF : ∀ x ∈ G, x ∉ Fof b ob tb nb Fp l := fun x hx hm => by have h1 := H0.out.rm.lt x hm; have h2 := hG x hx; omega
  have ca := add_fn H2.out.toHXo (tabP t G) rfl rfl ⟨fun _ => ⟨hT, Nat.zero_le _⟩, vls_nil _ _, fun h _ => absurd rfl h, fun h => (by cases h), hT.mem.2⟩ (tab_data t G) hGF (fun e => (by cases e)) (fun i r hi hr => ⟨fun hm => by
    have h1 := (H0.out.rm.each i r hi).2.thr hr
    have h2 := hG _ hm
    omega, fun e => (by cases e)⟩)
  have ca : Calls Tryz.prog 58 #[.pointer (some ⟨b, 0, none⟩), .agg #[.int .u8 5, .int .i64 0, .string ⟨#[]⟩, .pointer (some ⟨t, 0, none⟩), .int .u8 0, .int .i64 0, .int .i64 0, .slice none 0 0, .int .u8 0, .int .i64 0, .pointer none]] w2 _ := ca
  have HG := Lib.hid hG
  clear hT hG hb hGF hx2
  go_wp2_with fail
  refine ca.mono ?_
  intro e w3 h3
  obtain ⟨rfl, Fp', sn', fn', l', h3, ht3, hf3⟩ := add_out H2.out (show (5 : Nat) ≠ 4 by decide) h3
  have e : R = addH h (tabP t G).o := by
    rw [← HR.out]
    rfl
  have hnb : ∀ x ∈ Fof b ob tb nb Fp' l', x ≠ β ∧ (x ∈ Fof b ob tb nb Fp l ∨ w.heap.size ≤ x) := fun x hx => by
    have h2 := HBE.out
    have h3 := lt_of_get HX0.out
    rcases hf3 x hx with h1 | h1 | h1
    · have h4 := HH.out.rm.lt _ h1
      exact ⟨by omega, .inl h1⟩
    · have h5 := HG.out x h1
      have h6 := HLOW.out.size
      exact ⟨by omega, .inr (by omega)⟩
    · have h5 := HB2.out.size
      have h6 := lt_of_get HX2.out
      exact ⟨by omega, .inr (by omega)⟩
  have hx3 := (ht3.block β (lt_of_get HX2.out) (fun hm => by have h4 := HH.out.rm.lt _ hm; have h2 := HBE.out; omega)).trans HX2.out
  have z0 := cell_of hx3 0 _ rfl
  have z1 := cell_of hx3 1 _ rfl
  have f0 := free_of hx3 0
  have f1 := free_of hx3 1
  have H3 := Lib.hid h3
  have HT3 := Lib.hid ht3
  have HNB := Lib.hid hnb
  have HE := Lib.hid e
  clear h3 ht3 hf3 hx3 ca hnb
  rw [← e]
  clear e
  obtain ⟨rh, ⟨rk, rn⟩, re⟩ := R
  unfold two Vl.val Vl.cells
  dsimp only
  go_wp2_with fail
  refine bodyPost_ret (v := .tuple #[.agg #[.int .u8 (rk : Int), .int .i64 rn], .int .i64 re]) (by simp [results, Tryz.results12, go_sem, z0, z1]) rfl ?_
  have h3 := H3.out
  rw [← HE.out] at h3
  exact chg_box h3 ((Turns.of_below HB2.out).trans HT3.out (fun x hx => .inl hx)) (fun x hx => (HNB.out x hx).2) (fun hm => (HNB.out _ hm).1 rfl) (by rw [HBE.out]; exact Nat.le_refl _)
end
end Go.Proofs.YthejclgihhfenaaGreat.Hd

/-
  DERIVED: THE SHELF's CONTRACTS AT THIS DUMP, IN PLAIN WORDS (tools/lay-plain.mjs out of 'TryzShelf.lean', which tools/lay-shelf.mjs wrote): THE SAME DECLARATIONS UNDER THE SAME NAMES: 'import', 'namespace', 'open', 'def', 'theorem' AND NOTHING ELSE: no command of the shelf's: FOR A HAND-IN. Each laying: the table of numbers ('.._ren') and one theorem, a field a fact of the dump's own or the kernel's comparison; each contract: ONE APPLICATION.
-/
namespace Go.Proofs
open Go.Shelf
def Tryz.lays128_ren : Go.Shelf.Ren := ⟨fun | 128 => 150 | n => n, fun | 51 => 182 | 3 => 3 | 4 => 4 | 46 => 170 | 5 => 5 | 9 => 9 | n => n, fun | n => n⟩
theorem Tryz.lays128 : Go.Proofs.Lays.n128 Tryz.prog Tryz.lays128_ren := {
  mixed := by kernel_rfl
  f128 := Tryz.func150.trans (congrArg some (by kernel_rfl))
  t3 := Tryz.underlying3
  a3 := Tryz.isAgg3
  z3 := Tryz.sizeOf3
  v3 := Tryz.zeroValue3
  t4 := Tryz.underlying4
  a4 := Tryz.isAgg4
  z4 := Tryz.sizeOf4
  v4 := Tryz.zeroValue4
  t5 := Tryz.underlying5
  a5 := Tryz.isAgg5
  z5 := Tryz.sizeOf5
  v5 := Tryz.zeroValue5
  t9 := Tryz.underlying9
  a9 := Tryz.isAgg9
  z9 := Tryz.sizeOf9
  v9 := Tryz.zeroValue9
  t46 := Tryz.underlying170
  a46 := Tryz.isAgg170
  z46 := Tryz.sizeOf170
  v46 := Tryz.zeroValue170
  t51 := Tryz.underlying182
  a51 := Tryz.isAgg182
  z51 := Tryz.sizeOf182
  v51 := Tryz.zeroValue182 }
/-- bits.Len32: "Len32 returns the minimum number of bits required to represent x; the result is 0 for x == 0.": IT RETURNS 'Lib.bitLen x'; the world is as it was. ('h0', 'h1': x is a uint32.) (LAID: no walk: one application.) -/
theorem Tryz.bits_Len32 (x : Int) (w : World) (h0 : 0 ≤ x) (h1 : x ≤ 4294967295) :
    Calls Tryz.prog 150 #[.int .u32 x] w fun e w' => e = .returned (.int .i64 (Lib.bitLen x.toNat)) ∧ w' = w := Any.bits_Len32 Tryz.lays128 x w h0 h1
def Tryz.lays125_ren : Go.Shelf.Ren := ⟨fun | 125 => 137 | 128 => 150 | 129 => 151 | n => n, fun | 46 => 170 | 3 => 3 | 51 => 182 | 53 => 184 | 4 => 4 | 5 => 5 | 9 => 9 | n => n, fun | n => n⟩
theorem Tryz.lays125 : Go.Proofs.Lays.n125 Tryz.prog Tryz.lays125_ren := {
  mixed := by kernel_rfl
  f125 := Tryz.func137.trans (congrArg some (by kernel_rfl))
  f128 := Tryz.func150.trans (congrArg some (by kernel_rfl))
  f129 := Tryz.func151.trans (congrArg some (by kernel_rfl))
  t3 := Tryz.underlying3
  a3 := Tryz.isAgg3
  z3 := Tryz.sizeOf3
  v3 := Tryz.zeroValue3
  t4 := Tryz.underlying4
  a4 := Tryz.isAgg4
  z4 := Tryz.sizeOf4
  v4 := Tryz.zeroValue4
  t5 := Tryz.underlying5
  a5 := Tryz.isAgg5
  z5 := Tryz.sizeOf5
  v5 := Tryz.zeroValue5
  t9 := Tryz.underlying9
  a9 := Tryz.isAgg9
  z9 := Tryz.sizeOf9
  v9 := Tryz.zeroValue9
  t46 := Tryz.underlying170
  a46 := Tryz.isAgg170
  z46 := Tryz.sizeOf170
  v46 := Tryz.zeroValue170
  t51 := Tryz.underlying182
  a51 := Tryz.isAgg182
  z51 := Tryz.sizeOf182
  v51 := Tryz.zeroValue182
  t53 := Tryz.underlying184
  a53 := Tryz.isAgg184
  z53 := Tryz.sizeOf184
  v53 := Tryz.zeroValue184 }
/-- bits.Len: "Len returns the minimum number of bits required to represent x; the result is 0 for x == 0.": IT RETURNS 'Lib.bitLen x'; the world is as it was. (A uint has 64 bits in the model.) ITS CALLEE bits.Len64 IS MET BY ITS OWN CONTRACT OFF THE SHELF (lay that first). (LAID: no walk: one application.) -/
theorem Tryz.bits_Len (x : Int) (w : World) (h0 : 0 ≤ x) (h1 : x ≤ 18446744073709551615) :
    Calls Tryz.prog 137 #[.int .u64 x] w fun e w' => e = .returned (.int .i64 (Lib.bitLen x.toNat)) ∧ w' = w := Any.bits_Len Tryz.lays125 x w h0 h1
def Tryz.lays129_ren : Go.Shelf.Ren := ⟨fun | 129 => 151 | n => n, fun | 53 => 184 | 3 => 3 | 4 => 4 | 46 => 170 | 5 => 5 | 9 => 9 | n => n, fun | n => n⟩
theorem Tryz.lays129 : Go.Proofs.Lays.n129 Tryz.prog Tryz.lays129_ren := {
  mixed := by kernel_rfl
  f129 := Tryz.func151.trans (congrArg some (by kernel_rfl))
  t3 := Tryz.underlying3
  a3 := Tryz.isAgg3
  z3 := Tryz.sizeOf3
  v3 := Tryz.zeroValue3
  t4 := Tryz.underlying4
  a4 := Tryz.isAgg4
  z4 := Tryz.sizeOf4
  v4 := Tryz.zeroValue4
  t5 := Tryz.underlying5
  a5 := Tryz.isAgg5
  z5 := Tryz.sizeOf5
  v5 := Tryz.zeroValue5
  t9 := Tryz.underlying9
  a9 := Tryz.isAgg9
  z9 := Tryz.sizeOf9
  v9 := Tryz.zeroValue9
  t46 := Tryz.underlying170
  a46 := Tryz.isAgg170
  z46 := Tryz.sizeOf170
  v46 := Tryz.zeroValue170
  t53 := Tryz.underlying184
  a53 := Tryz.isAgg184
  z53 := Tryz.sizeOf184
  v53 := Tryz.zeroValue184 }
/-- bits.Len64: "Len64 returns the minimum number of bits required to represent x; the result is 0 for x == 0.": IT RETURNS 'Lib.bitLen x'; the world is as it was. ('h0', 'h1': x is a uint64.) (LAID: no walk: one application.) -/
theorem Tryz.bits_Len64 (x : Int) (w : World) (h0 : 0 ≤ x) (h1 : x ≤ 18446744073709551615) :
    Calls Tryz.prog 151 #[.int .u64 x] w fun e w' => e = .returned (.int .i64 (Lib.bitLen x.toNat)) ∧ w' = w := Any.bits_Len64 Tryz.lays129 x w h0 h1
def Tryz.laysM316_ren : Go.Shelf.Ren := ⟨fun | 316 => 95 | n => n, fun | 9 => 9 | 3 => 3 | 4 => 4 | 37 => 85 | 0 => 0 | 127 => 162 | 5 => 5 | n => n, fun | n => n⟩
theorem Tryz.laysM316 : Go.Proofs.LaysM.n316 Tryz.prog Tryz.laysM316_ren := {
  mixed := by kernel_rfl
  f316 := Tryz.func95.trans (congrArg some (by kernel_rfl))
  t0 := Tryz.underlying0
  a0 := Tryz.isAgg0
  z0 := Tryz.sizeOf0
  v0 := Tryz.zeroValue0
  t3 := Tryz.underlying3
  a3 := Tryz.isAgg3
  z3 := Tryz.sizeOf3
  v3 := Tryz.zeroValue3
  t4 := Tryz.underlying4
  a4 := Tryz.isAgg4
  z4 := Tryz.sizeOf4
  v4 := Tryz.zeroValue4
  t9 := Tryz.underlying9
  a9 := Tryz.isAgg9
  z9 := Tryz.sizeOf9
  v9 := Tryz.zeroValue9
  t37 := Tryz.underlying85
  a37 := Tryz.isAgg85
  z37 := Tryz.sizeOf85
  v37 := Tryz.zeroValue85
  t127 := Tryz.underlying162
  a127 := Tryz.isAgg162
  z127 := Tryz.sizeOf162
  v127 := Tryz.zeroValue162
  t5 := Tryz.underlying5
  a5 := Tryz.isAgg5
  z5 := Tryz.sizeOf5
  v5 := Tryz.zeroValue5
  i0 := by kernel_rfl
  i3 := by kernel_rfl
  i4 := by kernel_rfl
  i5 := by kernel_rfl
  i9 := by kernel_rfl
  i37 := by kernel_rfl
  i127 := by kernel_rfl }
open Go.RowKit in
/-- internal/stringslite.Clone (what strings.Clone calls): "Clone returns a fresh copy of s.": THE SAME BYTES. Of what was there nothing has turned (a new row is laid, and frozen, where s is not empty). (LAID: no walk: one application.) -/
theorem Tryz.stringslite_Clone (s : ByteArray) (w : World) (hlim : s.size ≤ 281474976710656) :
    Calls Tryz.prog 95 #[.string s] w fun e w' => e = .returned (.string s) ∧ Below w.heap.size w w' := Any.stringslite_Clone Tryz.laysM316 s w hlim
end Go.Proofs
