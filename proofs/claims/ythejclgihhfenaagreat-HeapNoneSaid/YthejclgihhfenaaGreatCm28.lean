import Derived.Test.YthejclgihhfenaaGreatCm26
import Derived.Test.YthejclgihhfenaaGreatCm27
/-
  Layer 14: the developers' heap: an object is put in.
-/
namespace Go.Proofs.YthejclgihhfenaaGreat.Hd
open Go Go.RowKit Go.Proofs.YthejclgihhfenaaGreat.Pl Go.Proofs.YthejclgihhfenaaGreat.Tb Go.Proofs.YthejclgihhfenaaGreat.Vm Go.Proofs.YthejclgihhfenaaGreat.Hp Go.Proofs.YthejclgihhfenaaGreat.Td

/-- An object as it is handed to add. -/
def objCells (p : OP) : Array Value := #[.int .u8 (p.o.kind : Int), .int .i64 p.o.serial, .string p.o.text, tabV p, .int .u8 (p.o.mtv.kind : Int), .int .i64 p.o.mtv.n, .int .i64 p.o.proto, p.cv, .int .u8 (p.o.has.kind : Int), .int .i64 p.o.has.n, thrV p]
def objVal (p : OP) : Value := .agg (objCells p)
theorem obj_cells {w : World} {p : OP} (h : w.heap[p.g]? = some (.cells (objCells p) objT (0, 0))) : ObjC w p where
  shape := ⟨_, h, rfl⟩
  kind := cell_of h 0 _ rfl
  serial := cell_of h 1 _ rfl
  text := cell_of h 2 _ rfl
  tab := cell_of h 3 _ rfl
  m0 := cell_of h 4 _ rfl
  m1 := cell_of h 5 _ rfl
  proto := cell_of h 6 _ rfl
  cells := cell_of h 7 _ rfl
  h0 := cell_of h 8 _ rfl
  h1 := cell_of h 9 _ rfl
  thr := cell_of h 10 _ rfl
def upK (k : Nat) : Prop := k = 5 ∨ k = 6 ∨ k = 8
instance (k : Nat) : Decidable (upK k) := by unfold upK; infer_instance
def madeN (h : Hp) (k : Nat) : Int := if upK k then upM h.made else h.made
def serN (h : Hp) (k : Nat) : Int := if upK k then upM h.made else 0
/-- What add leaves. -/
def AddSays (b : Nat) (h : Hp) (pb ob tb : Nat) (nb : Option Nat) (Fp : List Nat) (st : Nat) (ft : ByteArray → Option Int) (l : ObL) (p : OP) (w : World) (e : Ending) (w' : World) : Prop :=
  ((65536 ≤ cntH h ∨ h.max < usedH h + sizeO p.o) ∧ e = .returned (two nilV 152) ∧ ∃ Fp' sn' fn', HXo w' b h pb ob tb nb Fp' st ft sn' fn' l ∧ Turns (Fof b ob tb nb Fp l) w w' ∧ FreshIn Fp Fp' w) ∨
  (¬ (65536 ≤ cntH h ∨ h.max < usedH h + sizeO p.o) ∧ e = .returned (two (valO (leastL (obOf h)) p.o) 0) ∧ ∃ Fp' sn' fn' q, HXo w' b { h with obs := putO h.obs (leastL (obOf h)) { p.o with serial := serN h p.o.kind, noted := h.watch }, made := madeN h p.o.kind } pb ob tb nb Fp' st ft sn' fn' (putP l (leastL (obOf h)) q) ∧
    q.o = { p.o with serial := serN h p.o.kind, noted := h.watch } ∧ w.heap.size ≤ q.g ∧ q.G = p.G ∧ q.t = p.t ∧ Turns (Fof b ob tb nb Fp l) w w' ∧ FreshIn Fp Fp' w)
theorem ObjC.setSerial {w : World} {p : OP} (h : ObjC w p) (y : Int) : ObjC (w.setCell ⟨p.g, 1, none⟩ (.int .i64 y)) { p with o := { p.o with serial := y } } where
  shape := h.shape.set
  kind := cell_keep h.kind (ne_off (by decide))
  serial := cell_put h.serial
  text := cell_keep h.text (ne_off (by decide))
  tab := cell_keep h.tab (ne_off (by decide))
  m0 := cell_keep h.m0 (ne_off (by decide))
  m1 := cell_keep h.m1 (ne_off (by decide))
  proto := cell_keep h.proto (ne_off (by decide))
  cells := cell_keep h.cells (ne_off (by decide))
  h0 := cell_keep h.h0 (ne_off (by decide))
  h1 := cell_keep h.h1 (ne_off (by decide))
  thr := cell_keep h.thr (ne_off (by decide))
def serP (p : OP) (β : Nat) (y : Int) : OP := { p with g := β, o := { p.o with serial := y } }
/-- What stands when the serial has been given. -/
def AddMid (w2 : World) (b β : Nat) (h : Hp) (pb ob tb : Nat) (nb : Option Nat) (Fp' : List Nat) (P' : Ob) (st : Nat) (ft : ByteArray → Option Int) (sn : Nat) (fn : Int → Option Unit) (l : ObL) (p : OP) (wx : World) : Prop :=
  RM wx b h.max (madeN h p.o.kind) pb ob tb nb Fp' P' (cntL (obOf h)) (foL l) st ft sn fn l ∧ ObjC wx (serP p β (serN h p.o.kind)) ∧ Turns [b, β] w2 wx
section
variable {w w' : World} {b pb ob tb : Nat} {h h' : Hp} {nb : Option Nat} {Fp Fp' F G : List Nat} {st sn sn' : Nat} {ft ft' : ByteArray → Option Int} {fn fn' : Int → Option Unit} {l l' : ObL}
set_option maxRecDepth 100000 in
set_option maxHeartbeats 4000000 in
theorem add_fn (H : HXo w b h pb ob tb nb Fp st ft sn fn l) (p : OP) (hs0 : p.o.serial = 0) (hn0 : p.o.noted = false) (hP : PartAt w p) (hD : DataOk p.o) (hG : ∀ x ∈ p.G, x ∉ Fof b ob tb nb Fp l) (ht : p.o.kind = 8 → p.t ∉ Fof b ob tb nb Fp l) (hT : ∀ (i : Nat) (r : OP), l[i]? = some (some r) → r.o.kind = 8 → r.t ∉ p.G ∧ (p.o.kind = 8 → r.t ≠ p.t)) :
    Calls Tryz.prog 58 #[.pointer (some ⟨b, 0, none⟩), objVal p] w (AddSays b h pb ob tb nb Fp st ft l p w) := by
  obtain ⟨β, hβ⟩ : ∃ β, w.heap.size = β := ⟨_, rfl⟩
  have HBE := Lib.hid hβ
  obtain ⟨W, hW⟩ : ∃ W, (w.alloc (.cells (objCells p) objT)).alloc (.cells #[.int .u8 0, .int .i64 0] 37) = W := ⟨_, rfl⟩
  have hd : Below w.heap.size w W.drew := by
    rw [← hW]
    exact (((Below.refl w.heap.size w).alloc (Nat.le_refl _) (.cells (objCells p) objT)).alloc (by simp) (.cells #[.int .u8 0, .int .i64 0] 37)).drew
  have hx0 : W.drew.heap[β]? = some (.cells (objCells p) objT (0, 0)) := by
    rw [← hW]
    show ((w.alloc (.cells (objCells p) objT)).alloc (.cells #[.int .u8 0, .int .i64 0] 37)).heap[β]? = _
    rw [heap_alloc_old _ _ (by rw [← hβ]; simp), ← hβ]
    exact new_block _ _
  have hx1 : W.drew.heap[β + 1]? = some (.cells #[.int .u8 0, .int .i64 0] 37 (0, 0)) := by
    rw [← hW]
    show ((w.alloc (.cells (objCells p) objT)).alloc (.cells #[.int .u8 0, .int .i64 0] 37)).heap[β + 1]? = _
    rw [← hβ, ← size_alloc' w (.cells (objCells p) objT)]
    exact new_block _ _
  have h0 := H.below hd
  have hpc := h0.rm.poolc
  obtain ⟨q0, hq0⟩ : ∃ q0 : OP, q0 = { p with g := β } := ⟨_, rfl⟩
  have hO0 : ObjC W.drew q0 := obj_cells (by rw [hq0]; exact hx0)
  have hP0 : PartAt W.drew q0 := by
    have h1 := hP.turns (G := []) (Turns.of_below hd) (fun _ _ => List.not_mem_nil)
    rw [hq0]
    exact ⟨h1.tab, h1.cells, h1.none, h1.thr, h1.lt⟩
  have hD0 : DataOk q0.o := by rw [hq0]; exact hD
  have cs := size_fn hO0 hP0 hD0
  have hso : sizeO q0.o = sizeO p.o := by rw [hq0]
  have hsz : 0 ≤ sizeO p.o ∧ sizeO p.o ≤ 200000 := by
    have h1 := hD.text
    have h2 := hD.cells.1
    unfold sizeO
    split
    · omega
    · split
      · rename_i e
        have h3 := (hP.tab e).2
        have h4 := List.length_filter_le alive p.o.tab
        unfold countT
        omega
      · split
        · omega
        · split <;> omega
  rw [hso, show q0.g = β by rw [hq0]] at cs
  obtain ⟨sz, hszq⟩ : ∃ sz, sizeO p.o = sz := ⟨_, rfl⟩
  have HSZ := Lib.hid hszq
  rw [hszq] at cs hsz
  have HH := Lib.hid H
  have HH0 := Lib.hid h0
  have HX0 := Lib.hid hx0
  have HX1 := Lib.hid hx1
  have HLOW := Lib.hid hd
  have HGS := Lib.hid (And.intro hG (And.intro ht hT))
  have HN := Lib.hid (And.intro hs0 hn0)
  have HPD := Lib.hid (And.intro hP hD)
  obtain ⟨P, hPo⟩ : ∃ P, obOf h = P := ⟨_, rfl⟩
  have HPO := Lib.hid hPo
  have ct := take_fn' (w := W.drew) sz h0.rm.pool (by unfold In64; omega)
  rw [hPo] at ct
  clear hq0 hO0 hP0 hD0 hso hP hD hG ht hT hs0 hn0 H h0 hx0 hx1 hd hszq hPo
  obtain ⟨kd, hkd⟩ : ∃ kd, p.o.kind = kd := ⟨_, rfl⟩
  have HKD := Lib.hid hkd
  clear hkd q0
  unfold objVal
  have hnc : ∃ x2 x3 x4 x5 x6 x7 x8 x9 x10, objCells p = #[.int .u8 (kd : Int), .int .i64 0, x2, x3, x4, x5, x6, x7, x8, x9, x10] := by
    refine ⟨.string p.o.text, tabV p, .int .u8 (p.o.mtv.kind : Int), .int .i64 p.o.mtv.n, .int .i64 p.o.proto, p.cv, .int .u8 (p.o.has.kind : Int), .int .i64 p.o.has.n, thrV p, ?_⟩
    unfold objCells
    rw [HKD.out, HN.out.1]
  obtain ⟨x2, x3, x4, x5, x6, x7, x8, x9, x10, hcs⟩ := hnc
  have HCS := Lib.hid hcs
  rw [hcs] at HX0 hW ⊢
  clear hcs
  go_enter Tryz.func58, Tryz.ntmps58
  go_upto_region 1 with fail
  have HW := Lib.hid hW
  clear hW hβ
  refine wp_region_held_drew (S := fun w' => w'.cell? ⟨b, 2, none⟩ = some (.pointer (some ⟨pb, 0, none⟩))) mixed hpc (fun hS => ?_)
  refine wpAnyH_take (i := 0) (v := ?va0) rfl (by kernel_rfl) (by kernel_rfl) (by kernel_rfl) (fun _ _ _ h => h) (.inl ⟨by rfl, ?ha0⟩) hS ?ra0
  case ha0 =>
    intro w' hs
    (try dsimp only at hs)
    go_split_ands
    go_simp
    try with_reducible rfl
  simp only [List.getElem_toArray, List.getElem_cons_zero, Act.put, List.setIfInBounds_toArray, List.set_cons_zero, List.set_cons_succ]
  refine wpAnyH_take (i := 1) (v := ?va1) rfl (by kernel_rfl) (by kernel_rfl) (by kernel_rfl) (fun _ _ _ h => h) (.inl ⟨by rfl, ?ha1⟩) hS ?ra1
  case ha1 =>
    intro w' hs
    (try dsimp only at hs)
    go_split_ands
    go_simp
    try with_reducible rfl
  simp only [List.getElem_toArray, List.getElem_cons_succ, List.getElem_cons_zero, Act.put, List.setIfInBounds_toArray, List.set_cons_zero, List.set_cons_succ]
  refine wpAnyH_take (i := 2) (v := ?va2) rfl (by kernel_rfl) (by kernel_rfl) (by kernel_rfl) (fun _ _ _ h => h) (.inl ⟨by rfl, ?ha2⟩) hS ?ra2
  case ha2 =>
    intro w' hs
    (try dsimp only at hs)
    go_split_ands
    go_simp
    try with_reducible rfl
  simp only [List.getElem_toArray, List.getElem_cons_succ, List.getElem_cons_zero, Act.put, List.setIfInBounds_toArray, List.set_cons_zero, List.set_cons_succ]
  refine wpAnyH_take (i := 3) (v := ?va3) rfl (by kernel_rfl) (by kernel_rfl) (by kernel_rfl) (fun _ _ _ h => h) (.inl ⟨by rfl, ?ha3⟩) hS ?ra3
  case ha3 =>
    intro w' hs
    (try dsimp only at hs)
    go_split_ands
    go_simp
    try with_reducible rfl
  simp only [List.getElem_toArray, List.getElem_cons_succ, List.getElem_cons_zero, Act.put, List.setIfInBounds_toArray, List.set_cons_zero, List.set_cons_succ]
  refine wpAnyH_ready (rs := [4]) (by kernel_rfl) (by simp) (AllReadyH.cons rfl (fun K hK => ?_) AllReadyH.nil)
  go_simp
  refine cs.mono ?_
  rintro e w1 ⟨rfl, rfl⟩
  go_wp2_with fail
  refine hK.out _ _ hpc (fun hS => ?_)
  clear hK
  refine wpAnyH_ready (rs := [5]) (by kernel_rfl) (by simp) (AllReadyH.cons rfl (fun K hK => ?_) AllReadyH.nil)
  go_simp
  refine ct.mono ?_
  rintro e w2 ⟨rfl, Fp', hpa, htn, hfr⟩
  clear ct cs
  have hbp : ∀ x ∈ Fp, x < β := fun x hx => by
    have h1 := HH.out.rm.lt x (in_F.2 (.inr (.inr (.inr (.inr (.inl hx))))))
    have h2 := HBE.out
    omega
  have hx0 : w2.heap[β]? = _ := (htn.block β (lt_of_get HX0.out) (fun hm => Nat.lt_irrefl _ (hbp _ hm))).trans HX0.out
  have hx1 : w2.heap[β + 1]? = _ := (htn.block (β + 1) (lt_of_get HX1.out) (fun hm => by have := hbp _ hm; omega)).trans HX1.out
  have z0 := cell_of hx1 0 _ rfl
  have z1 := cell_of hx1 1 _ rfl
  have f0 := free_of hx1 0
  have f1 := free_of hx1 1
  have hnb : ∀ x ∈ Fof b ob tb nb Fp' l, x < β ∨ β + 2 ≤ x := fun x hx => by
    rcases F_pool (R := fun x => W.drew.heap.size ≤ x) hfr x hx with h1 | h1
    · have h2 := HH.out.rm.lt x h1
      have h3 := HBE.out
      exact .inl (by omega)
    · have h2 := lt_of_get HX1.out
      exact .inr (by omega)
  have ht2 : Turns (Fof b ob tb nb Fp l) w w2 := (Turns.of_below HLOW.out).trans htn (fun x hx => .inl (in_F.2 (.inr (.inr (.inr (.inr (.inl hx)))))))
  have hfr2 : FreshIn Fp Fp' w := fun x hx => (hfr x hx).imp id (fun h1 => Nat.le_trans HLOW.out.size h1)
  have HNB := Lib.hid hnb
  have HT2 := Lib.hid ht2
  have HFR := Lib.hid hfr2
  clear ht2 hfr2 hnb hbp
  by_cases hroom : h.max < usedL P + sz ∨ 65536 ≤ cntL P
  · have e : takeL h.max P sz = (P, 0, 5) := by
      unfold takeL
      rw [if_neg (by omega), if_pos hroom]
    rw [e] at hpa ⊢
    dsimp only at hpa ⊢
    have h2 : HXo w2 b h pb ob tb nb Fp' st ft sn fn l := { HH0.out with rm := HH0.out.rm.setPool htn (by rw [HPO.out]; exact hpa) hfr }
    have hpc2 := h2.rm.poolc
    have H2 := Lib.hid h2
    have HRO := Lib.hid hroom
    clear e hpa h2 hroom hx0 hx1 hsz htn hfr
    go_wp2_with fail
    refine hK.out _ _ hpc2 (fun hS => ?_)
    clear hK
    refine wpAnyH_take (i := 6) (v := ?vb6) rfl (by kernel_rfl) (by kernel_rfl) (by kernel_rfl) (fun _ _ _ h => h) (.inl ⟨by rfl, ?hb6⟩) hS ?rb6
    case hb6 =>
      intro w' hs
      (try dsimp only at hs)
      go_split_ands
      go_simp
      try with_reducible rfl
    simp only [List.getElem_toArray, List.getElem_cons_succ, List.getElem_cons_zero, Act.put, List.setIfInBounds_toArray, List.set_cons_zero, List.set_cons_succ]
    refine wpAnyH_take (i := 7) (v := ?vb7) rfl (by kernel_rfl) (by kernel_rfl) (by kernel_rfl) (fun _ _ _ h => h) (.inl ⟨by rfl, ?hb7⟩) hS ?rb7
    case hb7 =>
      intro w' hs
      (try dsimp only at hs)
      go_split_ands
      go_simp
      try with_reducible rfl
    simp only [List.getElem_toArray, List.getElem_cons_succ, List.getElem_cons_zero, Act.put, List.setIfInBounds_toArray, List.set_cons_zero, List.set_cons_succ]
    refine wpAnyH_take (i := 8) (v := ?vb8) rfl (by kernel_rfl) (by kernel_rfl) (by kernel_rfl) (fun _ _ _ h => h) (.inl ⟨by rfl, ?hb8⟩) hS ?rb8
    case hb8 =>
      intro w' hs
      (try dsimp only at hs)
      go_split_ands
      go_simp
      try with_reducible rfl
    simp only [List.getElem_toArray, List.getElem_cons_succ, List.getElem_cons_zero, Act.put, List.setIfInBounds_toArray, List.set_cons_zero, List.set_cons_succ]
    refine wpAnyH_take (i := 9) (v := ?vb9) rfl (by kernel_rfl) (by kernel_rfl) (by kernel_rfl) (fun _ _ _ h => h) (.inl ⟨by rfl, ?hb9⟩) hS ?rb9
    case hb9 =>
      intro w' hs
      (try dsimp only at hs)
      go_split_ands
      go_simp
      try with_reducible rfl
    simp only [List.getElem_toArray, List.getElem_cons_succ, List.getElem_cons_zero, Act.put, List.setIfInBounds_toArray, List.set_cons_zero, List.set_cons_succ]
    refine wpAnyH_take (i := 10) (v := ?vb10) rfl (by kernel_rfl) (by kernel_rfl) (by kernel_rfl) (fun _ _ _ h => h) (.inl ⟨by rfl, ?hb10⟩) hS ?rb10
    case hb10 =>
      intro w' hs
      (try dsimp only at hs)
      go_split_ands
      go_simp
      try with_reducible rfl
    simp only [List.getElem_toArray, List.getElem_cons_succ, List.getElem_cons_zero, Act.put, List.setIfInBounds_toArray, List.set_cons_zero, List.set_cons_succ]
    refine wpAnyH_done (by kernel_rfl) ?_ _
    clear hS
    go_wp2_with fail
    refine bodyPost_ret (v := .tuple #[.agg #[.int .u8 0, .int .i64 0], .int .i64 152]) (by simp [results, Tryz.results58, go_sem, z0, z1]) rfl ?_
    have htt := turns_two w2 (β + 1) 0 1 (x := .int .u8 0) (y := .int .i64 0)
    refine .inl ⟨?_, rfl, Fp', sn, fn, H2.out.turns htt (fun x hx hm => ?_), HT2.out.trans htt (fun x hx => .inr ?_), HFR.out⟩
    · rw [HSZ.out]
      show 65536 ≤ cntL (obOf h) ∨ h.max < usedL (obOf h) + sz
      rw [HPO.out]
      exact HRO.out.symm
    · have h1 := HNB.out x hx
      rw [List.mem_singleton.1 hm] at h1
      omega
    · rw [List.mem_singleton.1 hx, HBE.out]
      exact Nat.le_succ _
  · have e : takeL h.max P sz = (putL P (leastL P) sz, (leastL P : Int) + 1, 0) := by
      unfold takeL
      rw [if_neg (by omega), if_neg hroom]
    rw [e] at hpa ⊢
    dsimp only at hpa ⊢
    have h2 := HH0.out.rm.setPool htn hpa hfr
    have hpc2 := h2.poolc
    have hmd := h2.madec
    have hmb := h2.objc
    have R2 := Lib.hid h2
    have HRO := Lib.hid hroom
    have hO2 : ObjC w2 (serP p β 0) := obj_cells (by
      rw [show objCells (serP p β 0) = objCells { p with o := { p.o with serial := 0 } } from rfl, show ({ p with o := { p.o with serial := 0 } } : OP) = p from by rw [← HN.out.1], HCS.out]
      exact hx0)
    have HO2 := Lib.hid hO2
    have o0 := cell_of hx0 0 _ rfl
    have o1 := cell_of hx0 1 _ rfl
    have of1 := free_of hx0 1
    have bf5 := h2.shape.free 5
    have HX21 := Lib.hid hx1
    have hbβ : b ≠ β := fun e => by have h1 := HH.out.rm.shape.lt; have h2 := HBE.out; omega
    clear e hpa h2 hroom hx0 hx1 hsz htn hfr z0 z1 f0 f1 hO2
    obtain ⟨md, hmde⟩ : ∃ md, h.made = md := ⟨_, rfl⟩
    have HMD := Lib.hid hmde
    rw [hmde] at hmd
    clear hmde
    obtain ⟨kid, hkid⟩ : ∃ kid : Int, (leastL P : Int) + 1 = kid := ⟨_, rfl⟩
    have HKID := Lib.hid hkid
    rw [hkid]
    clear hkid
    go_wp2_with fail
    refine hK.out _ _ hpc2 (fun hS => ?_)
    clear hK
    refine wpAnyH_take (i := 6) (v := ?vc6) rfl (by kernel_rfl) (by kernel_rfl) (by kernel_rfl) (fun _ _ _ h => h) (.inl ⟨by rfl, ?hc6⟩) hS ?rc6
    case hc6 =>
      intro w' hs
      (try dsimp only at hs)
      go_split_ands
      go_simp
      try with_reducible rfl
    simp only [List.getElem_toArray, List.getElem_cons_succ, List.getElem_cons_zero, Act.put, List.setIfInBounds_toArray, List.set_cons_zero, List.set_cons_succ]
    refine wpAnyH_take (i := 7) (v := ?vc7) rfl (by kernel_rfl) (by kernel_rfl) (by kernel_rfl) (fun _ _ _ h => h) (.inl ⟨by rfl, ?hc7⟩) hS ?rc7
    case hc7 =>
      intro w' hs
      (try dsimp only at hs)
      go_split_ands
      go_simp
      try with_reducible rfl
    simp only [List.getElem_toArray, List.getElem_cons_succ, List.getElem_cons_zero, Act.put, List.setIfInBounds_toArray, List.set_cons_zero, List.set_cons_succ]
    refine wpAnyH_take (i := 8) (v := ?vc8) rfl (by kernel_rfl) (by kernel_rfl) (by kernel_rfl) (fun _ _ _ h => h) (.inl ⟨by rfl, ?hc8⟩) hS ?rc8
    case hc8 =>
      intro w' hs
      (try dsimp only at hs)
      go_split_ands
      go_simp
      try with_reducible rfl
    simp only [List.getElem_toArray, List.getElem_cons_succ, List.getElem_cons_zero, Act.put, List.setIfInBounds_toArray, List.set_cons_zero, List.set_cons_succ]
    refine wpAnyH_take (i := 9) (v := ?vc9) rfl (by kernel_rfl) (by kernel_rfl) (by kernel_rfl) (fun _ _ _ h => h) (.inl ⟨by rfl, ?hc9⟩) hS ?rc9
    case hc9 =>
      intro w' hs
      (try dsimp only at hs)
      go_split_ands
      go_simp
      try with_reducible rfl
    simp only [List.getElem_toArray, List.getElem_cons_succ, List.getElem_cons_zero, Act.put, List.setIfInBounds_toArray, List.set_cons_zero, List.set_cons_succ]
    refine wpAnyH_take (i := 10) (v := ?vc10) rfl (by kernel_rfl) (by kernel_rfl) (by kernel_rfl) (fun _ _ _ h => h) (.inl ⟨by rfl, ?hc10⟩) hS ?rc10
    case hc10 =>
      intro w' hs
      (try dsimp only at hs)
      go_split_ands
      go_simp
      try with_reducible rfl
    simp only [List.getElem_toArray, List.getElem_cons_succ, List.getElem_cons_zero, Act.put, List.setIfInBounds_toArray, List.set_cons_zero, List.set_cons_succ]
    refine wpAnyH_done (by kernel_rfl) ?_ _
    clear hS
    go_upto_block 0 with fail
    go_cut [] from 23 to 39 (fun wx => AddMid w2 b β h pb ob tb nb Fp' (putL P (leastL P) sz) st ft sn fn l p wx)
    case first =>
      have hlt : ∀ (w' : World) (x : Value), (w'.setCell ⟨b, 5, none⟩ x).cell? ⟨β, 1, none⟩ = w'.cell? ⟨β, 1, none⟩ := fun _ _ => World.cell?_setCell_other _ _ _ _ (ne_off (by decide))
      obtain ⟨um, hum⟩ : ∃ um, IntKind.i64.wrap (md + 1) = um := ⟨_, rfl⟩
      have hum2 : wrap64 (md + 1) = um := by rw [← hum]; exact (IntWalk.i64_left _).symm
      have HUM := Lib.hid (show upM h.made = um from by unfold upM; rw [HMD.out]; exact hum)
      have hβF : β ∉ Fof b ob tb nb Fp' l := fun hm => by have := HNB.out β hm; omega
      have HBF := Lib.hid hβF
      clear hβF
      rcases HPD.out.2.kind with e | e | e | e | e
      · obtain rfl : kd = 4 := HKD.out.symm.trans e
        have HE := Lib.hid e
        clear e hum hum2
        go_wp2_with fail
        go_meet
        unfold AddMid madeN serN
        rw [HE.out]
        exact ⟨R2.out, HO2.out, Turns.refl _ _⟩
      · obtain rfl : kd = 5 := HKD.out.symm.trans e
        have HE := Lib.hid e
        clear e
        go_wp2_with fail
        go_meet
        unfold AddMid madeN serN
        rw [HE.out, if_pos (by decide), if_pos (by decide), HUM.out]
        have t1 := turns_cell w2 b 5 (.int .i64 um)
        have t2 := turns_cell (w2.setCell ⟨b, 5, none⟩ (.int .i64 um)) β 1 (.int .i64 um)
        have r1 := (R2.out.setMade um).turns t2 (fun x hx hm => HBF.out (by rw [← List.mem_singleton.1 hm]; exact hx))
        have o2 := (HO2.out.turns t1 (fun hm => hbβ (List.mem_singleton.1 hm).symm)).setSerial um
        exact ⟨r1, o2, (t1.mono (fun x hx => by rw [List.mem_singleton.1 hx]; exact List.mem_cons_self ..)).trans (t2.mono (fun x hx => by rw [List.mem_singleton.1 hx]; exact List.mem_cons_of_mem _ (List.mem_cons_self ..))) (fun x hx => .inl hx)⟩
      · obtain rfl : kd = 6 := HKD.out.symm.trans e
        have HE := Lib.hid e
        clear e
        go_wp2_with fail
        go_meet
        unfold AddMid madeN serN
        rw [HE.out, if_pos (by decide), if_pos (by decide), HUM.out]
        have t1 := turns_cell w2 b 5 (.int .i64 um)
        have t2 := turns_cell (w2.setCell ⟨b, 5, none⟩ (.int .i64 um)) β 1 (.int .i64 um)
        have r1 := (R2.out.setMade um).turns t2 (fun x hx hm => HBF.out (by rw [← List.mem_singleton.1 hm]; exact hx))
        have o2 := (HO2.out.turns t1 (fun hm => hbβ (List.mem_singleton.1 hm).symm)).setSerial um
        exact ⟨r1, o2, (t1.mono (fun x hx => by rw [List.mem_singleton.1 hx]; exact List.mem_cons_self ..)).trans (t2.mono (fun x hx => by rw [List.mem_singleton.1 hx]; exact List.mem_cons_of_mem _ (List.mem_cons_self ..))) (fun x hx => .inl hx)⟩
      · obtain rfl : kd = 8 := HKD.out.symm.trans e
        have HE := Lib.hid e
        clear e
        go_wp2_with fail
        go_meet
        unfold AddMid madeN serN
        rw [HE.out, if_pos (by decide), if_pos (by decide), HUM.out]
        have t1 := turns_cell w2 b 5 (.int .i64 um)
        have t2 := turns_cell (w2.setCell ⟨b, 5, none⟩ (.int .i64 um)) β 1 (.int .i64 um)
        have r1 := (R2.out.setMade um).turns t2 (fun x hx hm => HBF.out (by rw [← List.mem_singleton.1 hm]; exact hx))
        have o2 := (HO2.out.turns t1 (fun hm => hbβ (List.mem_singleton.1 hm).symm)).setSerial um
        exact ⟨r1, o2, (t1.mono (fun x hx => by rw [List.mem_singleton.1 hx]; exact List.mem_cons_self ..)).trans (t2.mono (fun x hx => by rw [List.mem_singleton.1 hx]; exact List.mem_cons_of_mem _ (List.mem_cons_self ..))) (fun x hx => .inl hx)⟩
      · obtain rfl : kd = 9 := HKD.out.symm.trans e
        have HE := Lib.hid e
        clear e hum hum2
        go_wp2_with fail
        go_meet
        unfold AddMid madeN serN
        rw [HE.out]
        exact ⟨R2.out, HO2.out, Turns.refl _ _⟩
    case rest =>
      obtain ⟨r3, o3, t3⟩ := hcut
      have k0 : wc.cell? ⟨β, 0, none⟩ = some (.int .u8 (kd : Int)) := by rw [← HKD.out]; exact o3.kind
      obtain ⟨γ, hγ⟩ : ∃ γ, wc.heap.size = γ := ⟨_, rfl⟩
      have hal : Below wc.heap.size wc (wc.alloc (.cells #[.int .u8 (kd : Int), .int .i64 kid] 37)) := (Below.refl _ _).alloc (Nat.le_refl _) _
      have hg := new_block wc (.cells #[.int .u8 (kd : Int), .int .i64 kid] 37)
      rw [hγ] at hg
      have r5 := r3.below hal
      have o5 := o3.turns (G := []) (Turns.of_below hal) List.not_mem_nil
      have hb1 : wc.heap[β + 1]? = _ := (t3.block (β + 1) (lt_of_get HX21.out) (fun hm => by
        rcases List.mem_cons.1 hm with e | hm
        · have h1 := HNB.out b (in_F.2 (.inl rfl))
          omega
        · have := List.mem_singleton.1 hm
          omega)).trans HX21.out
      have hbg := lt_of_get hb1
      have hb5 := (hal.block (β + 1) hbg).trans hb1
      have hlt3 := r3.lt
      rw [hγ] at hbg hlt3
      have t5 := (HT2.out.trans t3 (fun x hx => by
        rcases List.mem_cons.1 hx with e | hx
        · exact .inl (by rw [e]; exact in_F.2 (.inl rfl))
        · exact .inr (by rw [List.mem_singleton.1 hx, HBE.out]; exact Nat.le_refl _))).trans (Turns.of_below (F := []) hal) (fun x hx => absurd hx List.not_mem_nil)
      have m3 := r5.objc
      have HLT3 := Lib.hid hlt3
      have HBG := Lib.hid hbg
      have HGE := Lib.hid hγ
      clear r3 o3 t3 hal hb1 hbg hlt3
      go_step
      go_upto_region 11 with fail
      generalize hW5 : wc.alloc (.cells #[.int .u8 (kd : Int), .int .i64 kid] 37) = w5 at *
      clear hW5 hγ k0
      have g0 := cell_of hg 0 _ rfl
      have g1 := cell_of hg 1 _ rfl
      have hem : Empty l (leastL (obOf h)) := least_empty HH.out.obs
      have hno : foL l kid = none := by
        rw [← HKID.out, ← HPO.out]
        unfold foL
        cases e2 : atL l ((leastL (obOf h) : Int) + 1) with
        | none => rfl
        | some r =>
          obtain ⟨_, h2⟩ := at_some e2
          rw [show ((leastL (obOf h) : Int) + 1 - 1).toNat = leastL (obOf h) by omega] at h2
          exact absurd h2 (hem.no r)
      have hkin : In64 kid := by
        rw [← HKID.out, ← HPO.out]
        obtain ⟨_, _, _, h1, _⟩ := HH.out.rm.pool
        have h2 := h1.len
        have h3 := least_le (obOf h)
        unfold In64
        omega
      obtain ⟨M, hM, hGM⟩ := r5.objs
      obtain ⟨w6, hrun, M6, hgo⟩ := hGM.store so_ok (w := w5.drew) hM (by have h1 : cntL (obOf h) ≤ 65536 := HH.out.rm.pool.ok.few; omega) kid (some β) hkin
      rw [hno, if_neg (show ¬ (none : Option (Option Nat)).isSome = true from by decide)] at hgo
      have hrun : (Instr.mapUpdate 65 (.map (some ob)) (.int .i64 kid) (.pointer (some ⟨β, 0, none⟩))).run Tryz.prog w5.drew = .ok () w6 := hrun
      have ht6 : Turns [ob] w5.drew w6 := hgo.2.2.1
      have hoF : ob ∈ Fof b ob tb nb Fp' l := in_F.2 (.inr (.inl rfl))
      have hγo : γ ∉ [ob] := fun hm => by have h1 := HLT3.out ob hoF; rw [← List.mem_singleton.1 hm] at h1; exact Nat.lt_irrefl _ h1
      have hβo : β ∉ [ob] := fun hm => by have h1 := HNB.out ob hoF; rw [← List.mem_singleton.1 hm] at h1; omega
      have hβo1 : β + 1 ∉ [ob] := fun hm => by have h1 := HNB.out ob hoF; rw [← List.mem_singleton.1 hm] at h1; omega
      have hbo : b ∉ [ob] := fun hm => by
        obtain ⟨tag, T⟩ := r5.tags
        have h1 := T.head
        rw [List.mem_singleton.1 hm, T.objs] at h1
        cases h1
      have m6 : w6.cell? ⟨b, 3, none⟩ = some (.map (some ob)) := cell_turns (w := w5.drew) m3 ht6 hbo
      have hg6 := (ht6.block γ (lt_of_get hg) hγo).trans hg
      have n0 := cell_of hg6 0 _ rfl
      have n1 := cell_of hg6 1 _ rfl
      have hb6 := (ht6.block (β + 1) (lt_of_get hb5) hβo1).trans hb5
      have r6 := (r5.below ((Below.refl _ _).drew)).setObjs ⟨M6, hgo⟩
      have o6 := (o5.turns (G := []) (Turns.of_below ((Below.refl _ _).drew)) List.not_mem_nil).turns ht6 hβo
      have t6 := (t5.trans (Turns.of_below (F := []) ((Below.refl w5.heap.size w5).drew)) (fun x hx => absurd hx List.not_mem_nil)).trans ht6 (fun x hx => .inl (by rw [List.mem_singleton.1 hx]; exact in_F.2 (.inr (.inl rfl))))
      have HR6 := Lib.hid r6
      have HO6 := Lib.hid o6
      have HT6 := Lib.hid t6
      have HG6 := Lib.hid hg6
      have HB6 := Lib.hid hb6
      have HEM := Lib.hid hem
      have HKIN := Lib.hid hkin
      clear hgo hM hGM ht6 hoF hγo hβo hβo1 hbo r6 o6 t6 hg6 hb6 hb5 r5 o5 t5 hno hem hg hkin
      go_region_held3 (fun w' => w'.cell? ⟨b, 3, none⟩ = some (.map (some ob)) ∧ w'.cell? ⟨γ, 0, none⟩ = some (.int .u8 (kd : Int)) ∧ w'.cell? ⟨γ, 1, none⟩ = some (.int .i64 kid))
        (go_keep)
        (fail)
      clear hrun m6 g0 g1 m3
      have hX6 : HXo w6 b { h with obs := putO h.obs (leastL (obOf h)) (serP p β (serN h p.o.kind)).o, made := madeN h p.o.kind } pb ob tb nb Fp' st ft sn fn (putP l (leastL (obOf h)) (serP p β (serN h p.o.kind))) := by
        have hD := HPD.out.2
        have hP := HPD.out.1
        have hS := HGS.out
        have hbe := HBE.out
        have hold : ∀ x, x < β → x ∉ Fof b ob tb nb Fp l → x ∉ Fof b ob tb nb Fp' l := fun x h1 h2 hm => by
          rcases F_pool HFR.out x hm with h3 | h3
          · exact h2 h3
          · omega
        have hpt : p.o.kind = 8 → p.t < β := fun e => by have := hP.thr e; omega
        have hP6 : PartAt w6 (serP p β (serN h p.o.kind)) := by
          have h1 := hP.turns HT6.out (fun x hx => hS.1 x hx)
          exact ⟨h1.tab, h1.cells, h1.none, h1.thr, h1.lt⟩
        refine HH.out.come (q := serP p β (serN h p.o.kind)) HEM.out rfl rfl rfl rfl ?_ HN.out.2 ?_ ?_
        · show In64 (madeN h p.o.kind)
          unfold madeN
          split
          · unfold upM
            rw [IntWalk.i64_left]
            unfold In64 wrap64; omega
          · exact HH.out.made
        · refine ⟨hD.kind, ?_, hD.text, hD.notText, hD.notTab, hD.notFn, hD.notCell, hD.mtv, hD.has, hD.proto, hD.cells⟩
          show In64 (serN h p.o.kind)
          unfold serN
          split
          · unfold upM
            rw [IntWalk.i64_left]
            unfold In64 wrap64; omega
          · unfold In64; omega
        · have hR := HR6.out
          rw [← HKID.out, ← HPO.out, ← HSZ.out] at hR
          refine hR.come (i := leastL (obOf h)) (fun j r hj => look_put HEM.out j r hj) ⟨HO6.out, hP6⟩ (fun hm => by have := HNB.out β hm; omega) (fun x hx => hold x (by have := hP.lt x hx; omega) (hS.1 x hx)) (fun hm => by have := hP.lt β hm; omega) (fun e => ⟨hold _ (hpt e) (hS.2.1 e), fun e2 => by have h1 := hpt e; have h2 : p.t = β := e2; omega⟩) (fun j r hj hr => ?_)
          have h1 := (HH.out.rm.each j r hj).2.thr hr
          have h2 := hS.2.2 j r hj hr
          exact ⟨fun e => by have e : r.t = β := e; omega, h2.1, h2.2⟩
      have hi6 : (putP l (leastL (obOf h)) (serP p β (serN h p.o.kind)))[leastL (obOf h)]? = some (some (serP p β (serN h p.o.kind))) := by rw [get_put' HEM.out, if_pos rfl]
      have hkk : kd < 256 := by have := HPD.out.2.kind; have := HKD.out; omega
      have cno := note_fn hX6 hi6 ⟨kd, kid⟩ ⟨hkk, HKIN.out⟩ (by show kid = _; rw [← HKID.out, HPO.out])
      have cno : Calls Tryz.prog 56 #[.pointer (some ⟨b, 0, none⟩), .agg #[.int .u8 (kd : Int), .int .i64 kid]] w6 _ := cno
      have HX6 := Lib.hid hX6
      clear hX6 hi6 hkk
      go_wp2_with fail
      refine cno.mono ?_
      rintro e w7 ⟨rfl, ht7, sn7, fn7, h7⟩
      have hnbF : ∀ x ∈ nb.toList, x ∈ Fof b ob tb nb Fp' l := fun x hx => F_nb nb x hx
      have hg7 := (ht7.block γ (lt_of_get HG6.out) (fun hm => by have h1 := HLT3.out γ (hnbF γ hm); exact Nat.lt_irrefl _ h1)).trans HG6.out
      have hb7 := (ht7.block (β + 1) (lt_of_get HB6.out) (fun hm => by have h1 := HNB.out _ (hnbF _ hm); omega)).trans HB6.out
      have g0 := cell_of hg7 0 _ rfl
      have g1 := cell_of hg7 1 _ rfl
      have z0 := cell_of hb7 0 _ rfl
      have z1 := cell_of hb7 1 _ rfl
      have f0 := free_of hb7 0
      have f1 := free_of hb7 1
      have H7 := Lib.hid h7
      have HT7 := Lib.hid ht7
      have hgne : γ ≠ β + 1 := by have := HBG.out; omega
      clear h7 ht7 cno hg7 hb7 n0 n1 hnbF
      go_wp2_with fail
      refine bodyPost_ret (v := .tuple #[.agg #[.int .u8 (kd : Int), .int .i64 kid], .int .i64 0]) (by simp [results, Tryz.results58, go_sem, z0, z1]) rfl ?_
      have htt := turns_two w7 (β + 1) 0 1 (x := .int .u8 (kd : Int)) (y := .int .i64 kid)
      have h7 := H7.out
      rw [set_putP HEM.out] at h7
      generalize hq7 : notedP _ (serP p β (serN h p.o.kind)) = q7 at h7
      have q7g : q7.g = β := by rw [← hq7]; rfl
      have q7G : q7.G = p.G := by rw [← hq7]; rfl
      have q7t : q7.t = p.t := by rw [← hq7]; rfl
      have q7o : q7.o = { p.o with serial := serN h p.o.kind, noted := h.watch } := by
        rw [← hq7]
        unfold notedP note serP
        dsimp only
        rw [HN.out.2, Bool.false_or]
      have hPg : ∀ x ∈ p.G, x < β := fun x hx => by have h1 := HPD.out.1.lt x hx; have h2 := HBE.out; omega
      refine .inr ⟨?_, ?_, Fp', sn7, fn7, q7, ?_, q7o, ?_, q7G, q7t, (HT6.out.trans HT7.out (fun x hx => .inl (F_nb nb x hx))).trans htt (fun x hx => .inr (by rw [List.mem_singleton.1 hx, HBE.out]; exact Nat.le_succ _)), HFR.out⟩
      · rw [HSZ.out]
        show ¬ (65536 ≤ cntL (obOf h) ∨ h.max < usedL (obOf h) + sz)
        rw [HPO.out]
        exact fun e => HRO.out e.symm
      · show Ending.returned _ = .returned (.tuple #[.agg #[.int .u8 (p.o.kind : Int), .int .i64 ((leastL (obOf h) : Int) + 1)], .int .i64 0])
        rw [HKD.out, HPO.out, HKID.out]
      · have h8 := h7.turns htt (fun x hx hm => by
          rw [List.mem_singleton.1 hm] at hx
          rcases F_put (q := q7) (Fp := Fp') (R := fun x => x ≤ β) HEM.out (fun x hx => .inl hx) (by rw [q7g]; exact Nat.le_refl _) (fun x hx => by rw [q7G] at hx; exact Nat.le_of_lt (hPg x hx)) _ hx with h1 | h1
          · have := HNB.out _ h1; omega
          · omega)
        have e1 : (note { h with obs := putO h.obs (leastL (obOf h)) (serP p β (serN h p.o.kind)).o, made := madeN h p.o.kind } (serP p β (serN h p.o.kind)).o) = { p.o with serial := serN h p.o.kind, noted := h.watch } := by
          unfold note serP
          dsimp only
          rw [HN.out.2, Bool.false_or]
        unfold setO at h8
        dsimp only at h8
        rw [e1, set_putO] at h8
        · exact h8
        · have h1 := HEM.out.le
          rw [HH.out.obs, List.length_map]
          exact h1
      · rw [q7g, HBE.out]
        exact Nat.le_refl _
end
end Go.Proofs.YthejclgihhfenaaGreat.Hd
