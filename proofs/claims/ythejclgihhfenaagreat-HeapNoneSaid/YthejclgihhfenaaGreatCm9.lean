import Derived.Test.YthejclgihhfenaaGreatCm8
/-
  Layer 13: the developers' table: the first place behind another that is not dead; Next.
-/
namespace Go.Proofs.YthejclgihhfenaaGreat.Td
open Go Go.RowKit Go.Proofs.YthejclgihhfenaaGreat.Pl Go.Proofs.YthejclgihhfenaaGreat.Tb

theorem infoPlace : ∃ j, Tryz.prog.info? 140 = some j ∧ j.size ≠ 0 := by
  obtain ⟨j, hj⟩ : ∃ j, Tryz.prog.info? 140 = some j := Option.isSome_iff_exists.1 (show (Tryz.prog.info? 140).isSome = true by kernel_rfl)
  refine ⟨j, hj, ?_⟩
  have h : (Tryz.prog.info? 140).map (·.size) = some 7 := by kernel_rfl
  rw [hj] at h
  have h : j.size = 7 := Option.some.inj h
  rw [h]
  decide
theorem neq_same (a : Addr) (w : World) : (binOp .neq 138 (.pointer (some a)) (.pointer (some a))).run Tryz.prog w = .ok (.bool false) w := by
  obtain ⟨j, hj, hs⟩ := infoPlace
  have h : ∀ d : Nat, (Op.equalIn (d + 1) 138 (.pointer (some a)) (.pointer (some a))).run Tryz.prog w = .ok true w := fun d => by
    simp [Op.equalIn, run_underlying Tryz.underlying138, sizeOf, typeInfo, hj, run_sameAddr_same]
  simp only [binOp]
  simp [Op.equal, Op.maxDepth, h 9999]
theorem neq_other {a b : Addr} {w : World} {ca cb : Array Value} {ta tb : TypeId} (hne : a ≠ b) (ha : w.heap[a.block]? = some (.cells ca ta (0, 0))) (hb : w.heap[b.block]? = some (.cells cb tb (0, 0))) :
    (binOp .neq 138 (.pointer (some a)) (.pointer (some b))).run Tryz.prog w = .ok (.bool true) w := by
  obtain ⟨j, hj, hs⟩ := infoPlace
  have h : ∀ d : Nat, (Op.equalIn (d + 1) 138 (.pointer (some a)) (.pointer (some b))).run Tryz.prog w = .ok false w := fun d => by
    simp [Op.equalIn, run_underlying Tryz.underlying138, sizeOf, typeInfo, hj, hs, run_sameAddr_other w hne ha hb]
  simp only [binOp]
  simp [Op.equal, Op.maxDepth, h 9999]
theorem next1_fn (g : Nat) (k : Nat) (w : World) (h : w.cell? ⟨g, 2, none⟩ = some (.int .u8 (k : Int))) :
    Calls Tryz.prog 123 #[.pointer (some ⟨g, 0, none⟩)] w fun e w' => e = .returned (.bool (decide (k ≠ 0))) ∧ w' = w := by
  have c := dead_fn g k w h
  rw [show decide (k ≠ 0) = !decide (k = 0) from by simp]
  generalize decide (k = 0) = B at *
  clear h
  go_enter Tryz.func123, Tryz.ntmps123
  go_wp2_with fail
  refine c.mono ?_
  rintro e w1 ⟨rfl, rfl⟩
  go_wp2_with fail
  go_ret
  exact ⟨rfl, rfl⟩
def liveP (p : Plc) : Bool := decide (p.v.kind ≠ 0)
def hereA (b : Nat) (l : List Plc) : Addr := match l.find? liveP with | none => endA b | some q => adr q
section
variable {w w' : World} {b mb : Nat} {l l1 l2 : List Plc} {lv ln : Int} {p : Plc}
theorem TM.nexts (h : TM w b mb (l1 ++ p :: l2) lv ln) : w.cell? ⟨p.b, 5, none⟩ = some (.pointer (some (nextA b l2))) := h.split.2.2.1.1
theorem TM.firsts (h : TM w b mb l lv ln) : w.cell? ⟨b, 7, none⟩ = some (.pointer (some (nextA b l))) := by
  have h0 := h.links
  cases l with
  | nil => exact h0.1.1
  | cons p l => exact h0.1.1
theorem TM.differs (h : TM w b mb l lv ln) (hp : p ∈ l) : (binOp .neq 138 (.pointer (some ⟨p.b, 0, none⟩)) (.pointer (some ⟨b, 2, none⟩))).run Tryz.prog w = .ok (.bool true) w := by
  obtain ⟨c1, h1, _⟩ := (h.nodes p hp).shape
  obtain ⟨c2, h2, _⟩ := h.head.shape
  exact neq_other (a := ⟨p.b, 0, none⟩) (b := ⟨b, 2, none⟩) (ne_off (by decide)) h1 h2
theorem behind_fn (h : TM w b mb (l1 ++ l2) lv ln) (xb xo : Nat) (hx : w.cell? ⟨xb, xo + 5, none⟩ = some (.pointer (some (nextA b l2)))) :
    Calls Tryz.prog 122 #[.pointer (some ⟨b, 0, none⟩), .pointer (some ⟨xb, xo, none⟩), .func (.func 123) #[] #[]] w fun e w' => e = .returned (.pointer (some (hereA b l2))) ∧ w' = w := by
  have HH := Lib.hid h
  clear h
  go_enter Tryz.func122, Tryz.ntmps122
  go_wp2_with fail
  go_loopg [1] l2.length (fun r x wr => ∃ l3 l4 : List Plc, r = l3.length ∧ x = .pointer (some (nextA b l3)) ∧ l2 = l4 ++ l3 ∧ hereA b l3 = hereA b l2 ∧ wr = w)
  case atStart => exact ⟨l2, [], rfl, rfl, rfl, rfl, rfl⟩
  case round =>
    obtain ⟨l3, l4, rfl, rfl, hl, hf, rfl⟩ := hrel
    have HL := Lib.hid hl
    have HF := Lib.hid hf
    clear hl hf
    cases l3 with
    | nil =>
      have hq := neq_same ⟨b, 2, none⟩ wr
      rw [show nextA b [] = ⟨b, 2, none⟩ from rfl]
      go_wp2_with fail
      go_ret
      exact ⟨congrArg (fun a => Ending.returned (.pointer (some a))) ((show (⟨b, 2, none⟩ : Addr) = hereA b [] from rfl).trans HF.out), rfl⟩
    | cons q l3 =>
      have hq : q ∈ l1 ++ l2 := by rw [HL.out]; simp
      have hd := HH.out.differs hq
      have hv := (HH.out.nodes q hq).v0
      have hn : wr.cell? ⟨q.b, 5, none⟩ = some (.pointer (some (nextA b l3))) := by
        have := HH.out
        rw [HL.out, ← List.append_assoc] at this
        exact this.nexts
      have c := next1_fn q.b q.v.kind wr hv
      rw [show nextA b (q :: l3) = ⟨q.b, 0, none⟩ from rfl]
      have HQ := Lib.hid (show hereA b (q :: l3) = if liveP q then adr q else hereA b l3 from by unfold hereA; rw [List.find?_cons]; cases liveP q <;> rfl)
      by_cases hk : q.v.kind = 0
      · rw [show decide (q.v.kind ≠ 0) = false from by simp [hk]] at c
        have HQ2 := Lib.hid (HQ.out.trans (if_neg (by unfold liveP; simp [hk])))
        clear hk hv HQ
        go_wp2_with fail
        refine c.mono ?_
        rintro e w1 ⟨rfl, rfl⟩
        go_wp2_with fail
        go_roundg l3.length
        case rel => exact ⟨l3, l4 ++ [q], rfl, rfl, by rw [HL.out]; simp, HQ2.out.symm.trans HF.out, rfl⟩
        case measure => exact Nat.lt_succ_self _
      · rw [show decide (q.v.kind ≠ 0) = true from by simp [hk]] at c
        have HQ2 := Lib.hid (HQ.out.trans (if_pos (by unfold liveP; simp [hk])))
        clear hk hv HQ
        go_wp2_with fail
        refine c.mono ?_
        rintro e w1 ⟨rfl, rfl⟩
        go_wp2_with fail
        go_ret
        exact ⟨congrArg (fun a => Ending.returned (.pointer (some a))) ((show (⟨q.b, 0, none⟩ : Addr) = adr q from rfl).trans (HQ2.out.symm.trans HF.out)), rfl⟩
end
end Go.Proofs.YthejclgihhfenaaGreat.Td

/-
  Layer 13: the developers' table: Next.
-/
namespace Go.Proofs.YthejclgihhfenaaGreat.Td
open Go Go.RowKit Go.Proofs.YthejclgihhfenaaGreat.Pl Go.Proofs.YthejclgihhfenaaGreat.Tb

theorem live_alive (q : Plc) : alive (pv q) = liveP q := rfl
theorem find_tbl : ∀ l : List Plc, (tblOf l).find? alive = (l.find? liveP).map pv
  | [] => rfl
  | q :: l => by
    show (pv q :: tblOf l).find? alive = _
    rw [List.find?_cons, List.find?_cons, live_alive, find_tbl l]
    cases liveP q <;> rfl
theorem behind_is : ∀ (l1 : List Plc) (p : Plc) (l2 : List Plc), ((l1 ++ p :: l2).map (·.k)).Nodup → behindT (tblOf (l1 ++ p :: l2)) p.k = tblOf l2
  | [], p, l2, _ => by
    show (if p.k = p.k then tblOf l2 else _) = _
    rw [if_pos rfl]
  | q :: l1, p, l2, h => by
    have h2 := List.nodup_cons.1 (show (q.k :: (l1 ++ p :: l2).map (·.k)).Nodup from h)
    have hne : ¬ q.k = p.k := fun e => h2.1 (by rw [e]; exact List.mem_map.2 ⟨p, List.mem_append_right _ (List.mem_cons_self ..), rfl⟩)
    show (if q.k = p.k then _ else behindT (tblOf (l1 ++ p :: l2)) p.k) = _
    rw [if_neg hne]
    exact behind_is l1 p l2 h2.2
theorem drew_below (w : World) : Below w.heap.size w w.drew := (Below.refl _ _).drew
section
variable {w w' : World} {b mb : Nat} {l l1 l2 : List Plc} {lv ln : Int} {p : Plc}
theorem TM.hereCells (h : TM w b mb l lv ln) (hs : ∀ q ∈ l2, q ∈ l) (B : Nat) (hb : b < B) (hq : ∀ q ∈ l, q.b < B) : ∃ a o, hereA b l2 = ⟨a, o, none⟩ ∧ a < B ∧ w.cell? ⟨a, o, none⟩ = some (.int .u8 ((firstT (tblOf l2)).1.kind : Int)) ∧ w.cell? ⟨a, o + 1, none⟩ = some (.int .i64 (firstT (tblOf l2)).1.n) ∧ w.cell? ⟨a, o + 2, none⟩ = some (.int .u8 ((firstT (tblOf l2)).2.kind : Int)) ∧ w.cell? ⟨a, o + 3, none⟩ = some (.int .i64 (firstT (tblOf l2)).2.n) := by
  unfold firstT hereA
  rw [find_tbl]
  cases hf : l2.find? liveP with
  | none => exact ⟨b, 2, rfl, hb, h.head.k0, h.head.k1, h.head.v0, h.head.v1⟩
  | some q =>
    have hn := h.nodes q (hs q (List.mem_of_find?_eq_some hf))
    exact ⟨q.b, 0, rfl, hq q (hs q (List.mem_of_find?_eq_some hf)), hn.k0, hn.k1, hn.v0, hn.v1⟩
end
/-- A key's box and two results' boxes. -/
structure Box3 (w w0 : World) (β : Nat) (x y : Value) : Prop where
  at0 : w0.heap[β]? = some (.cells #[x, y] 37 (0, 0))
  at1 : w0.heap[β + 1]? = some (.cells #[.int .u8 0, .int .i64 0] 37 (0, 0))
  at2 : w0.heap[β + 1 + 1]? = some (.cells #[.int .u8 0, .int .i64 0] 37 (0, 0))
  low : Below β w w0
  size : w.heap.size = β
theorem size_alloc' (w : World) (o : Obj) : (w.alloc o).heap.size = w.heap.size + 1 := by simp
theorem box3 (w : World) (x y : Value) : Box3 w (((w.alloc (.cells #[x, y] 37)).alloc (.cells #[.int .u8 0, .int .i64 0] 37)).alloc (.cells #[.int .u8 0, .int .i64 0] 37)) w.heap.size x y where
  at0 := by
    rw [heap_alloc_old _ _ (by simp; omega), heap_alloc_old _ _ (by simp)]
    exact new_block _ _
  at1 := by
    rw [heap_alloc_old _ _ (by simp), ← size_alloc' w (.cells #[x, y] 37)]
    exact new_block _ _
  at2 := by
    have := new_block ((w.alloc (.cells #[x, y] 37)).alloc (.cells #[.int .u8 0, .int .i64 0] 37)) (.cells #[.int .u8 0, .int .i64 0] 37)
    rw [size_alloc', size_alloc'] at this
    exact this
  low := (((Below.refl _ _).alloc (Nat.le_refl _) _).alloc (by simp) _).alloc (by simp; omega) _
  size := rfl
theorem Box3.below {w w0 : World} {β : Nat} {x y : Value} (h : Box3 w w0 β x y) {w1 : World} (hb : Below w0.heap.size w0 w1) : Box3 w w1 β x y :=
  ⟨(hb.block _ (lt_of_get h.at0)).trans h.at0, (hb.block _ (lt_of_get h.at1)).trans h.at1, (hb.block _ (lt_of_get h.at2)).trans h.at2, h.low.trans (hb.mono (by rw [← h.size]; exact h.low.size)), h.size⟩
theorem nodup_one {l : List Plc} (h : (l.map (·.k)).Nodup) {p q : Plc} (hq : q ∈ l) (hp : p ∈ l) (e : q.k = p.k) : q = p := by
  induction l with
  | nil => cases hq
  | cons r l ih =>
    have h2 := List.nodup_cons.1 (show (r.k :: l.map (·.k)).Nodup from h)
    rcases List.mem_cons.1 hq with rfl | hq2
    · rcases List.mem_cons.1 hp with e2 | hp2
      · exact e2.symm
      · exact absurd (by rw [e]; exact List.mem_map.2 ⟨p, hp2, rfl⟩) h2.1
    · rcases List.mem_cons.1 hp with e2 | hp2
      · exact absurd (by rw [← e2, ← e]; exact List.mem_map.2 ⟨q, hq2, rfl⟩) h2.1
      · exact ih h2.2 hq2 hp2
section
variable {w w' : World} {b mb : Nat} {l l1 l2 : List Plc} {lv ln : Int} {p : Plc}
set_option maxRecDepth 100000 in
set_option maxHeartbeats 2000000 in
theorem next_nil (h : TM w b mb l lv ln) (kn : Int) :
    Calls Tryz.prog 90 #[.pointer (some ⟨b, 0, none⟩), .agg #[.int .u8 0, .int .i64 kn]] w (fun e w' => e = .returned (.tuple #[(firstT (tblOf l)).1.val, (firstT (tblOf l)).2.val, .int .i64 0]) ∧ Below w.heap.size w w') := by
  have hx := box3 w (.int .u8 0) (.int .i64 kn)
  obtain ⟨β, hβ⟩ : ∃ β, w.heap.size = β := ⟨_, rfl⟩
  have HL := Lib.hid (show b < β ∧ ∀ q ∈ l, q.b < β from ⟨by rw [← hβ]; exact h.head.shape.lt, fun q hq => by rw [← hβ]; exact (h.nodes q hq).shape.lt⟩)
  have h1 := h.below (hx.low.mono (by omega))
  rw [hβ] at hx
  have HX := Lib.hid hx
  have HT := Lib.hid h1
  clear hx h1 h
  go_enter Tryz.func90, Tryz.ntmps90
  go_wp2_with fail
  generalize hW : ((w.alloc (.cells #[.int .u8 0, .int .i64 kn] 37)).alloc (.cells #[.int .u8 0, .int .i64 0] 37)).alloc (.cells #[.int .u8 0, .int .i64 0] 37) = w0 at *
  clear hW
  refine (made_fn b _ HT.out.head.self).mono ?_
  rintro e w1 ⟨rfl, rfl⟩
  have x0 := cell_of HX.out.at0 0 _ rfl
  go_wp2_with fail
  refine (behind_fn (l1 := []) (l2 := l) HT.out b 2 HT.out.firsts).mono ?_
  rintro e w2 ⟨rfl, rfl⟩
  obtain ⟨a, o, ha, hab, c0, c1, c2, c3⟩ := TM.hereCells (l2 := l) HT.out (fun q hq => hq) β HL.out.1 HL.out.2
  rw [ha]
  obtain ⟨⟨uk, un⟩, hu⟩ : ∃ u, (firstT (tblOf l)).1 = u := ⟨_, rfl⟩
  obtain ⟨⟨vk, vn⟩, hv⟩ : ∃ v, (firstT (tblOf l)).2 = v := ⟨_, rfl⟩
  have HU := Lib.hid hu
  have HV := Lib.hid hv
  rw [hu] at c0 c1
  rw [hv] at c2 c3
  clear hu hv
  dsimp only at c0 c1 c2 c3
  clear ha
  have y0 := cell_of HX.out.at1 0 _ rfl
  have y1 := cell_of HX.out.at1 1 _ rfl
  have y2 := cell_of HX.out.at2 0 _ rfl
  have y3 := cell_of HX.out.at2 1 _ rfl
  have z0 := free_of HX.out.at1 0
  have z1 := free_of HX.out.at1 1
  have z2 := free_of HX.out.at2 0
  have z3 := free_of HX.out.at2 1
  have ha1 : a ≠ β + 1 := by omega
  have ha2 : a ≠ β + 1 + 1 := by omega
  have k1 : ∀ (w' : World) (i j : Nat) (x : Value), (w'.setCell ⟨β + 1, i, none⟩ x).cell? ⟨a, j, none⟩ = w'.cell? ⟨a, j, none⟩ := fun _ _ _ _ => World.cell?_setCell_other _ _ _ _ (ne_blk ha1.symm)
  have k2 : ∀ (w' : World) (i j : Nat) (x : Value), (w'.setCell ⟨β + 1 + 1, i, none⟩ x).cell? ⟨a, j, none⟩ = w'.cell? ⟨a, j, none⟩ := fun _ _ _ _ => World.cell?_setCell_other _ _ _ _ (ne_blk ha2.symm)
  go_upto_region 10 with fail
  go_region_held3 (fun w' => w'.cell? ⟨a, o, none⟩ = some (.int .u8 (uk : Int)) ∧ w'.cell? ⟨a, o + 1, none⟩ = some (.int .i64 un) ∧ w'.cell? ⟨a, o + 2, none⟩ = some (.int .u8 (vk : Int)) ∧ w'.cell? ⟨a, o + 3, none⟩ = some (.int .i64 vn))
    (go_keep)
    (fail)
  go_wp2_with fail
  refine bodyPost_ret (v := .tuple #[.agg #[.int .u8 (uk : Int), .int .i64 un], .agg #[.int .u8 (vk : Int), .int .i64 vn], .int .i64 0]) (by simp [results, Tryz.results90, go_sem, y0, y1, y2, y3]) rfl ?_
  have hle1 : w.heap.size ≤ β + 1 := by have := HX.out.size; omega
  have hle2 : w.heap.size ≤ β + 1 + 1 := by have := HX.out.size; omega
  have hB0 : Below w.heap.size w w2 := by rw [HX.out.size]; exact HX.out.low
  exact ⟨by rw [HU.out, HV.out]; rfl, by
    repeat first
      | exact hB0
      | refine Below.drew ?_
      | refine Below.setCell (p := ⟨β + 1, _, none⟩) ?_ hle1 _
      | refine Below.setCell (p := ⟨β + 1 + 1, _, none⟩) ?_ hle2 _⟩
set_option maxRecDepth 100000 in
set_option maxHeartbeats 2000000 in
theorem next_none (h : TM w b mb l lv ln) (k : Vl) (hk : k.In) (hk0 : k.kind ≠ 0) (hno : findP l k = none) :
    Calls Tryz.prog 90 #[.pointer (some ⟨b, 0, none⟩), k.val] w (fun e w' => e = .returned (.tuple #[nilV.val, nilV.val, .int .i64 2]) ∧ Below w.heap.size w w') := by
  obtain ⟨M, hM, hp⟩ := h.map
  obtain ⟨kk, kn⟩ := k
  have lk : ∀ w' : World, w'.heap[mb]? = some M → _ := fun w' hw' => hp.look_ok (w := w') hw' ⟨kk, kn⟩ hk
  have hx := box3 w (.int .u8 (kk : Int)) (.int .i64 kn)
  obtain ⟨β, hβ⟩ : ∃ β, w.heap.size = β := ⟨_, rfl⟩
  have HL := Lib.hid (show b < β ∧ ∀ q ∈ l, q.b < β from ⟨by rw [← hβ]; exact h.head.shape.lt, fun q hq => by rw [← hβ]; exact (h.nodes q hq).shape.lt⟩)
  have h1 := h.below (hx.low.mono (by omega))
  have hM := (hx.low.block _ h.mapLt).trans hM
  rw [hβ] at hx
  have HX := Lib.hid hx
  have HT := Lib.hid h1
  have HM := Lib.hid hM
  have hkk : ((kk : Int) == 0) = false := by
    dsimp only at hk0
    rw [beq_eq_false_iff_ne]; omega
  have hkk2 : ¬ (kk : Int) = 0 := by
    dsimp only at hk0
    omega
  have hs := h1.head.self
  clear hx h1 h hp hM hk hk0
  rw [hno] at lk
  unfold ptrP mapT at lk
  unfold Vl.val Vl.cells at *
  dsimp only [nilV] at *
  clear hno
  go_enter Tryz.func90, Tryz.ntmps90
  go_wp2_with fail
  generalize hW : ((w.alloc (.cells #[.int .u8 (kk : Int), .int .i64 kn] 37)).alloc (.cells #[.int .u8 0, .int .i64 0] 37)).alloc (.cells #[.int .u8 0, .int .i64 0] 37) = w0 at *
  clear hW
  refine (made_fn b _ hs).mono ?_
  rintro e w1 ⟨rfl, rfl⟩
  have x0 := cell_of HX.out.at0 0 _ rfl
  have x1 := cell_of HX.out.at0 1 _ rfl
  have xm := HT.out.head.map
  go_wp2_with fail
  have hMd : w1.drew.heap[mb]? = some M := HM.out
  go_region_held3 (fun w' => w'.cell? ⟨b, 1, none⟩ = some (.map (some mb)) ∧ w'.cell? ⟨β, 0, none⟩ = some (.int .u8 (kk : Int)) ∧ w'.cell? ⟨β, 1, none⟩ = some (.int .i64 kn) ∧ w'.heap[mb]? = some M)
    (go_keep)
    (fail)
  have y0 := cell_of HX.out.at1 0 _ rfl
  have y1 := cell_of HX.out.at1 1 _ rfl
  have y2 := cell_of HX.out.at2 0 _ rfl
  have y3 := cell_of HX.out.at2 1 _ rfl
  have z0 := free_of HX.out.at1 0
  have z1 := free_of HX.out.at1 1
  have z2 := free_of HX.out.at2 0
  have z3 := free_of HX.out.at2 1
  go_wp2_with fail
  refine bodyPost_ret (v := .tuple #[.agg #[.int .u8 0, .int .i64 0], .agg #[.int .u8 0, .int .i64 0], .int .i64 2]) (by simp [results, Tryz.results90, go_sem, y0, y1, y2, y3]) rfl ?_
  have hle1 : w.heap.size ≤ β + 1 := by have := HX.out.size; omega
  have hle2 : w.heap.size ≤ β + 1 + 1 := by have := HX.out.size; omega
  have hB0 : Below w.heap.size w w1 := by rw [HX.out.size]; exact HX.out.low
  exact ⟨rfl, by
    repeat first
      | exact hB0
      | refine Below.drew ?_
      | refine Below.setCell (p := ⟨β + 1, _, none⟩) ?_ hle1 _
      | refine Below.setCell (p := ⟨β + 1 + 1, _, none⟩) ?_ hle2 _⟩
set_option maxRecDepth 100000 in
set_option maxHeartbeats 2000000 in
theorem next_some (h : TM w b mb (l1 ++ p :: l2) lv ln) (hk0 : p.k.kind ≠ 0) :
    Calls Tryz.prog 90 #[.pointer (some ⟨b, 0, none⟩), p.k.val] w (fun e w' => e = .returned (.tuple #[(firstT (tblOf l2)).1.val, (firstT (tblOf l2)).2.val, .int .i64 0]) ∧ Below w.heap.size w w') := by
  have hno : findP (l1 ++ p :: l2) p.k = some p.b := by
    rcases find_cases (l1 ++ p :: l2) p.k with ⟨_, _, _, h4⟩ | ⟨q, hq, hqk, h1, _⟩
    · exact absurd rfl (h4 p (by simp))
    · rw [h1, nodup_one h.keys hq (by simp) hqk]
  have hk : p.k.In := (h.ok p (by simp)).1
  have HPB := Lib.hid (h.nodes p (by simp)).shape.lt
  generalize hl : l1 ++ p :: l2 = l at h hno
  have HL12 := Lib.hid hl
  clear hl
  obtain ⟨g, hg⟩ : ∃ g, p.b = g := ⟨_, rfl⟩
  have HG := Lib.hid hg
  obtain ⟨k, hk'⟩ : ∃ k, p.k = k := ⟨_, rfl⟩
  rw [hk'] at hk hk0 hno ⊢
  rw [hg] at hno
  clear hg hk'
  obtain ⟨M, hM, hp⟩ := h.map
  obtain ⟨kk, kn⟩ := k
  have lk : ∀ w' : World, w'.heap[mb]? = some M → _ := fun w' hw' => hp.look_ok (w := w') hw' ⟨kk, kn⟩ hk
  have hx := box3 w (.int .u8 (kk : Int)) (.int .i64 kn)
  obtain ⟨β, hβ⟩ : ∃ β, w.heap.size = β := ⟨_, rfl⟩
  have HL := Lib.hid (show b < β ∧ ∀ q ∈ l, q.b < β from ⟨by rw [← hβ]; exact h.head.shape.lt, fun q hq => by rw [← hβ]; exact (h.nodes q hq).shape.lt⟩)
  have h1 := h.below (hx.low.mono (by omega))
  have hM := (hx.low.block _ h.mapLt).trans hM
  rw [hβ] at hx
  have HX := Lib.hid hx
  have HT := Lib.hid h1
  have HM := Lib.hid hM
  have hkk : ((kk : Int) == 0) = false := by
    dsimp only at hk0
    rw [beq_eq_false_iff_ne]; omega
  have hkk2 : ¬ (kk : Int) = 0 := by
    dsimp only at hk0
    omega
  have hs := h1.head.self
  clear hx h1 h hp hM hk hk0
  rw [hno] at lk
  unfold ptrP mapT at lk
  unfold Vl.val Vl.cells at *
  dsimp only [nilV] at *
  clear hno
  go_enter Tryz.func90, Tryz.ntmps90
  go_wp2_with fail
  generalize hW : ((w.alloc (.cells #[.int .u8 (kk : Int), .int .i64 kn] 37)).alloc (.cells #[.int .u8 0, .int .i64 0] 37)).alloc (.cells #[.int .u8 0, .int .i64 0] 37) = w0 at *
  clear hW
  refine (made_fn b _ hs).mono ?_
  rintro e w1 ⟨rfl, rfl⟩
  have x0 := cell_of HX.out.at0 0 _ rfl
  have x1 := cell_of HX.out.at0 1 _ rfl
  have xm := HT.out.head.map
  go_wp2_with fail
  have hMd : w1.drew.heap[mb]? = some M := HM.out
  go_region_held3 (fun w' => w'.cell? ⟨b, 1, none⟩ = some (.map (some mb)) ∧ w'.cell? ⟨β, 0, none⟩ = some (.int .u8 (kk : Int)) ∧ w'.cell? ⟨β, 1, none⟩ = some (.int .i64 kn) ∧ w'.heap[mb]? = some M)
    (go_keep)
    (fail)
  go_wp2_with fail
  have hT2 : TM w1 b mb (l1 ++ p :: l2) lv ln := by
    rw [HL12.out]
    exact HT.out
  have hnx := hT2.nexts
  rw [HG.out] at hnx
  refine (behind_fn (l1 := l1 ++ [p]) (l2 := l2) (w := w1.drew) (b := b) (mb := mb) (lv := lv) (ln := ln) (by rw [List.append_assoc]; exact hT2.below (drew_below _)) g 0 hnx).mono ?_
  rintro e w2 ⟨rfl, rfl⟩
  obtain ⟨a, o, ha, hab, c0, c1, c2, c3⟩ := TM.hereCells (l2 := l2) hT2 (fun q hq => List.mem_append_right _ (List.mem_cons_of_mem _ hq)) β HL.out.1 (by rw [HL12.out]; exact HL.out.2)
  rw [ha]
  obtain ⟨⟨uk, un⟩, hu⟩ : ∃ u, (firstT (tblOf l2)).1 = u := ⟨_, rfl⟩
  obtain ⟨⟨vk, vn⟩, hv⟩ : ∃ v, (firstT (tblOf l2)).2 = v := ⟨_, rfl⟩
  have HU := Lib.hid hu
  have HV := Lib.hid hv
  rw [hu] at c0 c1
  rw [hv] at c2 c3
  clear hu hv
  dsimp only at c0 c1 c2 c3
  clear ha
  have y0 := cell_of HX.out.at1 0 _ rfl
  have y1 := cell_of HX.out.at1 1 _ rfl
  have y2 := cell_of HX.out.at2 0 _ rfl
  have y3 := cell_of HX.out.at2 1 _ rfl
  have z0 := free_of HX.out.at1 0
  have z1 := free_of HX.out.at1 1
  have z2 := free_of HX.out.at2 0
  have z3 := free_of HX.out.at2 1
  have ha1 : a ≠ β + 1 := by omega
  have ha2 : a ≠ β + 1 + 1 := by omega
  have k1 : ∀ (w' : World) (i j : Nat) (x : Value), (w'.setCell ⟨β + 1, i, none⟩ x).cell? ⟨a, j, none⟩ = w'.cell? ⟨a, j, none⟩ := fun _ _ _ _ => World.cell?_setCell_other _ _ _ _ (ne_blk ha1.symm)
  have k2 : ∀ (w' : World) (i j : Nat) (x : Value), (w'.setCell ⟨β + 1 + 1, i, none⟩ x).cell? ⟨a, j, none⟩ = w'.cell? ⟨a, j, none⟩ := fun _ _ _ _ => World.cell?_setCell_other _ _ _ _ (ne_blk ha2.symm)
  go_upto_region 10 with fail
  go_region_held3 (fun w' => w'.cell? ⟨a, o, none⟩ = some (.int .u8 (uk : Int)) ∧ w'.cell? ⟨a, o + 1, none⟩ = some (.int .i64 un) ∧ w'.cell? ⟨a, o + 2, none⟩ = some (.int .u8 (vk : Int)) ∧ w'.cell? ⟨a, o + 3, none⟩ = some (.int .i64 vn))
    (go_keep)
    (fail)
  go_wp2_with fail
  refine bodyPost_ret (v := .tuple #[.agg #[.int .u8 (uk : Int), .int .i64 un], .agg #[.int .u8 (vk : Int), .int .i64 vn], .int .i64 0]) (by simp [results, Tryz.results90, go_sem, y0, y1, y2, y3]) rfl ?_
  have hle1 : w.heap.size ≤ β + 1 := by have := HX.out.size; omega
  have hle2 : w.heap.size ≤ β + 1 + 1 := by have := HX.out.size; omega
  have hB0 : Below w.heap.size w w1 := by rw [HX.out.size]; exact HX.out.low
  exact ⟨by rw [HU.out, HV.out], by
    repeat first
      | exact hB0
      | refine Below.drew ?_
      | refine Below.setCell (p := ⟨β + 1, _, none⟩) ?_ hle1 _
      | refine Below.setCell (p := ⟨β + 1 + 1, _, none⟩) ?_ hle2 _⟩
end
end Go.Proofs.YthejclgihhfenaaGreat.Td
