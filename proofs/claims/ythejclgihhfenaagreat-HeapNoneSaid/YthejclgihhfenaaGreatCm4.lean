import Derived.Test.YthejclgihhfenaaGreatCm3
import Derived.Deep.OwnRows
/-
  Layer 14: the chapter's example, over what the calls say (written by hp-awake.py).
-/
namespace Go.Proofs.YthejclgihhfenaaGreat.Hp
open Go Go.RowKit Go.Proofs.YthejclgihhfenaaGreat.Pl Go.Proofs.YthejclgihhfenaaGreat.Tb

theorem in_hv (k : Nat) (n : Int) (h : k < 256) (h0 : -2000000000 ≤ n) (h1 : n ≤ 2000000000) : (⟨k, n⟩ : Vl).In := ⟨h, by constructor <;> dsimp only <;> omega⟩
def tAB : ByteArray := ⟨#[97, 98]⟩
def tC : ByteArray := ⟨#[99]⟩
def t80 : ByteArray := ⟨(List.replicate 80 (0 : UInt8)).toArray⟩
def m0 : Hp := { max := 10, obs := [] }
def m1 : Hp := (strH m0 tAB).1
def m2 : Hp := (strH m1 tAB).1
def m3 : Hp := (tableH m2).1
def m4 : Hp := (setH m3 ⟨5, 2⟩ (numV 1) ⟨4, 1⟩).1
def m5 : Hp := (cellH m4 (numV 5)).1
def m6 : Hp := (strH m5 t80).1
def m7 : Hp := (freeH m6 ⟨4, 1⟩).1
def m8 : Hp := (strH m7 tC).1
theorem s1 : strH m0 tAB = (m1, ⟨4, 1⟩, 0) := by kernel_rfl
theorem s2 : strH m1 tAB = (m2, ⟨4, 1⟩, 0) := by kernel_rfl
theorem s3 : tableH m2 = (m3, ⟨5, 2⟩, 0) := by kernel_rfl
theorem s4 : setH m3 ⟨5, 2⟩ (numV 1) ⟨4, 1⟩ = (m4, 0) := by kernel_rfl
theorem s4u : usedH m4 = 5 := by kernel_rfl
theorem s5 : cellH m4 (numV 5) = (m5, ⟨9, 3⟩, 0) := by kernel_rfl
theorem s5k : kidsH m5 ⟨5, 2⟩ = [⟨4, 1⟩] := by kernel_rfl
theorem s6 : strH m5 t80 = (m6, nilV, 152) := by kernel_rfl
theorem s7 : freeH m6 ⟨4, 1⟩ = (m7, 0) := by kernel_rfl
theorem s8 : strH m7 tC = (m8, ⟨4, 1⟩, 0) := by kernel_rfl
theorem s8l : loadH m8 ⟨9, 3⟩ = numV 5 := by kernel_rfl
theorem s8s : serialH m8 ⟨4, 1⟩ = 0 := by kernel_rfl
theorem s8t : serialH m8 ⟨5, 2⟩ = 1 := by kernel_rfl

theorem infoByte : (Tryz.prog.info? 5).map (fun i => (i.zero, i.size, i.bytes)) = some (some (.int .u8 0), 1, 1) := by kernel_rfl
theorem conv80 (W : World) (MC : Array Value) (h : MC = madeCells #[Value.int .u8 0] 80) : (convert 85 9 (.slice (some ⟨W.heap.size, 0, none⟩) 80 80)).run Tryz.prog (W.alloc (.cells MC 5)) = .ok (.string t80) (W.alloc (.cells MC 5)) := by
  have e : MC = ((List.replicate 80 (0 : Int)).map (Value.int .u8)).toArray := by rw [h]; kernel_rfl
  have hb : bytesOf (List.replicate 80 (0 : Int)) = t80 := by kernel_rfl
  have := run_convert_block (P := Tryz.prog) W 85 9 5 (List.replicate 80 (0 : Int)) (0, 0) Tryz.underlying85 Tryz.underlying5 Tryz.underlying9
  rw [← e, hb] at this
  exact this
set_option maxHeartbeats 8000000 in
set_option maxRecDepth 100000 in
theorem awake_fn (HP : HeapP) (H : HeapSays HP) (w : World) : Calls Tryz.prog 7 #[] w (fun e w' => e = .returned (.bool true) ∧ Below w.heap.size w w') := by
  have kn := H.new 10 w (by decide) (by decide)
  unfold NewHSays at kn
  go_enter Tryz.func7, Tryz.ntmps7
  go_wp2_with fail
  refine kn.mono ?_
  rintro e w1 ⟨b, F, rfl, hp, hF, hb1⟩
  have H1 := Lib.hid (show HpAt HP w b m0 [] w1 from ⟨F, hp, hF, hb1, fun p hp => absurd hp (List.not_mem_nil)⟩)
  clear hp hF hb1 kn
  go_wp2_with fail
  refine (show Calls _ 10 #[.pointer (some ⟨b, 0, none⟩), .string tAB] _ (Goes HP w b m1 [] (.tuple #[.agg #[.int .u8 4, .int .i64 1], .int .i64 0])) from by
    have h := H1.out.chg (fun hp => H.str tAB hp)
    rw [s1] at h
    exact h).mono ?_
  rintro e w2 ⟨rfl, h2⟩
  have H2 := Lib.hid h2
  clear h2
  have ha := H2.out.alloc H (Obj.cells #[.int .u8 4, .int .i64 1] 37 (0, 0))
  have H3 := Lib.hid ha
  clear ha
  go_upto_region 5 with fail
  generalize w2.alloc (Obj.cells #[.int .u8 4, .int .i64 1] 37) = w3 at *
  generalize w2.heap.size = ab at *
  go_wp2_with fail
  refine (show Calls _ 10 #[.pointer (some ⟨b, 0, none⟩), .string tAB] _ (Goes HP w b m2 [(ab, Obj.cells #[.int .u8 4, .int .i64 1] 37 (0, 0))] (.tuple #[.agg #[.int .u8 4, .int .i64 1], .int .i64 0])) from by
    have h := H3.out.chg (fun hp => H.str tAB hp)
    rw [s2] at h
    exact h).mono ?_
  rintro e w4 ⟨rfl, h4⟩
  have H4 := Lib.hid h4
  clear h4
  have ha := H4.out.alloc H (Obj.cells #[.int .u8 4, .int .i64 1] 37 (0, 0))
  have H5 := Lib.hid ha
  clear ha
  go_upto_region 6 with fail
  generalize w4.alloc (Obj.cells #[.int .u8 4, .int .i64 1] 37) = w5 at *
  generalize w4.heap.size = bb at *
  go_wp2_with fail
  refine (show Calls _ 12 #[.pointer (some ⟨b, 0, none⟩)] _ (Goes HP w b m3 [(bb, Obj.cells #[.int .u8 4, .int .i64 1] 37 (0, 0)), (ab, Obj.cells #[.int .u8 4, .int .i64 1] 37 (0, 0))] (.tuple #[.agg #[.int .u8 5, .int .i64 2], .int .i64 0])) from by
    have h := H5.out.chg (fun hp => H.table hp)
    rw [s3] at h
    exact h).mono ?_
  rintro e w6 ⟨rfl, h6⟩
  have H6 := Lib.hid h6
  clear h6
  have ha := H6.out.alloc H (Obj.cells #[.int .u8 5, .int .i64 2] 37 (0, 0))
  have H7 := Lib.hid ha
  clear ha
  go_upto_region 7 with fail
  generalize w6.alloc (Obj.cells #[.int .u8 5, .int .i64 2] 37) = w7 at *
  generalize w6.heap.size = tb at *
  have x0 := cell_of (H7.out.own (show (tb, Obj.cells #[.int .u8 5, .int .i64 2] 37 (0, 0)) ∈ _ by simp)) 0 _ rfl
  have x1 := cell_of (H7.out.own (show (tb, Obj.cells #[.int .u8 5, .int .i64 2] 37 (0, 0)) ∈ _ by simp)) 1 _ rfl
  have y0 := cell_of (H7.out.own (show (ab, Obj.cells #[.int .u8 4, .int .i64 1] 37 (0, 0)) ∈ _ by simp)) 0 _ rfl
  have y1 := cell_of (H7.out.own (show (ab, Obj.cells #[.int .u8 4, .int .i64 1] 37 (0, 0)) ∈ _ by simp)) 1 _ rfl
  go_wp2_with fail
  clear x0 x1
  clear y0 y1
  refine (show Calls _ 20 #[.pointer (some ⟨b, 0, none⟩), .agg #[.int .u8 5, .int .i64 2], .agg #[.int .u8 3, .int .i64 1], .agg #[.int .u8 4, .int .i64 1]] _ (Goes HP w b m4 [(tb, Obj.cells #[.int .u8 5, .int .i64 2] 37 (0, 0)), (bb, Obj.cells #[.int .u8 4, .int .i64 1] 37 (0, 0)), (ab, Obj.cells #[.int .u8 4, .int .i64 1] 37 (0, 0))] (.int .i64 0)) from by
    have h := H7.out.chg (fun hp => H.set ⟨5, 2⟩ (numV 1) ⟨4, 1⟩ hp (in_hv _ _ (by decide) (by decide) (by decide)) (in_hv _ _ (by decide) (by decide) (by decide)) (in_hv _ _ (by decide) (by decide) (by decide)))
    rw [s4] at h
    exact h).mono ?_
  rintro e w8 ⟨rfl, h8⟩
  have H8 := Lib.hid h8
  clear h8
  go_wp2_with fail
  refine (show Calls _ 38 #[.pointer (some ⟨b, 0, none⟩)] _ (Goes HP w b m4 [(tb, Obj.cells #[.int .u8 5, .int .i64 2] 37 (0, 0)), (bb, Obj.cells #[.int .u8 4, .int .i64 1] 37 (0, 0)), (ab, Obj.cells #[.int .u8 4, .int .i64 1] 37 (0, 0))] (.int .i64 5)) from by
    have h := H8.out.tell H (fun hp => H.used hp)
    rw [s4u] at h
    exact h).mono ?_
  rintro e w9 ⟨rfl, h9⟩
  have H9 := Lib.hid h9
  clear h9
  go_wp2_with fail
  refine (show Calls _ 16 #[.pointer (some ⟨b, 0, none⟩), .agg #[.int .u8 3, .int .i64 5]] _ (Goes HP w b m5 [(tb, Obj.cells #[.int .u8 5, .int .i64 2] 37 (0, 0)), (bb, Obj.cells #[.int .u8 4, .int .i64 1] 37 (0, 0)), (ab, Obj.cells #[.int .u8 4, .int .i64 1] 37 (0, 0))] (.tuple #[.agg #[.int .u8 9, .int .i64 3], .int .i64 0])) from by
    have h := H9.out.chg (fun hp => H.cell (numV 5) hp (in_hv _ _ (by decide) (by decide) (by decide)))
    rw [s5] at h
    exact h).mono ?_
  rintro e w10 ⟨rfl, h10⟩
  have H10 := Lib.hid h10
  clear h10
  have ha := H10.out.alloc H (Obj.cells #[.int .u8 9, .int .i64 3] 37 (0, 0))
  have H11 := Lib.hid ha
  clear ha
  go_upto_region 10 with fail
  generalize w10.alloc (Obj.cells #[.int .u8 9, .int .i64 3] 37) = w11 at *
  generalize w10.heap.size = cb at *
  have x0 := cell_of (H11.out.own (show (tb, Obj.cells #[.int .u8 5, .int .i64 2] 37 (0, 0)) ∈ _ by simp)) 0 _ rfl
  have x1 := cell_of (H11.out.own (show (tb, Obj.cells #[.int .u8 5, .int .i64 2] 37 (0, 0)) ∈ _ by simp)) 1 _ rfl
  go_wp2_with fail
  clear x0 x1
  refine (show Calls _ 47 #[.pointer (some ⟨b, 0, none⟩), .agg #[.int .u8 5, .int .i64 2]] _ (Lists HP w b m5 [(cb, Obj.cells #[.int .u8 9, .int .i64 3] 37 (0, 0)), (tb, Obj.cells #[.int .u8 5, .int .i64 2] 37 (0, 0)), (bb, Obj.cells #[.int .u8 4, .int .i64 1] 37 (0, 0)), (ab, Obj.cells #[.int .u8 4, .int .i64 1] 37 (0, 0))] [⟨4, 1⟩]) from by
    have h := H11.out.list H (fun hp => H.kids ⟨5, 2⟩ hp (in_hv _ _ (by decide) (by decide) (by decide)) (by decide))
    rw [s5k] at h
    exact h).mono ?_
  rintro e w12 ⟨kv, Kl, rfl, ⟨kao, kcap, rfl, ⟨hkl, _⟩, hkx⟩, h12⟩
  obtain ⟨kg, koff, ko, hkm, rfl, hkc⟩ := hkx (by simp)
  have H12 := Lib.hid (show HpAt HP w b m5 ((kg, ko) :: [(cb, Obj.cells #[.int .u8 9, .int .i64 3] 37 (0, 0)), (tb, Obj.cells #[.int .u8 5, .int .i64 2] 37 (0, 0)), (bb, Obj.cells #[.int .u8 4, .int .i64 1] 37 (0, 0)), (ab, Obj.cells #[.int .u8 4, .int .i64 1] 37 (0, 0))]) w12 from h12.fewer (fun p hp => by
    rcases List.mem_cons.1 hp with e | hp
    · rw [e]; exact List.mem_append_left _ hkm
    · exact List.mem_append_right _ hp))
  have HKC := Lib.hid hkc
  clear h12 hkx hkm hkc hkl
  obtain ⟨MC, hMC⟩ : ∃ MC, MC = madeCells #[Value.int .u8 0] 80 := ⟨_, rfl⟩
  have hmk : ∀ W : World, (Instr.makeSlice 85 (.int .i64 80) (.int .i64 80)).run Tryz.prog W = .ok (.slice (some ⟨W.heap.size, 0, none⟩) 80 80) (W.alloc (.cells MC 5)) := fun W => by
    rw [hMC]
    exact run_make_row' (P := Tryz.prog) 85 5 (.int .u8 0) 1 Tryz.underlying85 infoByte rfl .i64 .i64 80 (by decide) (by decide) W
  have hcv : ∀ W : World, (convert 85 9 (.slice (some ⟨W.heap.size, 0, none⟩) 80 80)).run Tryz.prog (W.alloc (.cells MC 5)) = .ok (.string t80) (W.alloc (.cells MC 5)) := fun W => conv80 W MC hMC
  have HAL := Lib.hid (H12.out.below H ((Below.refl _ _).alloc (Nat.le_refl _) (.cells MC 5)))
  clear hMC
  go_wp2_with fail
  clear hmk hcv
  refine (show Calls _ 10 #[.pointer (some ⟨b, 0, none⟩), .string t80] _ (Goes HP w b m6 ((kg, ko) :: [(cb, Obj.cells #[.int .u8 9, .int .i64 3] 37 (0, 0)), (tb, Obj.cells #[.int .u8 5, .int .i64 2] 37 (0, 0)), (bb, Obj.cells #[.int .u8 4, .int .i64 1] 37 (0, 0)), (ab, Obj.cells #[.int .u8 4, .int .i64 1] 37 (0, 0))]) (.tuple #[.agg #[.int .u8 0, .int .i64 0], .int .i64 152])) from by
    have h := HAL.out.chg (fun hp => H.str t80 hp)
    rw [s6] at h
    exact h).mono ?_
  rintro e w13 ⟨rfl, h13⟩
  have H13 := Lib.hid h13
  clear h13
  have ha := H13.out.alloc H (Obj.cells #[.int .u8 0, .int .i64 0] 37 (0, 0))
  have H14 := Lib.hid ha
  clear ha
  go_upto_region 12 with fail
  generalize w13.alloc (Obj.cells #[.int .u8 0, .int .i64 0] 37) = w14 at *
  generalize w13.heap.size = zb at *
  have x0 := cell_of (H14.out.own (show (ab, Obj.cells #[.int .u8 4, .int .i64 1] 37 (0, 0)) ∈ _ by simp)) 0 _ rfl
  have x1 := cell_of (H14.out.own (show (ab, Obj.cells #[.int .u8 4, .int .i64 1] 37 (0, 0)) ∈ _ by simp)) 1 _ rfl
  go_wp2_with fail
  clear x0 x1
  refine (show Calls _ 26 #[.pointer (some ⟨b, 0, none⟩), .agg #[.int .u8 4, .int .i64 1]] _ (Goes HP w b m7 ((zb, Obj.cells #[.int .u8 0, .int .i64 0] 37 (0, 0)) :: (kg, ko) :: [(cb, Obj.cells #[.int .u8 9, .int .i64 3] 37 (0, 0)), (tb, Obj.cells #[.int .u8 5, .int .i64 2] 37 (0, 0)), (bb, Obj.cells #[.int .u8 4, .int .i64 1] 37 (0, 0)), (ab, Obj.cells #[.int .u8 4, .int .i64 1] 37 (0, 0))]) (.int .i64 0)) from by
    have h := H14.out.chg (fun hp => H.free ⟨4, 1⟩ hp (in_hv _ _ (by decide) (by decide) (by decide)))
    rw [s7] at h
    exact h).mono ?_
  rintro e w15 ⟨rfl, h15⟩
  have H15 := Lib.hid h15
  clear h15
  go_wp2_with fail
  refine (show Calls _ 10 #[.pointer (some ⟨b, 0, none⟩), .string tC] _ (Goes HP w b m8 ((zb, Obj.cells #[.int .u8 0, .int .i64 0] 37 (0, 0)) :: (kg, ko) :: [(cb, Obj.cells #[.int .u8 9, .int .i64 3] 37 (0, 0)), (tb, Obj.cells #[.int .u8 5, .int .i64 2] 37 (0, 0)), (bb, Obj.cells #[.int .u8 4, .int .i64 1] 37 (0, 0)), (ab, Obj.cells #[.int .u8 4, .int .i64 1] 37 (0, 0))]) (.tuple #[.agg #[.int .u8 4, .int .i64 1], .int .i64 0])) from by
    have h := H15.out.chg (fun hp => H.str tC hp)
    rw [s8] at h
    exact h).mono ?_
  rintro e w16 ⟨rfl, h16⟩
  have H16 := Lib.hid h16
  clear h16
  have ha := H16.out.alloc H (Obj.cells #[.int .u8 4, .int .i64 1] 37 (0, 0))
  have H17 := Lib.hid ha
  clear ha
  go_upto_region 14 with fail
  generalize w16.alloc (Obj.cells #[.int .u8 4, .int .i64 1] 37) = w17 at *
  generalize w16.heap.size = db at *
  have HS := Lib.hid (show ∀ w', HpAt HP w b m8 ((db, Obj.cells #[.int .u8 4, .int .i64 1] 37 (0, 0)) :: (zb, Obj.cells #[.int .u8 0, .int .i64 0] 37 (0, 0)) :: (kg, ko) :: [(cb, Obj.cells #[.int .u8 9, .int .i64 3] 37 (0, 0)), (tb, Obj.cells #[.int .u8 5, .int .i64 2] 37 (0, 0)), (bb, Obj.cells #[.int .u8 4, .int .i64 1] 37 (0, 0)), (ab, Obj.cells #[.int .u8 4, .int .i64 1] 37 (0, 0))]) w' → (w'.cell? ⟨ab, 0, none⟩ = some (.int .u8 4) ∧ w'.cell? ⟨ab, 1, none⟩ = some (.int .i64 1)) ∧ (w'.cell? ⟨bb, 0, none⟩ = some (.int .u8 4) ∧ w'.cell? ⟨bb, 1, none⟩ = some (.int .i64 1)) ∧ (w'.cell? ⟨tb, 0, none⟩ = some (.int .u8 5) ∧ w'.cell? ⟨tb, 1, none⟩ = some (.int .i64 2)) ∧ (w'.cell? ⟨cb, 0, none⟩ = some (.int .u8 9) ∧ w'.cell? ⟨cb, 1, none⟩ = some (.int .i64 3)) ∧ (w'.cell? ⟨db, 0, none⟩ = some (.int .u8 4) ∧ w'.cell? ⟨db, 1, none⟩ = some (.int .i64 1)) ∧ (w'.cell? ⟨kg, koff, none⟩ = some (.int .u8 4) ∧ w'.cell? ⟨kg, koff + 1, none⟩ = some (.int .i64 1)) from fun w' h => ⟨⟨cell_of (h.own (show (ab, Obj.cells #[.int .u8 4, .int .i64 1] 37 (0, 0)) ∈ _ by simp)) 0 _ rfl, cell_of (h.own (show (ab, Obj.cells #[.int .u8 4, .int .i64 1] 37 (0, 0)) ∈ _ by simp)) 1 _ rfl⟩, ⟨cell_of (h.own (show (bb, Obj.cells #[.int .u8 4, .int .i64 1] 37 (0, 0)) ∈ _ by simp)) 0 _ rfl, cell_of (h.own (show (bb, Obj.cells #[.int .u8 4, .int .i64 1] 37 (0, 0)) ∈ _ by simp)) 1 _ rfl⟩, ⟨cell_of (h.own (show (tb, Obj.cells #[.int .u8 5, .int .i64 2] 37 (0, 0)) ∈ _ by simp)) 0 _ rfl, cell_of (h.own (show (tb, Obj.cells #[.int .u8 5, .int .i64 2] 37 (0, 0)) ∈ _ by simp)) 1 _ rfl⟩, ⟨cell_of (h.own (show (cb, Obj.cells #[.int .u8 9, .int .i64 3] 37 (0, 0)) ∈ _ by simp)) 0 _ rfl, cell_of (h.own (show (cb, Obj.cells #[.int .u8 9, .int .i64 3] 37 (0, 0)) ∈ _ by simp)) 1 _ rfl⟩, ⟨cell_of (h.own (show (db, Obj.cells #[.int .u8 4, .int .i64 1] 37 (0, 0)) ∈ _ by simp)) 0 _ rfl, cell_of (h.own (show (db, Obj.cells #[.int .u8 4, .int .i64 1] 37 (0, 0)) ∈ _ by simp)) 1 _ rfl⟩, by
    have h2 := HKC.out w' (h.own (show (kg, ko) ∈ _ by simp)) 0 (by simp)
    simpa using h2⟩)
  have HD := Lib.hid (H17.out.below H ((Below.refl w17.heap.size w17).drew))
  have hfd : ∀ w : World, (Instr.field 37 (.agg #[.int .u8 3, .int .i64 5]) 1).run Tryz.prog w = .ok (.int .i64 5) w := fun _ => by kernel_rfl
  simp only [List.append_eq, List.cons_append, List.nil_append]
  refine wp_region_held_drew (S := fun w' => (w'.cell? ⟨ab, 0, none⟩ = some (.int .u8 4) ∧ w'.cell? ⟨ab, 1, none⟩ = some (.int .i64 1)) ∧ (w'.cell? ⟨bb, 0, none⟩ = some (.int .u8 4) ∧ w'.cell? ⟨bb, 1, none⟩ = some (.int .i64 1)) ∧ (w'.cell? ⟨tb, 0, none⟩ = some (.int .u8 5) ∧ w'.cell? ⟨tb, 1, none⟩ = some (.int .i64 2)) ∧ (w'.cell? ⟨cb, 0, none⟩ = some (.int .u8 9) ∧ w'.cell? ⟨cb, 1, none⟩ = some (.int .i64 3)) ∧ (w'.cell? ⟨db, 0, none⟩ = some (.int .u8 4) ∧ w'.cell? ⟨db, 1, none⟩ = some (.int .i64 1)) ∧ (w'.cell? ⟨kg, koff, none⟩ = some (.int .u8 4) ∧ w'.cell? ⟨kg, koff + 1, none⟩ = some (.int .i64 1))) mixed (HS.out _ HD.out) (fun hS => ?_)
  refine wpAnyH_take (i := 0) (v := ?va0) rfl (by kernel_rfl) (by kernel_rfl) (by kernel_rfl) (fun _ _ _ h => h) (.inl ⟨by rfl, ?ha0⟩) hS ?ra0
  case ha0 =>
    intro w' hs
    (try dsimp only at hs)
    go_split_ands
    go_simp
    try with_reducible rfl
  simp only [List.getElem_toArray, List.getElem_cons_zero, Act.put, List.setIfInBounds_toArray, List.set_cons_zero, List.set_cons_succ]
  refine wpAnyH_take (i := 1) (v := ?va1) rfl (by kernel_rfl) (by kernel_rfl) (by kernel_rfl) (fun _ _ _ h => h) (.inl ⟨by rfl, ?ha1⟩) hS ?ra1
  case ha1 =>
    intro w' hs
    (try dsimp only at hs)
    go_split_ands
    go_simp
    try with_reducible rfl
  simp only [List.getElem_toArray, List.getElem_cons_succ, List.getElem_cons_zero, Act.put, List.setIfInBounds_toArray, List.set_cons_zero, List.set_cons_succ]
  refine wpAnyH_take (i := 2) (v := ?va2) rfl (by kernel_rfl) (by kernel_rfl) (by kernel_rfl) (fun _ _ _ h => h) (.inl ⟨by rfl, ?ha2⟩) hS ?ra2
  case ha2 =>
    intro w' hs
    (try dsimp only at hs)
    go_split_ands
    go_simp
    try with_reducible rfl
  simp only [List.getElem_toArray, List.getElem_cons_succ, List.getElem_cons_zero, Act.put, List.setIfInBounds_toArray, List.set_cons_zero, List.set_cons_succ]
  refine wpAnyH_take (i := 3) (v := ?va3) rfl (by kernel_rfl) (by kernel_rfl) (by kernel_rfl) (fun _ _ _ h => h) (.inl ⟨by rfl, ?ha3⟩) hS ?ra3
  case ha3 =>
    intro w' hs
    (try dsimp only at hs)
    go_split_ands
    go_simp
    try with_reducible rfl
  simp only [List.getElem_toArray, List.getElem_cons_succ, List.getElem_cons_zero, Act.put, List.setIfInBounds_toArray, List.set_cons_zero, List.set_cons_succ]
  refine wpAnyH_take (i := 4) (v := ?va4) rfl (by kernel_rfl) (by kernel_rfl) (by kernel_rfl) (fun _ _ _ h => h) (.inl ⟨by rfl, ?ha4⟩) hS ?ra4
  case ha4 =>
    intro w' hs
    (try dsimp only at hs)
    go_split_ands
    go_simp
    try with_reducible rfl
  simp only [List.getElem_toArray, List.getElem_cons_succ, List.getElem_cons_zero, Act.put, List.setIfInBounds_toArray, List.set_cons_zero, List.set_cons_succ]
  refine wpAnyH_take (i := 5) (v := ?va5) rfl (by kernel_rfl) (by kernel_rfl) (by kernel_rfl) (fun _ _ _ h => h) (.inl ⟨by rfl, ?ha5⟩) hS ?ra5
  case ha5 =>
    intro w' hs
    (try dsimp only at hs)
    go_split_ands
    go_simp
    try with_reducible rfl
  simp only [List.getElem_toArray, List.getElem_cons_succ, List.getElem_cons_zero, Act.put, List.setIfInBounds_toArray, List.set_cons_zero, List.set_cons_succ]
  refine wpAnyH_take (i := 6) (v := ?va6) rfl (by kernel_rfl) (by kernel_rfl) (by kernel_rfl) (fun _ _ _ h => h) (.inl ⟨by rfl, ?ha6⟩) hS ?ra6
  case ha6 =>
    intro w' hs
    (try dsimp only at hs)
    go_split_ands
    go_simp
    try with_reducible rfl
  simp only [List.getElem_toArray, List.getElem_cons_succ, List.getElem_cons_zero, Act.put, List.setIfInBounds_toArray, List.set_cons_zero, List.set_cons_succ]
  refine wpAnyH_take (i := 7) (v := ?va7) rfl (by kernel_rfl) (by kernel_rfl) (by kernel_rfl) (fun _ _ _ h => h) (.inl ⟨by rfl, ?ha7⟩) hS ?ra7
  case ha7 =>
    intro w' hs
    (try dsimp only at hs)
    go_split_ands
    go_simp
    try with_reducible rfl
  simp only [List.getElem_toArray, List.getElem_cons_succ, List.getElem_cons_zero, Act.put, List.setIfInBounds_toArray, List.set_cons_zero, List.set_cons_succ]
  refine wpAnyH_take (i := 8) (v := ?va8) rfl (by kernel_rfl) (by kernel_rfl) (by kernel_rfl) (fun _ _ _ h => h) (.inl ⟨by rfl, ?ha8⟩) hS ?ra8
  case ha8 =>
    intro w' hs
    (try dsimp only at hs)
    go_split_ands
    go_simp
    try with_reducible rfl
  simp only [List.getElem_toArray, List.getElem_cons_succ, List.getElem_cons_zero, Act.put, List.setIfInBounds_toArray, List.set_cons_zero, List.set_cons_succ]
  refine wpAnyH_take (i := 9) (v := ?va9) rfl (by kernel_rfl) (by kernel_rfl) (by kernel_rfl) (fun _ _ _ h => h) (.inl ⟨by rfl, ?ha9⟩) hS ?ra9
  case ha9 =>
    intro w' hs
    (try dsimp only at hs)
    go_split_ands
    go_simp
    try with_reducible rfl
  simp only [List.getElem_toArray, List.getElem_cons_succ, List.getElem_cons_zero, Act.put, List.setIfInBounds_toArray, List.set_cons_zero, List.set_cons_succ]
  refine wpAnyH_take (i := 10) (v := ?va10) rfl (by kernel_rfl) (by kernel_rfl) (by kernel_rfl) (fun _ _ _ h => h) (.inl ⟨by rfl, ?ha10⟩) hS ?ra10
  case ha10 =>
    intro w' hs
    (try dsimp only at hs)
    go_split_ands
    go_simp
    try with_reducible rfl
  simp only [List.getElem_toArray, List.getElem_cons_succ, List.getElem_cons_zero, Act.put, List.setIfInBounds_toArray, List.set_cons_zero, List.set_cons_succ]
  refine wpAnyH_take (i := 11) (v := ?va11) rfl (by kernel_rfl) (by kernel_rfl) (by kernel_rfl) (fun _ _ _ h => h) (.inl ⟨by rfl, ?ha11⟩) hS ?ra11
  case ha11 =>
    intro w' hs
    (try dsimp only at hs)
    go_split_ands
    go_simp
    try with_reducible rfl
  simp only [List.getElem_toArray, List.getElem_cons_succ, List.getElem_cons_zero, Act.put, List.setIfInBounds_toArray, List.set_cons_zero, List.set_cons_succ]
  refine wpAnyH_take (i := 12) (v := ?va12) rfl (by kernel_rfl) (by kernel_rfl) (by kernel_rfl) (fun _ _ _ h => h) (.inl ⟨by rfl, ?ha12⟩) hS ?ra12
  case ha12 =>
    intro w' hs
    (try dsimp only at hs)
    go_split_ands
    go_simp
    try with_reducible rfl
  simp only [List.getElem_toArray, List.getElem_cons_succ, List.getElem_cons_zero, Act.put, List.setIfInBounds_toArray, List.set_cons_zero, List.set_cons_succ]
  refine wpAnyH_take (i := 13) (v := ?va13) rfl (by kernel_rfl) (by kernel_rfl) (by kernel_rfl) (fun _ _ _ h => h) (.inl ⟨by rfl, ?ha13⟩) hS ?ra13
  case ha13 =>
    intro w' hs
    (try dsimp only at hs)
    go_split_ands
    go_simp
    try with_reducible rfl
  simp only [List.getElem_toArray, List.getElem_cons_succ, List.getElem_cons_zero, Act.put, List.setIfInBounds_toArray, List.set_cons_zero, List.set_cons_succ]
  refine wpAnyH_take (i := 14) (v := ?va14) rfl (by kernel_rfl) (by kernel_rfl) (by kernel_rfl) (fun _ _ _ h => h) (.inl ⟨by rfl, ?ha14⟩) hS ?ra14
  case ha14 =>
    intro w' hs
    (try dsimp only at hs)
    go_split_ands
    go_simp
    try with_reducible rfl
  simp only [List.getElem_toArray, List.getElem_cons_succ, List.getElem_cons_zero, Act.put, List.setIfInBounds_toArray, List.set_cons_zero, List.set_cons_succ]
  refine wpAnyH_take (i := 15) (v := ?va15) rfl (by kernel_rfl) (by kernel_rfl) (by kernel_rfl) (fun _ _ _ h => h) (.inl ⟨by rfl, ?ha15⟩) hS ?ra15
  case ha15 =>
    intro w' hs
    (try dsimp only at hs)
    go_split_ands
    go_simp
    try with_reducible rfl
  simp only [List.getElem_toArray, List.getElem_cons_succ, List.getElem_cons_zero, Act.put, List.setIfInBounds_toArray, List.set_cons_zero, List.set_cons_succ]
  refine wpAnyH_take (i := 16) (v := ?va16) rfl (by kernel_rfl) (by kernel_rfl) (by kernel_rfl) (fun _ _ _ h => h) (.inl ⟨by rfl, ?ha16⟩) hS ?ra16
  case ha16 =>
    intro w' hs
    (try dsimp only at hs)
    go_split_ands
    go_simp
    try with_reducible rfl
  simp only [List.getElem_toArray, List.getElem_cons_succ, List.getElem_cons_zero, Act.put, List.setIfInBounds_toArray, List.set_cons_zero, List.set_cons_succ]
  refine wpAnyH_take (i := 17) (v := ?va17) rfl (by kernel_rfl) (by kernel_rfl) (by kernel_rfl) (fun _ _ _ h => h) (.inl ⟨by rfl, ?ha17⟩) hS ?ra17
  case ha17 =>
    intro w' hs
    (try dsimp only at hs)
    go_split_ands
    go_simp
    try with_reducible rfl
  simp only [List.getElem_toArray, List.getElem_cons_succ, List.getElem_cons_zero, Act.put, List.setIfInBounds_toArray, List.set_cons_zero, List.set_cons_succ]
  refine wpAnyH_take (i := 18) (v := ?va18) rfl (by kernel_rfl) (by kernel_rfl) (by kernel_rfl) (fun _ _ _ h => h) (.inl ⟨by rfl, ?ha18⟩) hS ?ra18
  case ha18 =>
    intro w' hs
    (try dsimp only at hs)
    go_split_ands
    go_simp
    try with_reducible rfl
  simp only [List.getElem_toArray, List.getElem_cons_succ, List.getElem_cons_zero, Act.put, List.setIfInBounds_toArray, List.set_cons_zero, List.set_cons_succ]
  refine wpAnyH_take (i := 19) (v := ?va19) rfl (by kernel_rfl) (by kernel_rfl) (by kernel_rfl) (fun _ _ _ h => h) (.inl ⟨by rfl, ?ha19⟩) hS ?ra19
  case ha19 =>
    intro w' hs
    (try dsimp only at hs)
    go_split_ands
    go_simp
    try with_reducible rfl
  simp only [List.getElem_toArray, List.getElem_cons_succ, List.getElem_cons_zero, Act.put, List.setIfInBounds_toArray, List.set_cons_zero, List.set_cons_succ]
  refine wpAnyH_take (i := 20) (v := ?va20) rfl (by kernel_rfl) (by kernel_rfl) (by kernel_rfl) (fun _ _ _ h => h) (.inl ⟨by rfl, ?ha20⟩) hS ?ra20
  case ha20 =>
    intro w' hs
    (try dsimp only at hs)
    go_split_ands
    go_simp
    try with_reducible rfl
  simp only [List.getElem_toArray, List.getElem_cons_succ, List.getElem_cons_zero, Act.put, List.setIfInBounds_toArray, List.set_cons_zero, List.set_cons_succ]
  refine wpAnyH_take (i := 21) (v := ?va21) rfl (by kernel_rfl) (by kernel_rfl) (by kernel_rfl) (fun _ _ _ h => h) (.inl ⟨by rfl, ?ha21⟩) hS ?ra21
  case ha21 =>
    intro w' hs
    (try dsimp only at hs)
    go_split_ands
    go_simp
    try with_reducible rfl
  simp only [List.getElem_toArray, List.getElem_cons_succ, List.getElem_cons_zero, Act.put, List.setIfInBounds_toArray, List.set_cons_zero, List.set_cons_succ]
  refine wpAnyH_take (i := 22) (v := ?va22) rfl (by kernel_rfl) (by kernel_rfl) (by kernel_rfl) (fun _ _ _ h => h) (.inl ⟨by rfl, ?ha22⟩) hS ?ra22
  case ha22 =>
    intro w' hs
    (try dsimp only at hs)
    go_split_ands
    go_simp
    try with_reducible rfl
  simp only [List.getElem_toArray, List.getElem_cons_succ, List.getElem_cons_zero, Act.put, List.setIfInBounds_toArray, List.set_cons_zero, List.set_cons_succ]
  refine wpAnyH_take (i := 23) (v := ?va23) rfl (by kernel_rfl) (by kernel_rfl) (by kernel_rfl) (fun _ _ _ h => h) (.inl ⟨by rfl, ?ha23⟩) hS ?ra23
  case ha23 =>
    intro w' hs
    (try dsimp only at hs)
    go_split_ands
    go_simp
    try with_reducible rfl
  simp only [List.getElem_toArray, List.getElem_cons_succ, List.getElem_cons_zero, Act.put, List.setIfInBounds_toArray, List.set_cons_zero, List.set_cons_succ]
  refine wpAnyH_take (i := 24) (v := ?va24) rfl (by kernel_rfl) (by kernel_rfl) (by kernel_rfl) (fun _ _ _ h => h) (.inl ⟨by rfl, ?ha24⟩) hS ?ra24
  case ha24 =>
    intro w' hs
    (try dsimp only at hs)
    go_split_ands
    go_simp
    try with_reducible rfl
  simp only [List.getElem_toArray, List.getElem_cons_succ, List.getElem_cons_zero, Act.put, List.setIfInBounds_toArray, List.set_cons_zero, List.set_cons_succ]
  refine wpAnyH_take (i := 25) (v := ?va25) rfl (by kernel_rfl) (by kernel_rfl) (by kernel_rfl) (fun _ _ _ h => h) (.inl ⟨by rfl, ?ha25⟩) hS ?ra25
  case ha25 =>
    intro w' hs
    (try dsimp only at hs)
    go_split_ands
    go_simp
    try with_reducible rfl
  simp only [List.getElem_toArray, List.getElem_cons_succ, List.getElem_cons_zero, Act.put, List.setIfInBounds_toArray, List.set_cons_zero, List.set_cons_succ]
  refine wpAnyH_take (i := 26) (v := ?va26) rfl (by kernel_rfl) (by kernel_rfl) (by kernel_rfl) (fun _ _ _ h => h) (.inl ⟨by rfl, ?ha26⟩) hS ?ra26
  case ha26 =>
    intro w' hs
    (try dsimp only at hs)
    go_split_ands
    go_simp
    try with_reducible rfl
  simp only [List.getElem_toArray, List.getElem_cons_succ, List.getElem_cons_zero, Act.put, List.setIfInBounds_toArray, List.set_cons_zero, List.set_cons_succ]
  refine wpAnyH_take (i := 27) (v := ?va27) rfl (by kernel_rfl) (by kernel_rfl) (by kernel_rfl) (fun _ _ _ h => h) (.inl ⟨by rfl, ?ha27⟩) hS ?ra27
  case ha27 =>
    intro w' hs
    (try dsimp only at hs)
    go_split_ands
    go_simp
    try with_reducible rfl
  simp only [List.getElem_toArray, List.getElem_cons_succ, List.getElem_cons_zero, Act.put, List.setIfInBounds_toArray, List.set_cons_zero, List.set_cons_succ]
  refine wpAnyH_take (i := 28) (v := ?va28) rfl (by kernel_rfl) (by kernel_rfl) (by kernel_rfl) (fun _ _ _ h => h) (.inl ⟨by rfl, ?ha28⟩) hS ?ra28
  case ha28 =>
    intro w' hs
    (try dsimp only at hs)
    go_split_ands
    go_simp
    try with_reducible rfl
  simp only [List.getElem_toArray, List.getElem_cons_succ, List.getElem_cons_zero, Act.put, List.setIfInBounds_toArray, List.set_cons_zero, List.set_cons_succ]
  refine wpAnyH_take (i := 29) (v := ?va29) rfl (by kernel_rfl) (by kernel_rfl) (by kernel_rfl) (fun _ _ _ h => h) (.inl ⟨by rfl, ?ha29⟩) hS ?ra29
  case ha29 =>
    intro w' hs
    (try dsimp only at hs)
    go_split_ands
    go_simp
    try with_reducible rfl
  simp only [List.getElem_toArray, List.getElem_cons_succ, List.getElem_cons_zero, Act.put, List.setIfInBounds_toArray, List.set_cons_zero, List.set_cons_succ]
  refine wpAnyH_take (i := 30) (v := ?va30) rfl (by kernel_rfl) (by kernel_rfl) (by kernel_rfl) (fun _ _ _ h => h) (.inl ⟨by rfl, ?ha30⟩) hS ?ra30
  case ha30 =>
    intro w' hs
    (try dsimp only at hs)
    go_split_ands
    go_simp
    try with_reducible rfl
  simp only [List.getElem_toArray, List.getElem_cons_succ, List.getElem_cons_zero, Act.put, List.setIfInBounds_toArray, List.set_cons_zero, List.set_cons_succ]
  refine wpAnyH_take (i := 31) (v := ?va31) rfl (by kernel_rfl) (by kernel_rfl) (by kernel_rfl) (fun _ _ _ h => h) (.inl ⟨by rfl, ?ha31⟩) hS ?ra31
  case ha31 =>
    intro w' hs
    (try dsimp only at hs)
    go_split_ands
    go_simp
    try with_reducible rfl
  simp only [List.getElem_toArray, List.getElem_cons_succ, List.getElem_cons_zero, Act.put, List.setIfInBounds_toArray, List.set_cons_zero, List.set_cons_succ]
  refine wpAnyH_take (i := 32) (v := ?va32) rfl (by kernel_rfl) (by kernel_rfl) (by kernel_rfl) (fun _ _ _ h => h) (.inl ⟨by rfl, ?ha32⟩) hS ?ra32
  case ha32 =>
    intro w' hs
    (try dsimp only at hs)
    go_split_ands
    go_simp
    try with_reducible rfl
  simp only [List.getElem_toArray, List.getElem_cons_succ, List.getElem_cons_zero, Act.put, List.setIfInBounds_toArray, List.set_cons_zero, List.set_cons_succ]
  refine wpAnyH_ready (rs := [33]) (by kernel_rfl) (by simp) (AllReadyH.cons rfl (fun K hK => ?_) AllReadyH.nil)
  go_simp
  go_at_call 53
  refine (show Calls _ 53 #[.pointer (some ⟨b, 0, none⟩), .agg #[.int .u8 9, .int .i64 3]] _ (Goes HP w b m8 ((db, Obj.cells #[.int .u8 4, .int .i64 1] 37 (0, 0)) :: (zb, Obj.cells #[.int .u8 0, .int .i64 0] 37 (0, 0)) :: (kg, ko) :: [(cb, Obj.cells #[.int .u8 9, .int .i64 3] 37 (0, 0)), (tb, Obj.cells #[.int .u8 5, .int .i64 2] 37 (0, 0)), (bb, Obj.cells #[.int .u8 4, .int .i64 1] 37 (0, 0)), (ab, Obj.cells #[.int .u8 4, .int .i64 1] 37 (0, 0))]) (.agg #[.int .u8 3, .int .i64 5])) from by
    have h := HD.out.tell H (fun hp => H.load ⟨9, 3⟩ hp (in_hv _ _ (by decide) (by decide) (by decide)))
    rw [s8l] at h
    exact h).mono ?_
  rintro e w' ⟨rfl, h'⟩
  have HD1 := Lib.hid h'
  clear h'
  go_wp2_with fail
  refine hK.out _ _ (HS.out _ HD1.out) (fun hS => ?_)
  clear hK
  refine wpAnyH_take (i := 34) (v := ?vb34) rfl (by kernel_rfl) (by kernel_rfl) (by kernel_rfl) (fun _ _ _ h => h) (.inl ⟨by rfl, ?hb34⟩) hS ?rb34
  case hb34 =>
    intro w' hs
    (try dsimp only at hs)
    go_split_ands
    go_simp
    try with_reducible rfl
  simp only [List.getElem_toArray, List.getElem_cons_succ, List.getElem_cons_zero, Act.put, List.setIfInBounds_toArray, List.set_cons_zero, List.set_cons_succ]
  refine wpAnyH_take (i := 35) (v := ?vb35) rfl (by kernel_rfl) (by kernel_rfl) (by kernel_rfl) (fun _ _ _ h => h) (.inl ⟨by rfl, ?hb35⟩) hS ?rb35
  case hb35 =>
    intro w' hs
    (try dsimp only at hs)
    go_split_ands
    go_simp
    try with_reducible rfl
  simp only [List.getElem_toArray, List.getElem_cons_succ, List.getElem_cons_zero, Act.put, List.setIfInBounds_toArray, List.set_cons_zero, List.set_cons_succ]
  refine wpAnyH_take (i := 36) (v := ?vb36) rfl (by kernel_rfl) (by kernel_rfl) (by kernel_rfl) (fun _ _ _ h => h) (.inl ⟨by rfl, ?hb36⟩) hS ?rb36
  case hb36 =>
    intro w' hs
    (try dsimp only at hs)
    go_split_ands
    go_simp
    try with_reducible rfl
  simp only [List.getElem_toArray, List.getElem_cons_succ, List.getElem_cons_zero, Act.put, List.setIfInBounds_toArray, List.set_cons_zero, List.set_cons_succ]
  refine wpAnyH_take (i := 37) (v := ?vb37) rfl (by kernel_rfl) (by kernel_rfl) (by kernel_rfl) (fun _ _ _ h => h) (.inl ⟨by rfl, ?hb37⟩) hS ?rb37
  case hb37 =>
    intro w' hs
    (try dsimp only at hs)
    go_split_ands
    go_simp
    try with_reducible rfl
  simp only [List.getElem_toArray, List.getElem_cons_succ, List.getElem_cons_zero, Act.put, List.setIfInBounds_toArray, List.set_cons_zero, List.set_cons_succ]
  refine wpAnyH_take (i := 38) (v := ?vb38) rfl (by kernel_rfl) (by kernel_rfl) (by kernel_rfl) (fun _ _ _ h => h) (.inl ⟨by rfl, ?hb38⟩) hS ?rb38
  case hb38 =>
    intro w' hs
    (try dsimp only at hs)
    go_split_ands
    go_simp
    try with_reducible rfl
  simp only [List.getElem_toArray, List.getElem_cons_succ, List.getElem_cons_zero, Act.put, List.setIfInBounds_toArray, List.set_cons_zero, List.set_cons_succ]
  refine wpAnyH_take (i := 39) (v := ?vb39) rfl (by kernel_rfl) (by kernel_rfl) (by kernel_rfl) (fun _ _ _ h => h) (.inl ⟨by rfl, ?hb39⟩) hS ?rb39
  case hb39 =>
    intro w' hs
    (try dsimp only at hs)
    go_split_ands
    go_simp
    try with_reducible rfl
  simp only [List.getElem_toArray, List.getElem_cons_succ, List.getElem_cons_zero, Act.put, List.setIfInBounds_toArray, List.set_cons_zero, List.set_cons_succ]
  refine wpAnyH_take (i := 40) (v := ?vb40) rfl (by kernel_rfl) (by kernel_rfl) (by kernel_rfl) (fun _ _ _ h => h) (.inl ⟨by rfl, ?hb40⟩) hS ?rb40
  case hb40 =>
    intro w' hs
    (try dsimp only at hs)
    go_split_ands
    go_simp
    try with_reducible rfl
  simp only [List.getElem_toArray, List.getElem_cons_succ, List.getElem_cons_zero, Act.put, List.setIfInBounds_toArray, List.set_cons_zero, List.set_cons_succ]
  refine wpAnyH_take (i := 41) (v := ?vb41) rfl (by kernel_rfl) (by kernel_rfl) (by kernel_rfl) (fun _ _ _ h => h) (.inl ⟨by rfl, ?hb41⟩) hS ?rb41
  case hb41 =>
    intro w' hs
    (try dsimp only at hs)
    go_split_ands
    go_simp
    try with_reducible rfl
  simp only [List.getElem_toArray, List.getElem_cons_succ, List.getElem_cons_zero, Act.put, List.setIfInBounds_toArray, List.set_cons_zero, List.set_cons_succ]
  refine wpAnyH_take (i := 42) (v := ?vb42) rfl (by kernel_rfl) (by kernel_rfl) (by kernel_rfl) (fun _ _ _ h => h) (.inl ⟨by rfl, ?hb42⟩) hS ?rb42
  case hb42 =>
    intro w' hs
    (try dsimp only at hs)
    go_split_ands
    go_simp
    try with_reducible rfl
  simp only [List.getElem_toArray, List.getElem_cons_succ, List.getElem_cons_zero, Act.put, List.setIfInBounds_toArray, List.set_cons_zero, List.set_cons_succ]
  refine wpAnyH_take (i := 43) (v := ?vb43) rfl (by kernel_rfl) (by kernel_rfl) (by kernel_rfl) (fun _ _ _ h => h) (.inl ⟨by rfl, ?hb43⟩) hS ?rb43
  case hb43 =>
    intro w' hs
    (try dsimp only at hs)
    go_split_ands
    go_simp
    try with_reducible rfl
  simp only [List.getElem_toArray, List.getElem_cons_succ, List.getElem_cons_zero, Act.put, List.setIfInBounds_toArray, List.set_cons_zero, List.set_cons_succ]
  refine wpAnyH_take (i := 44) (v := ?vb44) rfl (by kernel_rfl) (by kernel_rfl) (by kernel_rfl) (fun _ _ _ h => h) (.inl ⟨by rfl, ?hb44⟩) hS ?rb44
  case hb44 =>
    intro w' hs
    (try dsimp only at hs)
    go_split_ands
    go_simp
    try with_reducible rfl
  simp only [List.getElem_toArray, List.getElem_cons_succ, List.getElem_cons_zero, Act.put, List.setIfInBounds_toArray, List.set_cons_zero, List.set_cons_succ]
  refine wpAnyH_take (i := 45) (v := ?vb45) rfl (by kernel_rfl) (by kernel_rfl) (by kernel_rfl) (fun _ _ _ h => h) (.inl ⟨by rfl, ?hb45⟩) hS ?rb45
  case hb45 =>
    intro w' hs
    (try dsimp only at hs)
    go_split_ands
    go_simp
    try with_reducible rfl
  simp only [List.getElem_toArray, List.getElem_cons_succ, List.getElem_cons_zero, Act.put, List.setIfInBounds_toArray, List.set_cons_zero, List.set_cons_succ]
  refine wpAnyH_take (i := 46) (v := ?vb46) rfl (by kernel_rfl) (by kernel_rfl) (by kernel_rfl) (fun _ _ _ h => h) (.inl ⟨by rfl, ?hb46⟩) hS ?rb46
  case hb46 =>
    intro w' hs
    (try dsimp only at hs)
    go_split_ands
    go_simp
    try with_reducible rfl
  simp only [List.getElem_toArray, List.getElem_cons_succ, List.getElem_cons_zero, Act.put, List.setIfInBounds_toArray, List.set_cons_zero, List.set_cons_succ]
  refine wpAnyH_take (i := 47) (v := ?vb47) rfl (by kernel_rfl) (by kernel_rfl) (by kernel_rfl) (fun _ _ _ h => h) (.inl ⟨by rfl, ?hb47⟩) hS ?rb47
  case hb47 =>
    intro w' hs
    (try dsimp only at hs)
    go_split_ands
    go_simp
    try with_reducible rfl
  simp only [List.getElem_toArray, List.getElem_cons_succ, List.getElem_cons_zero, Act.put, List.setIfInBounds_toArray, List.set_cons_zero, List.set_cons_succ]
  refine wpAnyH_take (i := 48) (v := ?vb48) rfl (by kernel_rfl) (by kernel_rfl) (by kernel_rfl) (fun _ _ _ h => h) (.inl ⟨by rfl, ?hb48⟩) hS ?rb48
  case hb48 =>
    intro w' hs
    (try dsimp only at hs)
    go_split_ands
    go_simp
    try with_reducible rfl
  simp only [List.getElem_toArray, List.getElem_cons_succ, List.getElem_cons_zero, Act.put, List.setIfInBounds_toArray, List.set_cons_zero, List.set_cons_succ]
  refine wpAnyH_take (i := 49) (v := ?vb49) rfl (by kernel_rfl) (by kernel_rfl) (by kernel_rfl) (fun _ _ _ h => h) (.inl ⟨by rfl, ?hb49⟩) hS ?rb49
  case hb49 =>
    intro w' hs
    (try dsimp only at hs)
    go_split_ands
    go_simp
    try with_reducible rfl
  simp only [List.getElem_toArray, List.getElem_cons_succ, List.getElem_cons_zero, Act.put, List.setIfInBounds_toArray, List.set_cons_zero, List.set_cons_succ]
  refine wpAnyH_take (i := 50) (v := ?vb50) rfl (by kernel_rfl) (by kernel_rfl) (by kernel_rfl) (fun _ _ _ h => h) (.inl ⟨by rfl, ?hb50⟩) hS ?rb50
  case hb50 =>
    intro w' hs
    (try dsimp only at hs)
    go_split_ands
    go_simp
    try with_reducible rfl
  simp only [List.getElem_toArray, List.getElem_cons_succ, List.getElem_cons_zero, Act.put, List.setIfInBounds_toArray, List.set_cons_zero, List.set_cons_succ]
  refine wpAnyH_take (i := 51) (v := ?vb51) rfl (by kernel_rfl) (by kernel_rfl) (by kernel_rfl) (fun _ _ _ h => h) (.inl ⟨by rfl, ?hb51⟩) hS ?rb51
  case hb51 =>
    intro w' hs
    (try dsimp only at hs)
    go_split_ands
    go_simp
    try with_reducible rfl
  simp only [List.getElem_toArray, List.getElem_cons_succ, List.getElem_cons_zero, Act.put, List.setIfInBounds_toArray, List.set_cons_zero, List.set_cons_succ]
  refine wpAnyH_take (i := 52) (v := ?vb52) rfl (by kernel_rfl) (by kernel_rfl) (by kernel_rfl) (fun _ _ _ h => h) (.inl ⟨by rfl, ?hb52⟩) hS ?rb52
  case hb52 =>
    intro w' hs
    (try dsimp only at hs)
    go_split_ands
    go_simp
    try with_reducible rfl
  simp only [List.getElem_toArray, List.getElem_cons_succ, List.getElem_cons_zero, Act.put, List.setIfInBounds_toArray, List.set_cons_zero, List.set_cons_succ]
  refine wpAnyH_take (i := 53) (v := ?vb53) rfl (by kernel_rfl) (by kernel_rfl) (by kernel_rfl) (fun _ _ _ h => h) (.inl ⟨by rfl, ?hb53⟩) hS ?rb53
  case hb53 =>
    intro w' hs
    (try dsimp only at hs)
    go_split_ands
    go_simp
    try with_reducible rfl
  simp only [List.getElem_toArray, List.getElem_cons_succ, List.getElem_cons_zero, Act.put, List.setIfInBounds_toArray, List.set_cons_zero, List.set_cons_succ]
  refine wpAnyH_take (i := 54) (v := ?vb54) rfl (by kernel_rfl) (by kernel_rfl) (by kernel_rfl) (fun _ _ _ h => h) (.inl ⟨by rfl, ?hb54⟩) hS ?rb54
  case hb54 =>
    intro w' hs
    (try dsimp only at hs)
    go_split_ands
    go_simp
    try with_reducible rfl
  simp only [List.getElem_toArray, List.getElem_cons_succ, List.getElem_cons_zero, Act.put, List.setIfInBounds_toArray, List.set_cons_zero, List.set_cons_succ]
  refine wpAnyH_take (i := 55) (v := ?vb55) rfl (by kernel_rfl) (by kernel_rfl) (by kernel_rfl) (fun _ _ _ h => h) (.inl ⟨by rfl, ?hb55⟩) hS ?rb55
  case hb55 =>
    intro w' hs
    (try dsimp only at hs)
    go_split_ands
    go_simp
    try with_reducible rfl
  simp only [List.getElem_toArray, List.getElem_cons_succ, List.getElem_cons_zero, Act.put, List.setIfInBounds_toArray, List.set_cons_zero, List.set_cons_succ]
  refine wpAnyH_take (i := 56) (v := ?vb56) rfl (by kernel_rfl) (by kernel_rfl) (by kernel_rfl) (fun _ _ _ h => h) (.inl ⟨by rfl, ?hb56⟩) hS ?rb56
  case hb56 =>
    intro w' hs
    (try dsimp only at hs)
    go_split_ands
    go_simp
    try with_reducible rfl
  simp only [List.getElem_toArray, List.getElem_cons_succ, List.getElem_cons_zero, Act.put, List.setIfInBounds_toArray, List.set_cons_zero, List.set_cons_succ]
  refine wpAnyH_take (i := 57) (v := ?vb57) rfl (by kernel_rfl) (by kernel_rfl) (by kernel_rfl) (fun _ _ _ h => h) (.inl ⟨by rfl, ?hb57⟩) hS ?rb57
  case hb57 =>
    intro w' hs
    (try dsimp only at hs)
    go_split_ands
    go_simp
    try with_reducible rfl
  simp only [List.getElem_toArray, List.getElem_cons_succ, List.getElem_cons_zero, Act.put, List.setIfInBounds_toArray, List.set_cons_zero, List.set_cons_succ]
  refine wpAnyH_take (i := 58) (v := ?vb58) rfl (by kernel_rfl) (by kernel_rfl) (by kernel_rfl) (fun _ _ _ h => h) (.inl ⟨by rfl, ?hb58⟩) hS ?rb58
  case hb58 =>
    intro w' hs
    (try dsimp only at hs)
    go_split_ands
    go_simp
    try with_reducible rfl
  simp only [List.getElem_toArray, List.getElem_cons_succ, List.getElem_cons_zero, Act.put, List.setIfInBounds_toArray, List.set_cons_zero, List.set_cons_succ]
  refine wpAnyH_take (i := 59) (v := ?vb59) rfl (by kernel_rfl) (by kernel_rfl) (by kernel_rfl) (fun _ _ _ h => h) (.inl ⟨by rfl, ?hb59⟩) hS ?rb59
  case hb59 =>
    intro w' hs
    (try dsimp only at hs)
    go_split_ands
    go_simp
    try with_reducible rfl
  simp only [List.getElem_toArray, List.getElem_cons_succ, List.getElem_cons_zero, Act.put, List.setIfInBounds_toArray, List.set_cons_zero, List.set_cons_succ]
  refine wpAnyH_take (i := 60) (v := ?vb60) rfl (by kernel_rfl) (by kernel_rfl) (by kernel_rfl) (fun _ _ _ h => h) (.inl ⟨by rfl, ?hb60⟩) hS ?rb60
  case hb60 =>
    intro w' hs
    (try dsimp only at hs)
    go_split_ands
    go_simp
    try with_reducible rfl
  simp only [List.getElem_toArray, List.getElem_cons_succ, List.getElem_cons_zero, Act.put, List.setIfInBounds_toArray, List.set_cons_zero, List.set_cons_succ]
  refine wpAnyH_take (i := 61) (v := ?vb61) rfl (by kernel_rfl) (by kernel_rfl) (by kernel_rfl) (fun _ _ _ h => h) (.inl ⟨by rfl, ?hb61⟩) hS ?rb61
  case hb61 =>
    intro w' hs
    (try dsimp only at hs)
    go_split_ands
    go_simp
    try with_reducible rfl
  simp only [List.getElem_toArray, List.getElem_cons_succ, List.getElem_cons_zero, Act.put, List.setIfInBounds_toArray, List.set_cons_zero, List.set_cons_succ]
  refine wpAnyH_take (i := 62) (v := ?vb62) rfl (by kernel_rfl) (by kernel_rfl) (by kernel_rfl) (fun _ _ _ h => h) (.inl ⟨by rfl, ?hb62⟩) hS ?rb62
  case hb62 =>
    intro w' hs
    (try dsimp only at hs)
    go_split_ands
    go_simp
    try with_reducible rfl
  simp only [List.getElem_toArray, List.getElem_cons_succ, List.getElem_cons_zero, Act.put, List.setIfInBounds_toArray, List.set_cons_zero, List.set_cons_succ]
  refine wpAnyH_take (i := 63) (v := ?vb63) rfl (by kernel_rfl) (by kernel_rfl) (by kernel_rfl) (fun _ _ _ h => h) (.inl ⟨by rfl, ?hb63⟩) hS ?rb63
  case hb63 =>
    intro w' hs
    (try dsimp only at hs)
    go_split_ands
    go_simp
    try with_reducible rfl
  simp only [List.getElem_toArray, List.getElem_cons_succ, List.getElem_cons_zero, Act.put, List.setIfInBounds_toArray, List.set_cons_zero, List.set_cons_succ]
  refine wpAnyH_take (i := 64) (v := ?vb64) rfl (by kernel_rfl) (by kernel_rfl) (by kernel_rfl) (fun _ _ _ h => h) (.inl ⟨by rfl, ?hb64⟩) hS ?rb64
  case hb64 =>
    intro w' hs
    (try dsimp only at hs)
    go_split_ands
    go_simp
    try with_reducible rfl
  simp only [List.getElem_toArray, List.getElem_cons_succ, List.getElem_cons_zero, Act.put, List.setIfInBounds_toArray, List.set_cons_zero, List.set_cons_succ]
  refine wpAnyH_ready (rs := [65]) (by kernel_rfl) (by simp) (AllReadyH.cons rfl (fun K hK => ?_) AllReadyH.nil)
  go_simp
  go_at_call 50
  refine (show Calls _ 50 #[.pointer (some ⟨b, 0, none⟩), .agg #[.int .u8 4, .int .i64 1]] _ (Goes HP w b m8 ((db, Obj.cells #[.int .u8 4, .int .i64 1] 37 (0, 0)) :: (zb, Obj.cells #[.int .u8 0, .int .i64 0] 37 (0, 0)) :: (kg, ko) :: [(cb, Obj.cells #[.int .u8 9, .int .i64 3] 37 (0, 0)), (tb, Obj.cells #[.int .u8 5, .int .i64 2] 37 (0, 0)), (bb, Obj.cells #[.int .u8 4, .int .i64 1] 37 (0, 0)), (ab, Obj.cells #[.int .u8 4, .int .i64 1] 37 (0, 0))]) (.int .i64 0)) from by
    have h := HD1.out.tell H (fun hp => H.serial ⟨4, 1⟩ hp (in_hv _ _ (by decide) (by decide) (by decide)))
    rw [s8s] at h
    exact h).mono ?_
  rintro e w' ⟨rfl, h'⟩
  have HD2 := Lib.hid h'
  clear h'
  go_wp2_with fail
  refine hK.out _ _ (HS.out _ HD2.out) (fun hS => ?_)
  clear hK
  refine wpAnyH_take (i := 66) (v := ?vc66) rfl (by kernel_rfl) (by kernel_rfl) (by kernel_rfl) (fun _ _ _ h => h) (.inl ⟨by rfl, ?hc66⟩) hS ?rc66
  case hc66 =>
    intro w' hs
    (try dsimp only at hs)
    go_split_ands
    go_simp
    try with_reducible rfl
  simp only [List.getElem_toArray, List.getElem_cons_succ, List.getElem_cons_zero, Act.put, List.setIfInBounds_toArray, List.set_cons_zero, List.set_cons_succ]
  refine wpAnyH_take (i := 67) (v := ?vc67) rfl (by kernel_rfl) (by kernel_rfl) (by kernel_rfl) (fun _ _ _ h => h) (.inl ⟨by rfl, ?hc67⟩) hS ?rc67
  case hc67 =>
    intro w' hs
    (try dsimp only at hs)
    go_split_ands
    go_simp
    try with_reducible rfl
  simp only [List.getElem_toArray, List.getElem_cons_succ, List.getElem_cons_zero, Act.put, List.setIfInBounds_toArray, List.set_cons_zero, List.set_cons_succ]
  refine wpAnyH_take (i := 68) (v := ?vc68) rfl (by kernel_rfl) (by kernel_rfl) (by kernel_rfl) (fun _ _ _ h => h) (.inl ⟨by rfl, ?hc68⟩) hS ?rc68
  case hc68 =>
    intro w' hs
    (try dsimp only at hs)
    go_split_ands
    go_simp
    try with_reducible rfl
  simp only [List.getElem_toArray, List.getElem_cons_succ, List.getElem_cons_zero, Act.put, List.setIfInBounds_toArray, List.set_cons_zero, List.set_cons_succ]
  refine wpAnyH_take (i := 69) (v := ?vc69) rfl (by kernel_rfl) (by kernel_rfl) (by kernel_rfl) (fun _ _ _ h => h) (.inl ⟨by rfl, ?hc69⟩) hS ?rc69
  case hc69 =>
    intro w' hs
    (try dsimp only at hs)
    go_split_ands
    go_simp
    try with_reducible rfl
  simp only [List.getElem_toArray, List.getElem_cons_succ, List.getElem_cons_zero, Act.put, List.setIfInBounds_toArray, List.set_cons_zero, List.set_cons_succ]
  refine wpAnyH_take (i := 70) (v := ?vc70) rfl (by kernel_rfl) (by kernel_rfl) (by kernel_rfl) (fun _ _ _ h => h) (.inl ⟨by rfl, ?hc70⟩) hS ?rc70
  case hc70 =>
    intro w' hs
    (try dsimp only at hs)
    go_split_ands
    go_simp
    try with_reducible rfl
  simp only [List.getElem_toArray, List.getElem_cons_succ, List.getElem_cons_zero, Act.put, List.setIfInBounds_toArray, List.set_cons_zero, List.set_cons_succ]
  refine wpAnyH_ready (rs := [71]) (by kernel_rfl) (by simp) (AllReadyH.cons rfl (fun K hK => ?_) AllReadyH.nil)
  go_simp
  go_at_call 50
  refine (show Calls _ 50 #[.pointer (some ⟨b, 0, none⟩), .agg #[.int .u8 5, .int .i64 2]] _ (Goes HP w b m8 ((db, Obj.cells #[.int .u8 4, .int .i64 1] 37 (0, 0)) :: (zb, Obj.cells #[.int .u8 0, .int .i64 0] 37 (0, 0)) :: (kg, ko) :: [(cb, Obj.cells #[.int .u8 9, .int .i64 3] 37 (0, 0)), (tb, Obj.cells #[.int .u8 5, .int .i64 2] 37 (0, 0)), (bb, Obj.cells #[.int .u8 4, .int .i64 1] 37 (0, 0)), (ab, Obj.cells #[.int .u8 4, .int .i64 1] 37 (0, 0))]) (.int .i64 1)) from by
    have h := HD2.out.tell H (fun hp => H.serial ⟨5, 2⟩ hp (in_hv _ _ (by decide) (by decide) (by decide)))
    rw [s8t] at h
    exact h).mono ?_
  rintro e w' ⟨rfl, h'⟩
  have HD3 := Lib.hid h'
  clear h'
  go_wp2_with fail
  refine hK.out _ _ (HS.out _ HD3.out) (fun hS => ?_)
  clear hK
  refine wpAnyH_take (i := 72) (v := ?vd72) rfl (by kernel_rfl) (by kernel_rfl) (by kernel_rfl) (fun _ _ _ h => h) (.inl ⟨by rfl, ?hd72⟩) hS ?rd72
  case hd72 =>
    intro w' hs
    (try dsimp only at hs)
    go_split_ands
    go_simp
    try with_reducible rfl
  simp only [List.getElem_toArray, List.getElem_cons_succ, List.getElem_cons_zero, Act.put, List.setIfInBounds_toArray, List.set_cons_zero, List.set_cons_succ]
  refine wpAnyH_take (i := 73) (v := ?vd73) rfl (by kernel_rfl) (by kernel_rfl) (by kernel_rfl) (fun _ _ _ h => h) (.inl ⟨by rfl, ?hd73⟩) hS ?rd73
  case hd73 =>
    intro w' hs
    (try dsimp only at hs)
    go_split_ands
    go_simp
    try with_reducible rfl
  simp only [List.getElem_toArray, List.getElem_cons_succ, List.getElem_cons_zero, Act.put, List.setIfInBounds_toArray, List.set_cons_zero, List.set_cons_succ]
  refine wpAnyH_take (i := 74) (v := ?vd74) rfl (by kernel_rfl) (by kernel_rfl) (by kernel_rfl) (fun _ _ _ h => h) (.inl ⟨by rfl, ?hd74⟩) hS ?rd74
  case hd74 =>
    intro w' hs
    (try dsimp only at hs)
    go_split_ands
    go_simp
    try with_reducible rfl
  simp only [List.getElem_toArray, List.getElem_cons_succ, List.getElem_cons_zero, Act.put, List.setIfInBounds_toArray, List.set_cons_zero]
  refine wpAnyH_done (by kernel_rfl) ?_ _
  go_wp2_with fail
  go_ret
  exact ⟨rfl, HD3.out.low⟩
end Go.Proofs.YthejclgihhfenaaGreat.Hp
