/-
  Layer 9: stmtFits, one of four ways.
-/
import Derived.Test.YtnnjkejejlhkdaaDoorRtStmt
namespace Go.Proofs.YtnnjkejejlhkdaaDoor.Rt
open Go Go.RowKit

set_option maxHeartbeats 8000000 in
set_option maxRecDepth 100000 in
theorem stmt_yesD (F : Nat) (f : Pr) (strs protos : Nat) (s : St) (vs vt ve : Value) (w : World) (hF : FnAt F f strs protos w) (h0 : 0 ≤ f.slots) (hR : RowsTab w) (hs : LstB w.heap.size w vs (ints s.slots)) (ht : LstB w.heap.size w vt (ints s.targets)) (hv : LstB w.heap.size w ve (ints s.exprs)) (hpt : Places f s.targets) (hpe : Places f s.exprs) (hk1 : 1 ≤ s.k) (hk2 : s.k ≤ 11) (hln : 1 ≤ s.line) (i : Int)
    (Z4 : Bool) (e1 : slotsB f (rowOf s.k) s = true) (e2 : areB (rowOf s.k).tlo (rowOf s.k).thi (fun _ c => ofB f [8, 9, 10, 11] c) s.targets = true) (e3 : areB (rowOf s.k).elo (rowOf s.k).ehi (fun _ c => ofOrB f s.k c) s.exprs = true) (e4 : goesB f (rowOf s.k) s = Z4) :
    Calls Tryd.prog 29 #[.pointer (some ⟨F, 0, none⟩), .int .i64 i, .agg (stCells s vs vt ve)] w fun e w' => e = .returned (.bool (true && true && true && Z4)) ∧ Below w.heap.size w w' := by
  have hmf := run_mf
  have HS := Lib.hid hs
  have HT := Lib.hid ht
  have HV := Lib.hid hv
  have HF := Lib.hid hF
  obtain ⟨a0, c0, rfl, hl0⟩ := hs.slice
  obtain ⟨a1, c1, rfl, hl1⟩ := ht.slice
  obtain ⟨a2, c2, rfl, hl2⟩ := hv.slice
  clear hs ht hv hF
  simp only [ints_len] at hl0 hl1 hl2 HS HT HV ⊢
  unfold Len at hl0 hl1 hl2
  have hk1' : ¬ (s.k : Int) < 1 := by omega
  have hk2' : ¬ (11 : Int) < (s.k : Int) := by omega
  have hk12 : (s.k : Int) < 12 := by omega
  have hk0 : (0 : Int) ≤ (s.k : Int) := by omega
  have hln' : ¬ s.line < 1 := by omega
  obtain ⟨ST, hST⟩ : ∃ ST, ST = Obj.cells (stCells s (.slice a0 s.slots.length c0) (.slice a1 s.targets.length c1) (.slice a2 s.exprs.length c2)) 44 (0, 0) := ⟨_, rfl⟩
  obtain ⟨RW, hRW⟩ : ∃ RW, RW = Obj.cells (rowCells (rowOf s.k)) 84 (0, 0) := ⟨_, rfl⟩
  have hb0 := (Below.refl w.heap.size w).alloc (Nat.le_refl _) ST
  have hR0 := hR.below hb0
  have r0 := hR0.cell (k := s.k) (by omega) 0 (by omega) (.int .i64 (rowOf s.k).slo) rfl
  have r1 := hR0.cell (k := s.k) (by omega) 1 (by omega) (.int .i64 (rowOf s.k).shi) rfl
  have r2 := hR0.cell (k := s.k) (by omega) 2 (by omega) (.int .i64 (rowOf s.k).tlo) rfl
  have r3 := hR0.cell (k := s.k) (by omega) 3 (by omega) (.int .i64 (rowOf s.k).thi) rfl
  have r4 := hR0.cell (k := s.k) (by omega) 4 (by omega) (.int .i64 (rowOf s.k).elo) rfl
  have r5 := hR0.cell (k := s.k) (by omega) 5 (by omega) (.int .i64 (rowOf s.k).ehi) rfl
  have r6 := hR0.cell (k := s.k) (by omega) 6 (by omega) (.bool (rowOf s.k).hidden) rfl
  have r7 := hR0.cell (k := s.k) (by omega) 7 (by omega) (.bool (rowOf s.k).forks) rfl
  rw [Nat.add_zero] at r0
  obtain ⟨p0, p1, hb1⟩ := two w ST RW
  have nr := (new_row ((w.alloc ST).alloc RW) [8, 9, 10, 11]).resolve_right (fun h => h (by unfold Len; decide))
  have hb2 := hb1.alloc hb1.size (.cells (kinds [8, 9, 10, 11]).toArray 38)
  have cof := of_fn F _ [8, 9, 10, 11] _ nr
  have hH : ∀ bt bf w', OfAt bt bf F [8, 9, 10, 11] w' → Below (((w.alloc ST).alloc RW).alloc (.cells (kinds [8, 9, 10, 11]).toArray 38)).heap.size (((w.alloc ST).alloc RW).alloc (.cells (kinds [8, 9, 10, 11]).toArray 38)) w' → Hold w F f strs protos w.heap.size (w.heap.size + 1) bt bf s (.slice a0 s.slots.length c0) (.slice a1 s.targets.length c1) (.slice a2 s.exprs.length c2) (rowOf s.k) w' := fun bt bf w' hO hb => by
    have b3 := hb2.trans (hb.mono hb2.size)
    have b4 := ((Below.refl ((w.alloc ST).alloc RW).heap.size _).alloc (Nat.le_refl _) (.cells (kinds [8, 9, 10, 11]).toArray 38)).trans (hb.mono (by simp))
    exact ⟨HF.out.below b3, by unfold StAt; rw [← hST]; exact at_below p0 b4, by unfold RowAt; rw [← hRW]; exact at_below p1 b4, hO, (HS.out.below b3).mono b3.size, (HT.out.below b3).mono b3.size, (HV.out.below b3).mono b3.size, b3⟩
  have HH := Lib.hid hH
  rw [show ((w.alloc ST).alloc RW).heap.size = w.heap.size + 1 + 1 from by simp] at cof
  clear hb0 hR0 hR p0 p1 hb1 nr hb2 hH
  subst hST
  subst hRW
  unfold rowsG at r0 r1 r2 r3 r4 r5 r6 r7
  unfold stCells at r0 r1 r2 r3 r4 r5 r6 r7
  unfold stCells rowCells at cof HH
  unfold stCells
  go_enter Tryd.func29, Tryd.ntmps29
  go_wp2_with fail
  refine cof.mono ?_
  rintro e w4 ⟨bt, bf, rfl, hO, b4⟩
  have hw4 := HH.out bt bf w4 hO b4
  clear hO b4 cof HH HF HS HT HV r0 r1 r2 r3 r4 r5 r6 r7
  go_wp2_with fail
  have hal : ∃ a n c, Value.slice a0 s.slots.length c0 = .slice a n c := ⟨_, _, _, rfl⟩
  have hal1 : ∃ a n c, Value.slice a1 s.targets.length c1 = .slice a n c := ⟨_, _, _, rfl⟩
  have hal2 : ∃ a n c, Value.slice a2 s.exprs.length c2 = .slice a n c := ⟨_, _, _, rfl⟩
  obtain ⟨H, hHd⟩ : ∃ H : World → Prop, H = Hold w F f strs protos w.heap.size (w.heap.size + 1) bt bf s (.slice a0 s.slots.length c0) (.slice a1 s.targets.length c1) (.slice a2 s.exprs.length c2) (rowOf s.k) := ⟨_, rfl⟩
  have KS : ∀ w', H w' → ((w'.cell? ⟨w.heap.size, 0, none⟩ = some (.int .u8 (s.k : Int)) ∧ w'.cell? ⟨w.heap.size, 1, none⟩ = some (.slice a0 s.slots.length c0) ∧ w'.cell? ⟨w.heap.size, 2, none⟩ = some (.slice a1 s.targets.length c1) ∧ w'.cell? ⟨w.heap.size, 3, none⟩ = some (.slice a2 s.exprs.length c2) ∧ w'.cell? ⟨w.heap.size, 4, none⟩ = some (.int .i64 s.next) ∧ w'.cell? ⟨w.heap.size, 5, none⟩ = some (.int .i64 s.els) ∧ w'.cell? ⟨w.heap.size, 6, none⟩ = some (.int .i64 s.line)) ∧
      (w'.cell? ⟨w.heap.size + 1, 0, none⟩ = some (.int .i64 (rowOf s.k).slo) ∧ w'.cell? ⟨w.heap.size + 1, 1, none⟩ = some (.int .i64 (rowOf s.k).shi) ∧ w'.cell? ⟨w.heap.size + 1, 2, none⟩ = some (.int .i64 (rowOf s.k).tlo) ∧ w'.cell? ⟨w.heap.size + 1, 3, none⟩ = some (.int .i64 (rowOf s.k).thi) ∧ w'.cell? ⟨w.heap.size + 1, 4, none⟩ = some (.int .i64 (rowOf s.k).elo) ∧ w'.cell? ⟨w.heap.size + 1, 5, none⟩ = some (.int .i64 (rowOf s.k).ehi) ∧ w'.cell? ⟨w.heap.size + 1, 6, none⟩ = some (.bool (rowOf s.k).hidden) ∧ w'.cell? ⟨w.heap.size + 1, 7, none⟩ = some (.bool (rowOf s.k).forks)) ∧ H w') := by
    intro w' h
    have h0 := h
    rw [hHd] at h
    exact ⟨⟨cell_of h.st 0 _ rfl, cell_of h.st 1 _ rfl, cell_of h.st 2 _ rfl, cell_of h.st 3 _ rfl, cell_of h.st 4 _ rfl, cell_of h.st 5 _ rfl, cell_of h.st 6 _ rfl⟩, ⟨cell_of h.row 0 _ rfl, cell_of h.row 1 _ rfl, cell_of h.row 2 _ rfl, cell_of h.row 3 _ rfl, cell_of h.row 4 _ rfl, cell_of h.row 5 _ rfl, cell_of h.row 6 _ rfl, cell_of h.row 7 _ rfl⟩, h0⟩
  have k1 : ∀ w', H w' → Calls Tryd.prog 46 #[.pointer (some ⟨F, 0, none⟩), .agg (stCells s (.slice a0 s.slots.length c0) (.slice a1 s.targets.length c1) (.slice a2 s.exprs.length c2)), rowV (rowOf s.k)] w' fun e w'' => e = .returned (.bool true) ∧ H w'' := by
    intro w' h
    rw [hHd] at h ⊢
    rw [← e1]
    exact (slots_fn F f strs protos (rowOf s.k) s _ _ _ w' h.fn h0 h.ls hal1 hal2).mono fun _ _ g => ⟨g.1, h.below g.2⟩
  have k2 : ∀ w', H w' → Calls Tryd.prog 47 #[.slice a1 s.targets.length c1, .agg #[.int .i64 (rowOf s.k).tlo, .int .i64 (rowOf s.k).thi], .func (.func 56) #[] #[.pointer (some ⟨bt, 0, none⟩), .pointer (some ⟨bf, 0, none⟩)]] w' fun e w'' => e = .returned (.bool true) ∧ H w'' := by
    intro w' h
    rw [hHd] at h ⊢
    rw [← e2]
    exact (are_of F f strs protos bt bf _ _ s.targets _ _ w' h.fn h.ofs h.lt hpt).mono fun _ _ g => ⟨g.1, h.below g.2⟩
  have kx : ∀ w', H w' → Calls Tryd.prog 48 #[.pointer (some ⟨F, 0, none⟩), .int .u8 (s.k : Int)] w' fun e w'' => ∃ fv, e = .returned fv ∧ FvAt s.k F fv w'' ∧ H w'' := by
    intro w' h
    rw [hHd] at h ⊢
    exact (exprOf_fn F s.k w').mono fun _ _ ⟨fv, g1, g2, g3⟩ => ⟨fv, g1, g2, h.below g3⟩
  have k3 : ∀ fv w', FvAt s.k F fv w' → H w' → Calls Tryd.prog 47 #[.slice a2 s.exprs.length c2, .agg #[.int .i64 (rowOf s.k).elo, .int .i64 (rowOf s.k).ehi], fv] w' fun e w'' => e = .returned (.bool true) ∧ H w'' := by
    intro fv w' hfv h
    rw [hHd] at h ⊢
    rw [← e3]
    exact (are_or F f strs protos s.k fv _ s.exprs _ _ w' h.fn hfv h.le hpe).mono fun _ _ g => ⟨g.1, h.below g.2⟩
  have k4 : ∀ w', H w' → Calls Tryd.prog 49 #[.pointer (some ⟨F, 0, none⟩), .agg (stCells s (.slice a0 s.slots.length c0) (.slice a1 s.targets.length c1) (.slice a2 s.exprs.length c2)), rowV (rowOf s.k)] w' fun e w'' => e = .returned (.bool Z4) ∧ H w'' := by
    intro w' h
    rw [hHd] at h ⊢
    rw [← e4]
    exact (goes_fn F f strs protos (rowOf s.k) s _ _ _ w' h.fn hal hal1 hal2).mono fun _ _ g => ⟨g.1, h.below g.2⟩
  have hw : H w4.drew := by
    rw [hHd]
    exact hw4.below ((Below.refl _ _).drew)
  have hend : ∀ w', H w' → Below w.heap.size w w' := fun w' h => by
    rw [hHd] at h
    exact h.low
  have HE := Lib.hid hend
  clear hHd hw4 hend hal hal1 hal2 e1 e2 e3 e4 h0 hpt hpe
  unfold stCells rowV rowCells at k1 k4
  (first | go_region_held3 (fun w' => (w'.cell? ⟨w.heap.size, 0, none⟩ = some (.int .u8 (s.k : Int)) ∧ w'.cell? ⟨w.heap.size, 1, none⟩ = some (.slice a0 s.slots.length c0) ∧ w'.cell? ⟨w.heap.size, 2, none⟩ = some (.slice a1 s.targets.length c1) ∧ w'.cell? ⟨w.heap.size, 3, none⟩ = some (.slice a2 s.exprs.length c2) ∧ w'.cell? ⟨w.heap.size, 4, none⟩ = some (.int .i64 s.next) ∧ w'.cell? ⟨w.heap.size, 5, none⟩ = some (.int .i64 s.els) ∧ w'.cell? ⟨w.heap.size, 6, none⟩ = some (.int .i64 s.line)) ∧
      (w'.cell? ⟨w.heap.size + 1, 0, none⟩ = some (.int .i64 (rowOf s.k).slo) ∧ w'.cell? ⟨w.heap.size + 1, 1, none⟩ = some (.int .i64 (rowOf s.k).shi) ∧ w'.cell? ⟨w.heap.size + 1, 2, none⟩ = some (.int .i64 (rowOf s.k).tlo) ∧ w'.cell? ⟨w.heap.size + 1, 3, none⟩ = some (.int .i64 (rowOf s.k).thi) ∧ w'.cell? ⟨w.heap.size + 1, 4, none⟩ = some (.int .i64 (rowOf s.k).elo) ∧ w'.cell? ⟨w.heap.size + 1, 5, none⟩ = some (.int .i64 (rowOf s.k).ehi) ∧ w'.cell? ⟨w.heap.size + 1, 6, none⟩ = some (.bool (rowOf s.k).hidden) ∧ w'.cell? ⟨w.heap.size + 1, 7, none⟩ = some (.bool (rowOf s.k).forks)) ∧ H w')
      (first | exact KS _ (by assumption))
      (first
        | (go_at_call 46; refine (k1 _ (by assumption)).mono ?_; rintro e w' ⟨rfl, hw'⟩)
        | (go_at_call 48; refine (kx _ (by assumption)).mono ?_; rintro e w' ⟨fv, rfl, hfv, hw'⟩)
        | (go_at_call 47; refine (k3 _ _ hfv (by assumption)).mono ?_; rintro e w' ⟨rfl, hw'⟩)
        | (go_at_call 47; refine (k2 _ (by assumption)).mono ?_; rintro e w' ⟨rfl, hw'⟩)
        | (go_at_call 49; refine (k4 _ (by assumption)).mono ?_; rintro e w' ⟨rfl, hw'⟩))
          | fail)
  go_wp2_with fail
  go_ret
  exact ⟨rfl, HE.out _ (by assumption)⟩

end Go.Proofs.YtnnjkejejlhkdaaDoor.Rt
