/-
  Layer 9: whether a function fits.
-/
import Derived.Test.YtnnjkejejlhkdaaDoorRtFits
namespace Go.Proofs.YtnnjkejejlhkdaaDoor.Rt
open Go Go.RowKit

set_option maxHeartbeats 8000000 in
set_option maxRecDepth 100000 in
theorem fits_no2 (F : Nat) (f : Pr) (strs protos z : Nat) (w : World) (hF : FnAt F f strs protos w) (hz : f.boxed.length = z) (hx : (z : Int) = f.slots) (hy1 : z ≤ 120) (hy2 : 0 ≤ f.params) (hy3 : f.params ≤ z) (hno : 60 < f.ups.length ∨ 4096 < f.stmts.length ∨ 4096 < f.exprs.length) :
    Calls Tryd.prog 16 #[.pointer (some ⟨F, 0, none⟩)] w fun e w' => e = .returned (.bool false) ∧ Below w.heap.size w w' := by
  obtain ⟨vb, vu, vs, ve, hh, hvb, hvu, hvs, hve, hp1, hp2, _, hn1, hn2⟩ := hF
  obtain ⟨a3, c3, rfl, hl3⟩ := hvb.slice
  obtain ⟨a4, c4, rfl, hl4⟩ := hvu.slice
  obtain ⟨a5, c5, rfl, hl5⟩ := hvs.slice
  obtain ⟨a6, c6, rfl, hl6⟩ := hve.slice
  have f0 : w.cell? ⟨F, 0, none⟩ = some (.int .i64 f.params) := cell_of hh 0 _ rfl
  have f2 : w.cell? ⟨F, 2, none⟩ = some (.int .i64 f.slots) := cell_of hh 2 _ rfl
  have f3 : w.cell? ⟨F, 3, none⟩ = some (.slice a3 (bools f.boxed).length c3) := cell_of hh 3 _ rfl
  have f4 : w.cell? ⟨F, 4, none⟩ = some (.slice a4 f.ups.length c4) := cell_of hh 4 _ rfl
  have f5 : w.cell? ⟨F, 5, none⟩ = some (.slice a5 f.stmts.length c5) := cell_of hh 5 _ rfl
  have f6 : w.cell? ⟨F, 6, none⟩ = some (.slice a6 f.exprs.length c6) := cell_of hh 6 _ rfl
  rw [bools_len] at hl3 f3
  unfold Len at hl3 hl4 hl5 hl6
  unfold In64 at hp1 hp2
  obtain ⟨i1, i2⟩ := hp1
  obtain ⟨i3, i4⟩ := hp2
  rw [hz] at f3 hl3
  clear hh hvb hvu hvs hve hn1 hn2 hz
  generalize f.slots = x at *
  generalize f.params = y at *
  subst hx
  have b1 : decide ((z : Int) < 0) = false := decide_eq_false (by omega)
  have b2 : decide ((120 : Int) < z) = false := decide_eq_false (by omega)
  have b3 : decide (y < 0) = false := decide_eq_false (by omega)
  have b4 : decide ((z : Int) < y) = false := decide_eq_false (by omega)
  generalize f.ups.length = n4 at *
  generalize f.stmts.length = n5 at *
  generalize f.exprs.length = n6 at *
  by_cases h4 : 60 < n4
  · have h4' : (60 : Int) < n4 := by omega
    go_enter Tryd.func16, Tryd.ntmps16
    go_wp2_with fail
    go_quiet (fail)
    go_wp2_with fail
    go_ret
    exact ⟨rfl, below_drewN (Below.refl _ _) _⟩
  have h4' : ¬ (60 : Int) < n4 := by omega
  by_cases h5 : 4096 < n5
  · have h5' : (4096 : Int) < n5 := by omega
    go_enter Tryd.func16, Tryd.ntmps16
    go_wp2_with fail
    go_quiet (fail)
    go_wp2_with fail
    go_ret
    exact ⟨rfl, below_drewN (Below.refl _ _) _⟩
  have h5' : ¬ (4096 : Int) < n5 := by omega
  have h6' : (4096 : Int) < n6 := by omega
  go_enter Tryd.func16, Tryd.ntmps16
  go_wp2_with fail
  go_quiet (fail)
  go_wp2_with fail
  go_ret
  exact ⟨rfl, below_drewN (Below.refl _ _) _⟩

set_option maxHeartbeats 8000000 in
set_option maxRecDepth 100000 in
theorem fits_yes (F : Nat) (f : Pr) (strs protos z : Nat) (w : World) (hF : FnAt F f strs protos w) (hR : RowsTab w) (hz : f.boxed.length = z) (hx : (z : Int) = f.slots) (hy1 : z ≤ 120) (hy2 : 0 ≤ f.params) (hy3 : f.params ≤ z) (hn4 : f.ups.length ≤ 60) (hn5 : f.stmts.length ≤ 4096) (hn6 : f.exprs.length ≤ 4096) :
    Calls Tryd.prog 16 #[.pointer (some ⟨F, 0, none⟩)] w fun e w' => e = .returned (.bool (startsB f && hangsB f && allB (fun _ e => exprB f strs protos e) f.exprs && allB (fun _ s => stmtB f s) f.stmts)) ∧ Below w.heap.size w w' := by
  have hs0 : 0 ≤ f.slots := by omega
  have cS := fun w' (hb : Below w.heap.size w w') => starts_fn F f strs protos w' (hF.below hb)
  have cH := fun w' (hb : Below w.heap.size w w') => hangs_fn F f strs protos w' (hF.below hb) hn6
  have cE := fun (hh : hangsB f = true) v w' (hb : Below w.heap.size w w') (hv : RowsB 3 (ExC w'.heap.size w') w'.heap.size w' v f.exprs) =>
    (all_ex w'.heap.size w' v f.exprs 27 #[.pointer (some ⟨F, 0, none⟩)] #[] (stepB (fun _ e => exprB f strs protos e) f.exprs) (fun _ w2 => FnAt F f strs protos w2) () hv (Nat.le_refl _) (enters_of Tryd.func27 (by kernel_rfl) rfl) (fun _ _ _ h hb => h.below hb)
      (fun i hi _ w2 cs _ hsz hI _ he => (expr_fn F f strs protos f.exprs[i] cs i w2 hI (he.mono hsz) ((hangs_places hh).1 i hi)).mono fun _ _ q => step_says hi q.2 hsz q.1 (hI.below q.2)) (hF.below hb)).mono fun _ _ q => all_is q
  have cT := fun (hh : hangsB f = true) v w' (hb : Below w.heap.size w w') (hv : RowsB 7 (StC w'.heap.size w') w'.heap.size w' v f.stmts) =>
    (all_st w'.heap.size w' v f.stmts 29 #[.pointer (some ⟨F, 0, none⟩)] #[] (stepB (fun _ s => stmtB f s) f.stmts) (fun _ w2 => FnAt F f strs protos w2 ∧ RowsTab w2) () hv (Nat.le_refl _) (enters_of Tryd.func29 (by kernel_rfl) rfl) (fun _ _ _ h hb => ⟨h.1.below hb, h.2.below hb⟩)
      (fun i hi _ w2 cs _ hsz hI _ he => (stmt_fn F f strs protos f.stmts[i] cs w2 hI.1 hs0 hI.2 (he.mono hsz) ((hangs_places hh).2 i hi).1 ((hangs_places hh).2 i hi).2 i).mono fun _ _ q => step_says hi q.2 hsz q.1 ⟨hI.1.below q.2, hI.2.below q.2⟩) ⟨hF.below hb, hR.below hb⟩).mono fun _ _ q => all_is q
  have hF0 := hF
  obtain ⟨vb, vu, vs, ve, hh, hvb, hvu, hvs, hve, hp1, hp2, _, hn1, hn2⟩ := hF
  obtain ⟨a3, c3, rfl, hl3⟩ := hvb.slice
  obtain ⟨a4, c4, rfl, hl4⟩ := hvu.slice
  obtain ⟨a5, c5, rfl, hl5⟩ := hvs.slice
  obtain ⟨a6, c6, rfl, hl6⟩ := hve.slice
  have f0 : w.cell? ⟨F, 0, none⟩ = some (.int .i64 f.params) := cell_of hh 0 _ rfl
  have f2 : w.cell? ⟨F, 2, none⟩ = some (.int .i64 f.slots) := cell_of hh 2 _ rfl
  have f3 : w.cell? ⟨F, 3, none⟩ = some (.slice a3 (bools f.boxed).length c3) := cell_of hh 3 _ rfl
  have f4 : w.cell? ⟨F, 4, none⟩ = some (.slice a4 f.ups.length c4) := cell_of hh 4 _ rfl
  have f5 : w.cell? ⟨F, 5, none⟩ = some (.slice a5 f.stmts.length c5) := cell_of hh 5 _ rfl
  have f6 : w.cell? ⟨F, 6, none⟩ = some (.slice a6 f.exprs.length c6) := cell_of hh 6 _ rfl
  rw [bools_len] at hl3 f3
  unfold Len at hl3 hl4 hl5 hl6
  unfold In64 at hp1 hp2
  obtain ⟨i1, i2⟩ := hp1
  obtain ⟨i3, i4⟩ := hp2
  rw [hz] at f3 hl3
  rw [← hx] at f2
  have b1 : decide ((z : Int) < 0) = false := decide_eq_false (by omega)
  have b2 : decide ((120 : Int) < z) = false := decide_eq_false (by omega)
  have b3 : decide (f.params < 0) = false := decide_eq_false (by omega)
  have b4 : decide ((z : Int) < f.params) = false := decide_eq_false (by omega)
  have g5 : ∀ w', Below w.heap.size w w' → (w'.cell? ⟨F, 5, none⟩ = some (.slice a5 f.stmts.length c5) ∧ w'.cell? ⟨F, 6, none⟩ = some (.slice a6 f.exprs.length c6)) ∧ RowsB 7 (StC w'.heap.size w') w'.heap.size w' (.slice a5 f.stmts.length c5) f.stmts ∧ RowsB 3 (ExC w'.heap.size w') w'.heap.size w' (.slice a6 f.exprs.length c6) f.exprs := fun w' hb =>
    ⟨⟨cell_of (at_below hh hb) 5 _ rfl, cell_of (at_below hh hb) 6 _ rfl⟩, (hvs.below hb (fun _ _ h => h.below hb)).mono hb.size (fun _ _ h => h.mono hb.size), (hve.below hb (fun _ _ h => h.below hb)).mono hb.size (fun _ _ h => h.mono hb.size)⟩
  have G5 := Lib.hid g5
  have CS := Lib.hid cS
  have CH := Lib.hid cH
  have CE := Lib.hid cE
  have CT := Lib.hid cT
  have n4' : ¬ (60 : Int) < f.ups.length := by omega
  have n5' : ¬ (4096 : Int) < f.stmts.length := by omega
  have n6' : ¬ (4096 : Int) < f.exprs.length := by omega
  have hmf := run_mf
  clear hh hvb hvu hvs hve hn1 hn2 g5 cS cH cE cT hF0 hR hs0 hx hz
  generalize startsB f = Z1 at *
  cases Z1 with
  | false =>
    rw [Bool.false_and, Bool.false_and, Bool.false_and]
    go_enter Tryd.func16, Tryd.ntmps16
    go_wp2_with fail
    go_quiet (fail)
    have B0 := Lib.hid (below_drewN (Below.refl w.heap.size w) nq)
    go_wp2_with fail
    refine (CS.out _ B0.out).mono ?_
    rintro r w1 ⟨rfl, q1⟩
    have B1 := Lib.hid (B0.out.trans (q1.mono B0.out.size))
    clear q1 CS
    obtain ⟨⟨d5, d6⟩, _, _⟩ := G5.out w1 B1.out
    go_wp2_with fail
    go_ret
    exact ⟨rfl, B1.out⟩
  | true =>
    rw [Bool.true_and]
    obtain ⟨Z2, e2⟩ : ∃ Z2, hangsB f = Z2 := ⟨_, rfl⟩
    rw [e2] at CH CE CT ⊢
    cases Z2 with
    | false =>
      rw [Bool.false_and, Bool.false_and]
      clear CE CT e2
      go_enter Tryd.func16, Tryd.ntmps16
      go_wp2_with fail
      go_quiet (fail)
      have B0 := Lib.hid (below_drewN (Below.refl w.heap.size w) nq)
      go_wp2_with fail
      refine (CS.out _ B0.out).mono ?_
      rintro r w1 ⟨rfl, q1⟩
      have B1 := Lib.hid (B0.out.trans (q1.mono B0.out.size))
      clear q1 CS
      obtain ⟨⟨d5, d6⟩, _, _⟩ := G5.out w1 B1.out
      go_wp2_with fail
      refine (CH.out _ B1.out).mono ?_
      rintro r w2 ⟨rfl, q2⟩
      have B2 := Lib.hid (B1.out.trans (q2.mono B1.out.size))
      clear q2 CH d5 d6
      obtain ⟨⟨d5, d6⟩, _, hrow⟩ := G5.out w2 B2.out
      have HROW := Lib.hid hrow
      clear hrow
      go_wp2_with fail
      go_ret
      exact ⟨rfl, B2.out⟩
    | true =>
      rw [Bool.true_and]
      clear e2
      generalize allB (fun _ e => exprB f strs protos e) f.exprs = Z3 at *
      cases Z3 with
      | false =>
        rw [Bool.false_and]
        clear CT
        go_enter Tryd.func16, Tryd.ntmps16
        go_wp2_with fail
        go_quiet (fail)
        have B0 := Lib.hid (below_drewN (Below.refl w.heap.size w) nq)
        go_wp2_with fail
        refine (CS.out _ B0.out).mono ?_
        rintro r w1 ⟨rfl, q1⟩
        have B1 := Lib.hid (B0.out.trans (q1.mono B0.out.size))
        clear q1 CS
        obtain ⟨⟨d5, d6⟩, _, _⟩ := G5.out w1 B1.out
        go_wp2_with fail
        refine (CH.out _ B1.out).mono ?_
        rintro r w2 ⟨rfl, q2⟩
        have B2 := Lib.hid (B1.out.trans (q2.mono B1.out.size))
        clear q2 CH d5 d6
        obtain ⟨⟨d5, d6⟩, _, hrow⟩ := G5.out w2 B2.out
        have HROW := Lib.hid hrow
        clear hrow
        go_wp2_with fail
        refine (CE.out (by trivial) _ _ B2.out HROW.out).mono ?_
        rintro r w3 ⟨rfl, q3⟩
        have B3 := Lib.hid (B2.out.trans (q3.mono B2.out.size))
        clear q3 CE d5 d6
        obtain ⟨⟨d5, d6⟩, hrow2, _⟩ := G5.out w3 B3.out
        have HROW2 := Lib.hid hrow2
        clear hrow2
        go_wp2_with fail
        go_ret
        exact ⟨rfl, B3.out⟩
      | true =>
        rw [Bool.true_and]
        generalize allB (fun _ s => stmtB f s) f.stmts = Z4 at *
        go_enter Tryd.func16, Tryd.ntmps16
        go_wp2_with fail
        go_quiet (fail)
        have B0 := Lib.hid (below_drewN (Below.refl w.heap.size w) nq)
        go_wp2_with fail
        refine (CS.out _ B0.out).mono ?_
        rintro r w1 ⟨rfl, q1⟩
        have B1 := Lib.hid (B0.out.trans (q1.mono B0.out.size))
        clear q1 CS
        obtain ⟨⟨d5, d6⟩, _, _⟩ := G5.out w1 B1.out
        go_wp2_with fail
        refine (CH.out _ B1.out).mono ?_
        rintro r w2 ⟨rfl, q2⟩
        have B2 := Lib.hid (B1.out.trans (q2.mono B1.out.size))
        clear q2 CH d5 d6
        obtain ⟨⟨d5, d6⟩, _, hrow⟩ := G5.out w2 B2.out
        have HROW := Lib.hid hrow
        clear hrow
        go_wp2_with fail
        refine (CE.out (by trivial) _ _ B2.out HROW.out).mono ?_
        rintro r w3 ⟨rfl, q3⟩
        have B3 := Lib.hid (B2.out.trans (q3.mono B2.out.size))
        clear q3 CE d5 d6
        obtain ⟨⟨d5, d6⟩, hrow2, _⟩ := G5.out w3 B3.out
        have HROW2 := Lib.hid hrow2
        clear hrow2
        go_wp2_with fail
        refine (CT.out (by trivial) _ _ B3.out HROW2.out).mono ?_
        rintro r w4 ⟨rfl, q4⟩
        have B4 := Lib.hid (B3.out.trans (q4.mono B3.out.size))
        clear q4 CT
        go_wp2_with fail
        go_ret
        exact ⟨rfl, B4.out⟩

theorem fits_fn (F : Nat) (f : Pr) (strs protos : Nat) (w : World) (hF : FnAt F f strs protos w) (hR : RowsTab w) :
    Calls Tryd.prog 16 #[.pointer (some ⟨F, 0, none⟩)] w fun e w' => e = .returned (.bool (fitsB f strs protos)) ∧ Below w.heap.size w w' := by
  unfold fitsB
  by_cases h1 : f.slots < 0 ∨ 120 < f.slots ∨ f.params < 0 ∨ f.slots < f.params ∨ (f.boxed.length : Int) ≠ f.slots
  · rw [if_pos h1]; exact fits_no F f strs protos w hF h1
  rw [if_neg h1]
  have hx : (f.boxed.length : Int) = f.slots := by omega
  by_cases h2 : 60 < f.ups.length ∨ 4096 < f.stmts.length ∨ 4096 < f.exprs.length
  · rw [if_pos h2]; exact fits_no2 F f strs protos _ w hF rfl hx (by omega) (by omega) (by omega) h2
  rw [if_neg h2]
  exact fits_yes F f strs protos _ w hF hR rfl hx (by omega) (by omega) (by omega) (by omega) (by omega) (by omega)

end Go.Proofs.YtnnjkejejlhkdaaDoor.Rt
