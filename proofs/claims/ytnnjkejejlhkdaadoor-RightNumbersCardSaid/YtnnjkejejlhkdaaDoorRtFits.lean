/-
  Layer 9: whether a function fits.
-/
import Derived.Test.YtnnjkejejlhkdaaDoorRtKids2
import Derived.Test.YtnnjkejejlhkdaaDoorRtStmtA
import Derived.Test.YtnnjkejejlhkdaaDoorRtStmtB
import Derived.Test.YtnnjkejejlhkdaaDoorRtStmtC
import Derived.Test.YtnnjkejejlhkdaaDoorRtStmtD
import Derived.Test.YtnnjkejejlhkdaaDoorRtHang2
namespace Go.Proofs.YtnnjkejejlhkdaaDoor.Rt
open Go Go.RowKit

theorem stmt_fn (F : Nat) (f : Pr) (strs protos : Nat) (s : St) (cs : Array Value) (w : World) (hF : FnAt F f strs protos w) (h0 : 0 ≤ f.slots) (hR : RowsTab w) (hs : StC w.heap.size w cs s) (hpt : Places f s.targets) (hpe : Places f s.exprs) (i : Int) :
    Calls Tryd.prog 29 #[.pointer (some ⟨F, 0, none⟩), .int .i64 i, .agg cs] w fun e w' => e = .returned (.bool (stmtB f s)) ∧ Below w.heap.size w w' := by
  obtain ⟨vs, vt, ve, rfl, h1, h2, h3, _⟩ := hs
  unfold stmtB
  by_cases hno : s.k < 1 ∨ 11 < s.k ∨ s.line < 1
  · rw [if_pos hno]
    obtain ⟨a1, c1, e1, _⟩ := h1.slice
    obtain ⟨a2, c2, e2, _⟩ := h2.slice
    obtain ⟨a3, c3, e3, _⟩ := h3.slice
    exact stmt_no F s vs vt ve w ⟨_, _, _, e1⟩ ⟨_, _, _, e2⟩ ⟨_, _, _, e3⟩ hno i
  rw [if_neg hno]
  have k1 : 1 ≤ s.k := by omega
  have k2 : s.k ≤ 11 := by omega
  have k3 : 1 ≤ s.line := by omega
  cases e1 : slotsB f (rowOf s.k) s with
  | false => exact (stmt_yesA F f strs protos s vs vt ve w hF h0 hR h1 h2 h3 hpt hpe k1 k2 k3 i _ _ _ e1 rfl rfl rfl)
  | true =>
    cases e2 : areB (rowOf s.k).tlo (rowOf s.k).thi (fun _ c => ofB f [8, 9, 10, 11] c) s.targets with
    | false => exact (stmt_yesB F f strs protos s vs vt ve w hF h0 hR h1 h2 h3 hpt hpe k1 k2 k3 i _ _ e1 e2 rfl rfl)
    | true =>
      cases e3 : areB (rowOf s.k).elo (rowOf s.k).ehi (fun _ c => ofOrB f s.k c) s.exprs with
      | false => exact (stmt_yesC F f strs protos s vs vt ve w hF h0 hR h1 h2 h3 hpt hpe k1 k2 k3 i _ e1 e2 e3 rfl)
      | true => exact (stmt_yesD F f strs protos s vs vt ve w hF h0 hR h1 h2 h3 hpt hpe k1 k2 k3 i _ e1 e2 e3 rfl)

/-! What hangs has places. -/
theorem stand_places {below : Int} {l : List Int} {st st' : List Bool} (h : standN below l st = some st') : ∀ c ∈ l, 0 ≤ c ∧ c < below := by
  intro c hc
  obtain ⟨i, hi, rfl⟩ := List.getElem_of_mem hc
  obtain ⟨a, b, _, h2, _⟩ := runN_each h i hi
  unfold stand1 at h2
  rw [List.getElem?_eq_getElem hi] at h2
  have h2 : (if l[i] < 0 ∨ below ≤ l[i] ∨ a.getD l[i].toNat true = true then none else some (a.set l[i].toNat true)) = some b := h2
  by_cases h3 : l[i] < 0 ∨ below ≤ l[i] ∨ a.getD l[i].toNat true = true
  · rw [if_pos h3] at h2; cases h2
  · have h4 : ¬ l[i] < 0 := fun h => h3 (.inl h)
    have h5 : ¬ below ≤ l[i] := fun h => h3 (.inr (.inl h))
    omega
theorem hangs_places {f : Pr} (h : hangsB f = true) : (∀ i (hi : i < f.exprs.length), Places f f.exprs[i].kids) ∧ ∀ i (hi : i < f.stmts.length), Places f f.stmts[i].targets ∧ Places f f.stmts[i].exprs := by
  unfold hangsB at h
  cases h1 : runN (kidStep f) f.exprs.length (List.replicate f.exprs.length false) with
  | none => rw [h1] at h; cases h
  | some st1 =>
    rw [h1] at h
    cases h2 : runN (ownStep f) f.stmts.length st1 with
    | none =>
      have h : (match runN (ownStep f) f.stmts.length st1 with | some st => !st.contains false | none => false) = true := h
      rw [h2] at h; cases h
    | some st2 =>
      constructor
      · intro i hi c hc
        obtain ⟨a, b, _, h3, _⟩ := runN_each h1 i hi
        unfold kidStep at h3
        rw [List.getElem?_eq_getElem hi] at h3
        have := stand_places (show standN i f.exprs[i].kids a = some b from h3) c hc
        omega
      · intro i hi
        obtain ⟨a, b, _, h3, _⟩ := runN_each h2 i hi
        unfold ownStep at h3
        rw [List.getElem?_eq_getElem hi] at h3
        have h3 : (standN f.exprs.length f.stmts[i].targets a).bind (standN f.exprs.length f.stmts[i].exprs) = some b := h3
        cases h4 : standN f.exprs.length f.stmts[i].targets a with
        | none => rw [h4] at h3; cases h3
        | some a2 =>
          rw [h4] at h3
          exact ⟨fun c hc => stand_places h4 c hc, fun c hc => stand_places (show standN f.exprs.length f.stmts[i].exprs a2 = some b from h3) c hc⟩

set_option maxHeartbeats 8000000 in
set_option maxRecDepth 100000 in
theorem fits_no (F : Nat) (f : Pr) (strs protos : Nat) (w : World) (hF : FnAt F f strs protos w) (hno : f.slots < 0 ∨ 120 < f.slots ∨ f.params < 0 ∨ f.slots < f.params ∨ (f.boxed.length : Int) ≠ f.slots) :
    Calls Tryd.prog 16 #[.pointer (some ⟨F, 0, none⟩)] w fun e w' => e = .returned (.bool false) ∧ Below w.heap.size w w' := by
  obtain ⟨vb, vu, vs, ve, hh, hvb, hvu, hvs, hve, hp1, hp2, _, hn1, hn2⟩ := hF
  obtain ⟨a3, c3, rfl, hl3⟩ := hvb.slice
  obtain ⟨a4, c4, rfl, hl4⟩ := hvu.slice
  obtain ⟨a5, c5, rfl, hl5⟩ := hvs.slice
  obtain ⟨a6, c6, rfl, hl6⟩ := hve.slice
  have f0 : w.cell? ⟨F, 0, none⟩ = some (.int .i64 f.params) := cell_of hh 0 _ rfl
  have f2 : w.cell? ⟨F, 2, none⟩ = some (.int .i64 f.slots) := cell_of hh 2 _ rfl
  have f3 : w.cell? ⟨F, 3, none⟩ = some (.slice a3 (bools f.boxed).length c3) := cell_of hh 3 _ rfl
  have f4 : w.cell? ⟨F, 4, none⟩ = some (.slice a4 f.ups.length c4) := cell_of hh 4 _ rfl
  have f5 : w.cell? ⟨F, 5, none⟩ = some (.slice a5 f.stmts.length c5) := cell_of hh 5 _ rfl
  have f6 : w.cell? ⟨F, 6, none⟩ = some (.slice a6 f.exprs.length c6) := cell_of hh 6 _ rfl
  rw [bools_len] at hl3 f3
  unfold Len at hl3 hl4 hl5 hl6
  unfold In64 at hp1 hp2
  obtain ⟨i1, i2⟩ := hp1
  obtain ⟨i3, i4⟩ := hp2
  clear hh hvb hvu hvs hve hn1 hn2
  generalize f.slots = x at *
  generalize f.params = y at *
  generalize f.boxed.length = z at *
  by_cases h1 : x < 0
  · have b1 : decide (x < 0) = true := decide_eq_true h1
    go_enter Tryd.func16, Tryd.ntmps16
    go_wp2_with fail
    go_quiet (fail)
    go_wp2_with fail
    go_ret
    exact ⟨rfl, below_drewN (Below.refl _ _) _⟩
  have b1 : decide (x < 0) = false := decide_eq_false h1
  by_cases h2 : 120 < x
  · have b2 : decide (120 < x) = true := decide_eq_true h2
    go_enter Tryd.func16, Tryd.ntmps16
    go_wp2_with fail
    go_quiet (fail)
    go_wp2_with fail
    go_ret
    exact ⟨rfl, below_drewN (Below.refl _ _) _⟩
  have b2 : decide (120 < x) = false := decide_eq_false h2
  by_cases h3 : y < 0
  · have b3 : decide (y < 0) = true := decide_eq_true h3
    go_enter Tryd.func16, Tryd.ntmps16
    go_wp2_with fail
    go_quiet (fail)
    go_wp2_with fail
    go_ret
    exact ⟨rfl, below_drewN (Below.refl _ _) _⟩
  have b3 : decide (y < 0) = false := decide_eq_false h3
  by_cases h4 : x < y
  · have b4 : decide (x < y) = true := decide_eq_true h4
    go_enter Tryd.func16, Tryd.ntmps16
    go_wp2_with fail
    go_quiet (fail)
    go_wp2_with fail
    go_ret
    exact ⟨rfl, below_drewN (Below.refl _ _) _⟩
  have b4 : decide (x < y) = false := decide_eq_false h4
  have h5 : (z : Int) ≠ x := by omega
  have b5 : ((z : Int) != x) = true := by rw [bne_iff_ne]; exact h5
  go_enter Tryd.func16, Tryd.ntmps16
  go_wp2_with fail
  go_quiet (fail)
  go_wp2_with fail
  go_ret
  exact ⟨rfl, below_drewN (Below.refl _ _) _⟩

end Go.Proofs.YtnnjkejejlhkdaaDoor.Rt
