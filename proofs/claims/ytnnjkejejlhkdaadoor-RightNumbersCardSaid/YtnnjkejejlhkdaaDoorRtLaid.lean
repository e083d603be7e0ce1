/-
  What the rows of layer 9 list of the variable, and one world that holds it.
-/
import Derived.Test.YtnnjkejejlhkdaaDoorCards
import Derived.Test.YtnnjkejejlhkdaaDoorTie
import Derived.Test.YtnnjkejejlhkdaaDoorRtReads
import Derived.Test.YtnnjkejejlhkdaaDoorRtStmt
import Derived.ChangeArms
import Derived.WalkKit
import Derived.ProofKit
import Derived.OpenShut
import Derived.ShutString
import Derived.Below
import Derived.Deep.DeepHandedRow
import Derived.Lib.LaidTab
import Derived.Stop.LaidErr
import Derived.MakeChecks
import Derived.LaidMore
import Derived.Lay
import Derived.SevenTiedAt
import Derived.Stop.Joined
namespace Go.Proofs.YtnnjkejejlhkdaaDoor
open Go.ChangeShapes Go.WideShapes Go.ChangeAt Go.RowKit

theorem own : ownKnob Tryd.prog.godebug = none := by kernel_rfl
theorem laidOut : laidOutB Tryd.prog = true := by kernel_rfl

/-- The rows' own list. -/
abbrev theLaid : List (String × DataW Unit) := [("twinstep/right.rows", Rows.laid_twinstep_right_rows)]

theorem laid_met (os : Os) (args : Array Value) : laidMetH Tryd.prog theLaid ((World.laidAll Tryd.prog os theLaid).forCall (fun _ _ => 0) ⟨#[], args, []⟩).memory := by
  rw [MakeChecks.laidMetH_plain _ _ _ (by kernel_rfl)]; exact laidMet_laidAll _ (by kernel_rfl) (by kernel_rfl)

theorem gRows : Tryd.prog.globalNamed "twinstep/right.rows" = some 0 := by kernel_rfl
theorem gRowsType : (Tryd.prog.globals[0]?).map (·.type) = some 85 := by kernel_rfl

def spanData (lo hi : Int) : DataW Unit := .agg [.lit (.int .i64 lo), .lit (.int .i64 hi)]
def rowData (r : Rt.Row) : DataW Unit := .agg [spanData r.slo r.shi, spanData r.tlo r.thi, spanData r.elo r.ehi, .lit (.bool r.hidden), .lit (.bool r.forks)]
theorem rowsSame : (Rows.laid_twinstep_right_rows : DataW Unit) = .agg (Rt.rowsT.map rowData) := by kernel_rfl

theorem chunks {α : Type} (C : Nat) (f : α → List Value) (hf : ∀ x, (f x).length = C) : ∀ (l : List α) (cs : List Value), cs.length = C * l.length → (∀ (i : Nat) (h : i < l.length), (cs.drop (i * C)).take C = f l[i]) → cs = l.flatMap f
  | [], cs, hl, _ => by
    have : cs = [] := List.length_eq_zero_iff.1 (by simpa using hl)
    rw [this]; rfl
  | a :: r, cs, hl, h => by
    have h0 := h 0 (by simp)
    simp only [Nat.zero_mul, List.drop_zero, List.getElem_cons_zero] at h0
    have hr := chunks C f hf r (cs.drop C) (by rw [List.length_drop, hl, List.length_cons, Nat.mul_succ]; omega) (fun i hi => by
      have := h (i + 1) (by rw [List.length_cons]; omega)
      rw [List.getElem_cons_succ] at this
      rw [List.drop_drop, ← this]
      congr 2
      rw [Nat.succ_mul]; omega)
    rw [List.flatMap_cons, ← h0, ← hr, List.take_append_drop]

section
variable {enc : TypeId × Value → Unit} {w : World} {base : Nat} {sp : Nat → Bool} {held : Bool}
/-- The parts of a struct that is read. -/
theorem parts_of {P : Program} {e : TypeId} {fuel : Nat} {cs : List Value} {p : List MemPlace} {ds : List (DataW Unit)} {lay : List (TypeId × Nat)} (hlay : (P.underlying e).map (fun u => match u with | .struct fs => fs.toList.map fun f => (f.type, f.offset) | _ => []) = some lay) (hne : lay ≠ [])
    (h : DataW.trod enc P w base sp held fuel e cs = some (.agg ds, p)) : cs.length = P.cellsOf e ∧ ds.length = lay.length ∧ ∃ m, ∀ (k : Nat) (hk : k < lay.length) (hd : k < ds.length), ∃ q, DataW.trod enc P w base sp held m lay[k].1 ((cs.drop lay[k].2).take (P.cellsOf lay[k].1)) = some (ds[k], q) := by
  obtain ⟨fs, hu, hfs⟩ : ∃ fs, P.underlying e = some (.struct fs) ∧ fs.toList.map (fun f => (f.type, f.offset)) = lay := by
    rw [Option.map_eq_some_iff] at hlay
    obtain ⟨u, hu, hm⟩ := hlay
    split at hm
    · exact ⟨_, hu, hm⟩
    · exact absurd hm.symm hne
  obtain ⟨ys, m, _, hy, hyl, hyn, hyi⟩ := DataW.trod_struct hu h
  have hy : ds = ys.map (·.1) := by simpa using congrArg Prod.fst hy
  have hsz : fs.size = lay.length := by rw [← hfs]; simp
  refine ⟨hyl, by rw [hy, List.length_map]; omega, m, fun k hk hd => ?_⟩
  have hkf : k < fs.size := by omega
  have h1 := hyi k fs[k] (Array.getElem?_eq_getElem hkf)
  have hky : k < ys.length := by rw [hy, List.length_map] at hd; exact hd
  have e1 : lay[k] = (fs[k].type, fs[k].offset) := by
    subst hfs
    simp
  rw [e1]
  refine ⟨ys[k].2, h1.trans ?_⟩
  rw [List.getElem?_eq_getElem hky]
  subst hy
  simp
set_option maxRecDepth 100000 in
theorem span_cells {fuel : Nat} {cs : List Value} {p : List MemPlace} {lo hi : Int} (h : DataW.trod enc Tryd.prog w base sp held fuel 51 cs = some (spanData lo hi, p)) : cs = [.int .i64 lo, .int .i64 hi] := by
  obtain ⟨hl, _, m, hk⟩ := parts_of (lay := [(3, 0), (3, 1)]) (by kernel_rfl) (by decide) h
  rw [show Tryd.prog.cellsOf 51 = 2 by kernel_rfl] at hl
  obtain ⟨q0, k0⟩ := hk 0 (by decide) (by simp)
  obtain ⟨q1, k1⟩ := hk 1 (by decide) (by simp)
  have k0 : DataW.trod enc Tryd.prog w base sp held m 3 ((cs.drop 0).take (Tryd.prog.cellsOf 3)) = some (.lit (.int .i64 lo), q0) := k0
  have k1 : DataW.trod enc Tryd.prog w base sp held m 3 ((cs.drop 1).take (Tryd.prog.cellsOf 3)) = some (.lit (.int .i64 hi), q1) := k1
  rw [show Tryd.prog.cellsOf 3 = 1 by kernel_rfl] at k0 k1
  obtain ⟨n0, c0, e0, -⟩ := DataW.trod_int Tryd.underlying3 k0
  obtain ⟨n1, c1, e1, -⟩ := DataW.trod_int Tryd.underlying3 k1
  simp only [Prod.mk.injEq, DataW.lit.injEq, Lit.int.injEq, true_and] at e0 e1
  match cs, hl with
  | [a, b], _ =>
    simp at c0 c1
    rw [c0, c1, e0.1, e1.1]
set_option maxRecDepth 100000 in
theorem bool_cell {m : Nat} {cs : List Value} {b : Bool} {q : List MemPlace} (h : DataW.trod enc Tryd.prog w base sp held m 4 cs = some (.lit (.bool b), q)) : cs = [.bool b] := by
  obtain ⟨n, c, e⟩ := DataW.trod_bool Tryd.underlying4 h
  simp only [Prod.mk.injEq, DataW.lit.injEq, Lit.bool.injEq] at e
  rw [c, e.1]
set_option maxRecDepth 100000 in
theorem row_cells {fuel : Nat} {cs : List Value} {p : List MemPlace} {r : Rt.Row} (h : DataW.trod enc Tryd.prog w base sp held fuel 84 cs = some (rowData r, p)) : cs = (Rt.rowCells r).toList := by
  obtain ⟨hl, _, m, hk⟩ := parts_of (lay := [(51, 0), (51, 2), (51, 4), (4, 6), (4, 7)]) (by kernel_rfl) (by decide) h
  rw [show Tryd.prog.cellsOf 84 = 8 by kernel_rfl] at hl
  obtain ⟨q0, k0⟩ := hk 0 (by decide) (by simp)
  obtain ⟨q1, k1⟩ := hk 1 (by decide) (by simp)
  obtain ⟨q2, k2⟩ := hk 2 (by decide) (by simp)
  obtain ⟨q3, k3⟩ := hk 3 (by decide) (by simp)
  obtain ⟨q4, k4⟩ := hk 4 (by decide) (by simp)
  have j0 := span_cells (lo := r.slo) (hi := r.shi) k0
  have j1 := span_cells (lo := r.tlo) (hi := r.thi) k1
  have j2 := span_cells (lo := r.elo) (hi := r.ehi) k2
  have j3 := bool_cell (b := r.hidden) k3
  have j4 := bool_cell (b := r.forks) k4
  have hs : Tryd.prog.cellsOf 51 = 2 := by kernel_rfl
  have hb : Tryd.prog.cellsOf 4 = 1 := by kernel_rfl
  have j0 : (cs.drop 0).take (Tryd.prog.cellsOf 51) = _ := j0
  have j1 : (cs.drop 2).take (Tryd.prog.cellsOf 51) = _ := j1
  have j2 : (cs.drop 4).take (Tryd.prog.cellsOf 51) = _ := j2
  have j3 : (cs.drop 6).take (Tryd.prog.cellsOf 4) = _ := j3
  have j4 : (cs.drop 7).take (Tryd.prog.cellsOf 4) = _ := j4
  rw [hs] at j0 j1 j2
  rw [hb] at j3 j4
  match cs, hl with
  | [a, b, c, d, e, f, g, i], _ =>
    simp at j0 j1 j2 j3 j4
    obtain ⟨rfl, rfl⟩ := j0
    obtain ⟨rfl, rfl⟩ := j1
    obtain ⟨rfl, rfl⟩ := j2
    subst j3 j4
    rfl
set_option maxRecDepth 100000 in
theorem rows_cells {fuel : Nat} {cs : List Value} {p : List MemPlace} (h : DataW.trod enc Tryd.prog w base sp held fuel 85 cs = some (.agg (Rt.rowsT.map rowData), p)) : cs = Rt.rowsCells := by
  obtain ⟨xs, m, _, hx, hl, hn, hi⟩ := DataW.trod_array Tryd.underlying85 h
  rw [show Tryd.prog.cellsOf 85 = 96 by kernel_rfl] at hl
  rw [show Tryd.prog.cellsOf 84 = 8 by kernel_rfl] at hi
  have hxs : xs.map (·.1) = Rt.rowsT.map rowData := by
    have := congrArg Prod.fst hx
    simpa using this.symm
  refine chunks 8 (fun r => (Rt.rowCells r).toList) (fun _ => rfl) Rt.rowsT cs (by rw [hl]; rfl) fun i hlt => ?_
  have h12 : i < 12 := hlt
  have h1 := hi i h12
  have hxi : i < xs.length := by omega
  have h2 : xs[i].1 = rowData Rt.rowsT[i] := by
    have e1 : (xs.map (·.1))[i]? = (Rt.rowsT.map rowData)[i]? := by rw [hxs]
    rw [List.getElem?_map, List.getElem?_map, List.getElem?_eq_getElem hxi, List.getElem?_eq_getElem hlt] at e1
    exact Option.some.inj e1
  rw [List.getElem?_eq_getElem hxi] at h1
  exact row_cells (h1.trans (congrArg some (Prod.ext h2 rfl)))
end

theorem block_of_var {P : Program} {w : World} {name : String} {g : Nat} {cs : Array Value} (hg : P.globalNamed name = some g) (h : w.var? P name = some cs) : ∃ T fr, w.heap[g]? = some (.cells cs T fr) := by
  unfold World.var? at h
  rw [hg] at h
  simp only [Option.bind_some] at h
  split at h
  · rename_i c T fr hc
    injection h with h
    subst h
    exact ⟨T, fr, hc⟩
  · cases h

/-- WHAT THE ROWS' LIST GIVES. -/
theorem vars_of {W : World} (h : laidMetH Tryd.prog theLaid W) : Rt.RowsTab W := by
  rw [MakeChecks.laidMetH_plain _ _ _ (by kernel_rfl)] at h
  rw [show theLaid = [("twinstep/right.rows", .agg (Rt.rowsT.map rowData))] from by unfold theLaid; rw [rowsSame]] at h
  obtain ⟨ps, ⟨g, t, cs, fuel, p, q, hg, ht, hvar, hd, _, _⟩, _⟩ := h
  obtain rfl := Option.some.inj (gRows.symm.trans hg)
  obtain rfl := Option.some.inj (gRowsType.symm.trans ht)
  have hcs := rows_cells hd
  have hcs2 : cs = Rt.rowsCells.toArray := by rw [← hcs]
  subst hcs2
  exact block_of_var gRows hvar

end Go.Proofs.YtnnjkejejlhkdaaDoor
