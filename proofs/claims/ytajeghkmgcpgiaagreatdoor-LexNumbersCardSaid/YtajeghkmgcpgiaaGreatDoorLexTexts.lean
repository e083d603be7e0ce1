/-
  twinsteplow.SameTexts, by contract.
-/
import Derived.Test.YtajeghkmgcpgiaaGreatDoorLexAwake
namespace Go.Proofs.YtajeghkmgcpgiaaGreatDoor.Lex
open Go.RowKit

/-- A slice that reads as a list of texts. -/
def TxReads (w : World) (v : Value) (l : List ByteArray) : Prop :=
  ∃ ao cap, v = .slice ao l.length cap ∧ (l ≠ [] → ∃ g, g < w.heap.size ∧ ao = some ⟨g, 0, none⟩ ∧ ∀ (i : Nat) (h : i < l.length), w.cell? ⟨g, i, none⟩ = some (.string l[i]))
theorem TxReads.below {w w' : World} {v : Value} {l : List ByteArray} (h : TxReads w v l) (hb : Below w.heap.size w w') : TxReads w' v l := by
  obtain ⟨ao, cap, rfl, h⟩ := h
  refine ⟨ao, cap, rfl, fun hl => ?_⟩
  obtain ⟨g, hg, rfl, hc⟩ := h hl
  refine ⟨g, by have := hb.size; omega, rfl, fun i hi => ?_⟩
  rw [hb.cell (p := ⟨g, i, none⟩) hg]
  exact hc i hi

set_option maxHeartbeats 4000000 in
theorem same_texts (x y : Value) (a : List ByteArray) (w : World) (hx : TxReads w x a) (hy : TxReads w y a) (ha : a.length ≤ 1000000000) :
    Calls Tryz.prog 13 #[x, y] w fun e w' => e = .returned (.bool true) ∧ Below w.heap.size w w' := by
  obtain ⟨ao, ca, rfl, hca⟩ := hx
  obtain ⟨bo, cb, rfl, hcb⟩ := hy
  obtain ⟨n, hna⟩ : ∃ n, n = a.length := ⟨_, rfl⟩
  rw [← hna]
  rw [← hna] at ha
  go_enter Tryz.func13, Tryz.ntmps13
  go_wp2_with fail
  go_loopg [5] n (fun r i wr => ∃ k : Nat, r = n - k ∧ i = .int .i64 k ∧ k ≤ n ∧ Below w.heap.size w wr)
  case atStart => exact ⟨0, rfl, rfl, Nat.zero_le _, Below.refl _ _⟩
  case round =>
    obtain ⟨k, rfl, rfl, hk, hbw⟩ := hrel
    by_cases hlt : k < n
    · have hlt' : (k : Int) < n := by omega
      have hlta : k < a.length := by omega
      obtain ⟨g, hg, rfl, hc⟩ := hca (fun h => by rw [h] at hlta; cases hlta)
      obtain ⟨g2, hg2, rfl, hd⟩ := hcb (fun h => by rw [h] at hlta; cases hlta)
      have c0 := hc k hlta
      have d0 := hd k hlta
      rw [← hbw.cell (p := ⟨g, _, none⟩) hg] at c0
      rw [← hbw.cell (p := ⟨g2, _, none⟩) hg2] at d0
      generalize a[k] = t at *
      have HBW := Lib.hid hbw
      clear hca hcb hc hd hbw
      have e0 := IntWalk.i64_in k (by omega)
      go_wp2_with fail
      go_quiet (fail)
      have HB2 := Lib.hid (below_drewN HBW.out nq)
      clear e0 c0 d0
      go_wp2_with fail
      go_roundg (n - (k + 1))
      case measure => omega
      case rel => exact ⟨k + 1, rfl, by go_num, by omega, HB2.out⟩
    · have hnlt : ¬ (k : Int) < n := by omega
      have HBW := Lib.hid hbw
      clear hbw
      go_wp2_with fail
      go_ret
      exact ⟨rfl, HBW.out⟩

end Go.Proofs.YtajeghkmgcpgiaaGreatDoor.Lex
