/-
  Maps whose keys are values (api.Value): what a key reads as. Nothing of one layer.
-/
import Derived.Test.YtlpbciclkagnbaaTbOb
import Derived.Maps.OwnSet
import Derived.DeepKeys4
namespace Go.Proofs.Ytlpbciclkagnbaa.Vm
open Go Go.RowKit Go.Proofs.Ytlpbciclkagnbaa.Pl Go.Proofs.Ytlpbciclkagnbaa.Tb Go.Maps Go.WideShapes

theorem laidOutV : laidOutB Try.prog = true := by kernel_rfl
theorem wideV : (match Try.prog.underlying 24 with | some (.array _ _) | some (.struct _) => true | _ => false) = true := by rw [Try.underlying24]
theorem rowV : (24 : TypeId) < Try.prog.types.size := of_decide_eq_true (by kernel_rfl)
theorem keyTypeV : Try.prog.keyTypeAt 2 24 = true := by kernel_rfl
set_option maxRecDepth 1000000 in
theorem keyLawV : WideMaps.KeyLaw Try.prog 24 := deep_law_laid laidOutV (m := 2) (Nat.le_of_ble_eq_true rfl) rowV keyTypeV wideV
theorem keyedV : Keyed Try.prog 24 := Keyed.of_law keyLawV
theorem cellsOfV : Try.prog.cellsOf 24 = 2 := by kernel_rfl
theorem cellsOfK : Try.prog.cellsOf 22 = 1 := by kernel_rfl
theorem cellsOfN : Try.prog.cellsOf 2 = 1 := by kernel_rfl
theorem keyTyV : Try.prog.keyType 24 = true := by kernel_rfl
theorem litsV (d : Nat) (k n : Int) (w0 : (Lit.int .u8 k).wf = true) (w1 : (Lit.int .i64 n).wf = true) : Try.prog.keyLits (d + 1 + 1) 24 [.int .u8 k, .int .i64 n] = some [.int .u8 k, .int .i64 n] := by
  have e0 : Try.prog.keyLits (d + 1) 22 [.int .u8 k] = some [.int .u8 k] := by
    unfold Program.keyLits
    rw [Try.underlying22]
    simp [w0]
  have e1 : Try.prog.keyLits (d + 1) 2 [.int .i64 n] = some [.int .i64 n] := by
    unfold Program.keyLits
    rw [Try.underlying2]
    simp [w1]
  unfold Program.keyLits
  rw [Try.underlying24]
  simp [cellsOfV, cellsOfK, cellsOfN, e0, e1]
/-- What a value reads as, where it is a key. -/
def kV (v : Vl) : Lit := .string (keyBytes [.int .u8 (v.kind : Int), .int .i64 v.n])
set_option maxRecDepth 100000 in
theorem kV_of (v : Vl) (h : v.In) : keyOf Try.prog 24 v.val = some (kV v) := by
  obtain ⟨k, n⟩ := v
  obtain ⟨h1, h2, h3⟩ := h
  dsimp only at h1 h2 h3
  have w0 : (Lit.int .u8 (k : Int)).wf = true := WalkArith.wf_u8 (by constructor <;> omega)
  have w1 : (Lit.int .i64 n).wf = true := WalkArith.wf_i64 ⟨h2, h3⟩
  have hf : Value.formed Try.prog 24 (.agg #[.int .u8 (k : Int), .int .i64 n]) = true := by simp [Value.formed, Try.underlying24, cellsOfV]
  obtain ⟨d, hd⟩ : ∃ d, Try.prog.types.size + 1 = d + 1 + 1 := ⟨Try.prog.types.size - 1, by kernel_rfl⟩
  show keyOf Try.prog 24 (.agg #[.int .u8 (k : Int), .int .i64 n]) = _
  unfold keyOf
  rw [Try.underlying24]
  dsimp only
  rw [keyTyV, hf, Bool.and_self, if_pos rfl, hd]
  rw [show (Value.agg #[.int .u8 (k : Int), .int .i64 n]).cells.toList = [.int .u8 (k : Int), .int .i64 n] from rfl, litsV d k n w0 w1]
  rfl
theorem kV_key (v : Vl) : WideAt.IsKeyLit (kV v) := by unfold kV WideAt.IsKeyLit; trivial
set_option maxRecDepth 100000 in
theorem kV_ne {a b : Vl} (ha : a.In) (hb : b.In) (h : a ≠ b) : kV a ≠ kV b := fun e => h (by
  have h1 := kV_of a ha
  have h2 := kV_of b hb
  rw [← e] at h2
  have h3 := keyedV.inj h1 h2
  obtain ⟨ak, an⟩ := a
  obtain ⟨bk, bn⟩ := b
  have h3 : Value.agg #[.int .u8 (ak : Int), .int .i64 an] = .agg #[.int .u8 (bk : Int), .int .i64 bn] := h3
  injection h3 with h3
  have h4 := congrArg Array.toList h3
  injection h4 with h5 h6
  injection h6 with h6
  injection h5 with _ h5
  injection h6 with _ h6
  rw [Vl.mk.injEq]
  exact ⟨by omega, h6⟩)
end Go.Proofs.Ytlpbciclkagnbaa.Vm
