import Derived.Test.YthejclgihhfenaaClK4
import Derived.Test.YthejclgihhfenaaCm5
import Derived.Carry
import Derived.Deep.RegionHeld3
import Derived.Deep.CutBlock
import Derived.Deep.DeepCutAuto
import Derived.Deep.LoopGhost
/-
  Layer 14, HeapKeeps: what its switch begins and ends with.
-/
namespace Go.Proofs.Ythejclgihhfenaa.Hp
open Go Go.RowKit Go.Proofs.Ythejclgihhfenaa.Pl Go.Proofs.Ythejclgihhfenaa.Tb Go.Proofs.Ythejclgihhfenaa.Vm

theorem pick_kp (x n : Int) (w : World) (hx : In64 x) (hn : In64 n) (h : 1 ≤ n) : Calls Try.prog 6 #[.int .i64 x, .int .i64 n] w fun e w' => e = .returned (.int .i64 (x % n)) ∧ w = w' := by
  obtain ⟨hx1, hx2⟩ := hx
  obtain ⟨hn1, hn2⟩ := hn
  have hne : (n == 0) = false := by rw [beq_eq_false_iff_ne]; omega
  have hq := Int.emod_nonneg x (show n ≠ 0 by omega)
  have hq2 := Int.emod_lt_of_pos x (show 0 < n by omega)
  have h1n : ¬ n < 1 := by omega
  by_cases h0 : x.tmod n < 0
  · have ha : x.tmod n + n = x % n := by
      have := Int.tmod_eq_emod (a := x) (b := n)
      split at this <;> omega
    have hw : IntKind.i64.wrap (x.tmod n + n) = x % n := by rw [ha]; exact IntWalk.i64_in _ (by omega)
    have hw0 := IntWalk.i64_in (x.tmod n) (by omega)
    generalize x % n = q at *
    obtain ⟨r, hr⟩ : ∃ r, x.tmod n = r := ⟨_, rfl⟩
    rw [hr] at h0 hw hw0 ha
    go_enter Try.func6, Try.ntmps6
    go_wp2_with fail
    go_ret
    exact ⟨by go_num, rfl⟩
  · have ha : x.tmod n = x % n := by
      have := Int.tmod_eq_emod (a := x) (b := n)
      split at this <;> omega
    have hw0 := IntWalk.i64_in (x.tmod n) (by omega)
    obtain ⟨r, hr⟩ : ∃ r, x.tmod n = r := ⟨_, rfl⟩
    rw [hr] at h0 hw0 ha
    rw [← ha]
    go_enter Try.func6, Try.ntmps6
    go_wp2_with fail
    go_ret
    exact ⟨by go_num, rfl⟩
/-- The calls that are handed in. -/
def OpsAt (w : World) (ao : Option Addr) (n : Nat) : Prop := ∀ j, j < n → ∃ g off k a b c m s, ao = some ⟨g, off, none⟩ ∧ g < w.heap.size ∧ In64 k ∧ In64 a ∧
  w.cell? ⟨g, off + j * 6, none⟩ = some (.int .i64 k) ∧ w.cell? ⟨g, off + j * 6 + 1, none⟩ = some (.int .i64 a) ∧ w.cell? ⟨g, off + j * 6 + 2, none⟩ = some (.int .i64 b) ∧ w.cell? ⟨g, off + j * 6 + 3, none⟩ = some (.int .i64 c) ∧ w.cell? ⟨g, off + j * 6 + 4, none⟩ = some (.int .i64 m) ∧ w.cell? ⟨g, off + j * 6 + 5, none⟩ = some (.string s)
/-- What stands when k calls have been made. -/
def KpAt (HP : HeapP) (w0 : World) (b mb ob k : Nat) (v : Value) (w : World) : Prop :=
  ∃ S m N L, KOk S (4 * k) ∧ L.length ≤ k ∧ (∀ u ∈ L, u.In) ∧ N ≤ k ∧ KpS HP w0 b mb (kpH S m) (wantS S) (cntS S) N v L [(ob, .cells #[.int .u8 3, .int .i64 1] 31)] w
theorem size_a (w : World) (o : Obj) : (w.alloc o).heap.size = w.heap.size + 1 := by simp
theorem nil_In' : nilV.In := ⟨by show 0 < 256; decide, by show -9223372036854775808 ≤ (0 : Int); decide, by show (0 : Int) ≤ 9223372036854775807; decide⟩
theorem one_In : oneV.In := ⟨by show 3 < 256; decide, by show -9223372036854775808 ≤ (1 : Int); decide, by show (1 : Int) ≤ 9223372036854775807; decide⟩
theorem want_nil (v : Vl) : wantS [] v = none := by
  unfold wantS
  rw [at_get]
  split <;> rfl
def findBlk (n : Nat) : Code → Option Code
  | .seq a b => match findBlk n a with
    | some r => some r
    | none => findBlk n b
  | .block k c => if k = n then some (.block k c) else findBlk n c
  | .loop c => findBlk n c
  | .scope c => findBlk n c
  | .cond _ a b => match findBlk n a with
    | some r => some r
    | none => findBlk n b
  | _ => none
noncomputable def swCode : Code := ((Try.f3.body).bind (findBlk 2)).getD .skip

end Go.Proofs.Ythejclgihhfenaa.Hp
