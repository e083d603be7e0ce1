/-
  Through any script every answer is as the document defines, and so are all numbers and sizes: the law PoolPlays returns true for every bound and every script. No condition.
-/
import Derived.Test.YtpfhaafaoedgpaaPlTakF
import Derived.Test.YtpfhaafaoedgpaaPlPlays
import Derived.WalkKit
import Derived.ProofKit
import Derived.OpenShut
import Derived.Below
namespace Go.Proofs.Ytpfhaafaoedgpaa.poolPlays
open Go.ChangeShapes Go.WideShapes Go.ChangeAt Go.RowKit Go.Deep
open Go.Proofs.Ytpfhaafaoedgpaa.Pl

theorem own : ownKnob Try.prog.godebug = none := by kernel_rfl
theorem laidOut : laidOutB Try.prog = true := by kernel_rfl

section
variable {H : Type} {enc : TypeId × Value → H} {w : World} {base : Nat} {spare : Nat → Bool} {held : Bool}
theorem op_each : Each enc w base spare held 42 3 Op3.C := fun fuel b o cs x hc ht => by
  obtain ⟨n, Hf⟩ := fields_lie Try.underlying42 (by kernel_rfl) (by kernel_rfl) hc ht
  obtain ⟨v0, y0, c0, t0⟩ := Hf 0 _ rfl
  obtain ⟨v1, y1, c1, t1⟩ := Hf 1 _ rfl
  obtain ⟨v2, y2, c2, t2⟩ := Hf 2 _ rfl
  obtain ⟨z0, e0, _, f0⟩ := DataW.trod_int Try.underlying3 t0
  obtain ⟨z1, e1, _, f1⟩ := DataW.trod_int Try.underlying3 t1
  obtain ⟨z2, e2, _, f2⟩ := DataW.trod_int Try.underlying3 t2
  obtain rfl := (List.cons.inj e0).1
  obtain rfl := (List.cons.inj e1).1
  obtain rfl := (List.cons.inj e2).1
  refine ⟨⟨z0, z1, z2⟩, _, ⟨rfl, bounds_i64 f0, bounds_i64 f1, bounds_i64 f2⟩, fun j hj => ?_⟩
  match j, hj with
  | 0, _ => exact ⟨by simp, c0⟩
  | 1, _ => exact ⟨by simp, c1⟩
  | 2, _ => exact ⟨by simp, c2⟩
theorem ops_lie {fuel : Nat} {v : Value} {x : DataW H × List MemPlace} (h : DataW.trod enc Try.prog w base spare held fuel 35 [v] = some x) : ∃ l : List Op3, RowsP 3 Op3.C (fun _ => True) w v l :=
  rows_lie Try.underlying35 (by kernel_rfl) (by decide) op_each h
end

set_option maxRecDepth 100000 in
theorem lifted (PA : PoolP) (HS : PoolSays PA) (os : Os) (started : os.Started) (H : Type) (enc : TypeId × Value → H) :
    ReturnsInHanded {} Try.checked os 4 .any (Rows.poolPlaysSpec.pre6 enc Try.prog Try.f4 Rows.poolPlaysRow.domain false) (Rows.poolPlaysSpec.post enc Try.prog Try.f4 false true false false) := by
  refine returnsInHanded_of_change (C := Try.checked) own started (by kernel_rfl) Try.func4
    (ChangeSpec.witness6 (enc := enc) (C := Try.checked) false ⟨#[], #[.int .i64 0, .slice none 0 0], []⟩ 8 (by kernel_rfl) (by kernel_rfl) (by kernel_rfl) (by kernel_rfl)) ?_
  intro W base args ds gs before hval0 hW _ hsz0
  have hval : ∀ (j : Nat) t v, Try.f4.params[j]? = some t → args[j]? = some v → Value.okWide Try.prog W .any base t v := hval0
  have hW' := hW
  obtain ⟨p, q, hA0, hV, rfl, hfz, hnd⟩ := hW
  have hA : DataW.TrodAll enc Try.prog W 0 (fun _ => true) true Try.f4.params.toList args.toList ds p := hA0
  rw [Try.params4] at hA hval
  obtain ⟨v0, vs0, d0, ds0, p0, q0, hargs, rfl, rfl, h0, r0⟩ := trodAll_cons hA
  obtain ⟨v1, vs1, d1, ds1, p1, q1, rfl, rfl, rfl, h1, r1⟩ := trodAll_cons r0
  obtain ⟨rfl, rfl, rfl⟩ := trodAll_nil r1
  obtain rfl : args = #[v0, v1] := by cases args; simp_all
  obtain ⟨rfl, rfl⟩ := trodVars_none hV
  obtain ⟨a0, rfl, rfl, rfl, w0⟩ := open_int Try.underlying3 (hval 0 3 v0 rfl rfl) h0
  obtain ⟨a1, len, cap, rfl⟩ := okWide_slice Try.underlying35 (hval 1 35 v1 rfl rfl)
  have h1k := h1
  obtain ⟨fuel, hf⟩ := h1
  obtain ⟨os, hZ⟩ := ops_lie hf
  clear hA0 hval0 hsz0
  simp only [List.append_nil] at hW'
  have hlt : ∀ x ∈ p1, x.block < W.heap.size := fun x hx => by simpa using hW'.lt x (by simpa using hx)
  have hback1 : ∀ (W' : World), Below W.heap.size W W' → DataW.Trod enc Try.prog W' 0 (fun b => decide (b < W.heap.size)) true 35 (.slice a1 len cap) d1 p1 :=
    fun W' hn => Below.trod laidOut (by kernel_rfl) (of_decide_eq_true (by kernel_rfl)) h1k hn hlt
  refine (plays_walk PA HS a0 (bounds_i64 w0) (.slice a1 len cap) os W hZ).mono fun e W' ⟨he, hg⟩ => ?_
  subst he
  exact ⟨_, rfl, _, _, _, [], _, [], hW', (trodAll_cons_mk (shut_bool Try.underlying4 _) trodAll_mk0), (trodAll_cons_mk (shut_int Try.underlying3 w0) (trodAll_cons_mk (hback1 _ hg) trodAll_mk0)), rfl, hg.frame _, fun h => by cases h⟩

theorem over (PA : PoolP) (HS : PoolSays PA) : Rows.poolPlaysRow.holds Try.pinned (OpenSpec.ofChange Rows.poolPlaysSpec) :=
  OpenClaim.holds_of_wide 4 Try.f4 rfl rfl rfl rfl rfl rfl rfl ⟨rfl, rfl, rfl, rfl, rfl⟩ rfl rfl rfl rfl rfl (by kernel_rfl) Try.func4 (by kernel_rfl)
    (of_decide_eq_true (by kernel_rfl)) (by unfold Func.isWrapper; first | (rw [if_pos (by decide +kernel)]; kernel_rfl) | (rw [if_neg (by decide +kernel)]; exact ⟨rfl, rfl⟩))
    (fun os started H enc _ => lifted PA HS os started H enc)
theorem proved : Rows.PoolPlaysSaid := over PA pool_says
end Go.Proofs.Ytpfhaafaoedgpaa.poolPlays
