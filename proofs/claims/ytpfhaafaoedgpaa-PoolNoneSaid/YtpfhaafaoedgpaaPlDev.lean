/-
  Layer 12: the developers' pool: was it made; what is left; what it tells.
-/
import Derived.Test.YtpfhaafaoedgpaaPlPop
import Derived.LaidEqlPtr
namespace Go.Proofs.Ytpfhaafaoedgpaa.Pl
open Go Go.RowKit

theorem same_ptr (b : Nat) (w : World) : (binOp .eql 22 (.pointer (some ⟨b, 0, none⟩)) (.pointer (some ⟨b, 0, none⟩))).run Try.prog w = .ok (.bool true) w := by
  obtain ⟨j, hj⟩ : ∃ j, Try.prog.info? 52 = some j := Option.isSome_iff_exists.1 (show (Try.prog.info? 52).isSome = true by kernel_rfl)
  exact run_eql_ptr_same w _ Try.underlying22 hj
theorem nil_ptr (b : Nat) (w : World) : (binOp .eql 22 (.pointer none) (.pointer (some ⟨b, 0, none⟩))).run Try.prog w = .ok (.bool false) w := by
  have h : ∀ d : Nat, (Op.equalIn (d + 1) 22 (.pointer none) (.pointer (some ⟨b, 0, none⟩))).run Try.prog w = .ok false w := fun d => by
    simp [Op.equalIn, run_underlying Try.underlying22]
  simp only [binOp]
  simp [Op.equal, Op.maxDepth, h 9999]
theorem made_fn (b : Nat) (w : World) (hb : w.cell? ⟨b, 0, none⟩ = some (.pointer (some ⟨b, 0, none⟩))) :
    Calls Try.prog 26 #[.pointer (some ⟨b, 0, none⟩)] w fun e w' => e = .returned (.bool true) ∧ w' = w := by
  have hq := same_ptr b w
  go_enter Try.func26, Try.ntmps26
  go_wp2_with fail
  go_ret
  exact ⟨rfl, rfl⟩
/-- A pool that is none: nil, or a struct whose pointer to itself is nil. -/
def Dead (w : World) (p : Value) : Prop := p = .pointer none ∨ ∃ b, p = .pointer (some ⟨b, 0, none⟩) ∧ w.cell? ⟨b, 0, none⟩ = some (.pointer none)
theorem Dead.below {w w' : World} {p : Value} (h : Dead w p) (hb : Below w.heap.size w w') : Dead w' p := by
  rcases h with h | ⟨b, h, hc⟩
  · exact .inl h
  · exact .inr ⟨b, h, (hb.cell (p := ⟨b, 0, none⟩) (World.block_lt_of_cell? _ _ hc)).trans hc⟩
theorem made_dead (p : Value) (w : World) (hp : Dead w p) :
    Calls Try.prog 26 #[p] w fun e w' => e = .returned (.bool false) ∧ w' = w := by
  rcases hp with rfl | ⟨b, rfl, hc⟩
  · go_enter Try.func26, Try.ntmps26
    go_wp2_with fail
    go_ret
    exact ⟨rfl, rfl⟩
  · have hq := nil_ptr b w
    go_enter Try.func26, Try.ntmps26
    go_wp2_with fail
    go_ret
    exact ⟨rfl, rfl⟩
end Go.Proofs.Ytpfhaafaoedgpaa.Pl
