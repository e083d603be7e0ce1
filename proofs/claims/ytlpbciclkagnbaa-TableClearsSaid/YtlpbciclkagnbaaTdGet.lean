/-
  Layer 13: the developers' table: was it made; what is a key, a value; Get, Len, Count, New.
-/
import Derived.Test.YtlpbciclkagnbaaTdTie
import Derived.Test.YtlpbciclkagnbaaTbAbs
import Derived.LaidEqlPtr
import Derived.Carry
namespace Go.Proofs.Ytlpbciclkagnbaa.Td
open Go Go.RowKit Go.Proofs.Ytlpbciclkagnbaa.Pl Go.Proofs.Ytlpbciclkagnbaa.Tb

theorem same_ptr (b : Nat) (w : World) : (binOp .eql 25 (.pointer (some ⟨b, 0, none⟩)) (.pointer (some ⟨b, 0, none⟩))).run Try.prog w = .ok (.bool true) w := by
  obtain ⟨j, hj⟩ : ∃ j, Try.prog.info? 32 = some j := Option.isSome_iff_exists.1 (show (Try.prog.info? 32).isSome = true by kernel_rfl)
  exact run_eql_ptr_same w _ Try.underlying25 hj
theorem nil_ptr (b : Nat) (w : World) : (binOp .eql 25 (.pointer none) (.pointer (some ⟨b, 0, none⟩))).run Try.prog w = .ok (.bool false) w := by
  have h : ∀ d : Nat, (Op.equalIn (d + 1) 25 (.pointer none) (.pointer (some ⟨b, 0, none⟩))).run Try.prog w = .ok false w := fun d => by
    simp [Op.equalIn, run_underlying Try.underlying25]
  simp only [binOp]
  simp [Op.equal, Op.maxDepth, h 9999]
theorem made_fn (b : Nat) (w : World) (hb : w.cell? ⟨b, 0, none⟩ = some (.pointer (some ⟨b, 0, none⟩))) :
    Calls Try.prog 17 #[.pointer (some ⟨b, 0, none⟩)] w fun e w' => e = .returned (.bool true) ∧ w' = w := by
  have hq := same_ptr b w
  go_enter Try.func17, Try.ntmps17
  go_wp2_with fail
  go_ret
  exact ⟨rfl, rfl⟩
theorem dead_fn (g : Nat) (k : Nat) (w : World) (h : w.cell? ⟨g, 2, none⟩ = some (.int .u8 (k : Int))) :
    Calls Try.prog 20 #[.pointer (some ⟨g, 0, none⟩)] w fun e w' => e = .returned (.bool (decide (k = 0))) ∧ w' = w := by
  by_cases hk : k = 0
  · subst hk
    go_enter Try.func20, Try.ntmps20
    go_wp2_with fail
    go_ret
    exact ⟨rfl, rfl⟩
  · have hk2 : ¬ (k : Int) = 0 := by omega
    rw [decide_eq_false hk]
    clear hk
    go_enter Try.func20, Try.ntmps20
    go_wp2_with fail
    go_ret
    exact ⟨ret_bool (by simp; omega), rfl⟩
set_option maxRecDepth 100000 in
theorem value_fn (v : Vl) (w : World) (h : v.In) :
    Calls Try.prog 22 #[v.val] w fun e w' => e = .returned (.bool (valB v)) ∧ Below w.heap.size w w' := by
  obtain ⟨k, n⟩ := v
  obtain ⟨h1, h2, h3⟩ := h
  dsimp only at h1 h2 h3
  have hx := new_block w (.cells #[.int .u8 (k : Int), .int .i64 n] 24)
  have y0 := cell_of hx 0 _ rfl
  have y1 := cell_of hx 1 _ rfl
  have hb := (Below.refl w.heap.size w).alloc (Nat.le_refl _) (.cells #[.int .u8 (k : Int), .int .i64 n] 24)
  have HB := Lib.hid hb
  clear hb hx
  obtain ⟨q, hq⟩ : ∃ q : Int, (k : Int) = q := ⟨_, rfl⟩
  have e : valB ⟨k, n⟩ = (decide (q ≤ 8) && (decide (2 < q) || decide (n = 0))) := by
    unfold valB plainB
    dsimp only
    rw [← hq, show decide (k ≤ 8) = decide ((k : Int) ≤ 8) from decide_eq_decide.2 (by omega), show decide (2 < k) = decide (2 < (k : Int)) from decide_eq_decide.2 (by omega)]
  rw [e]
  have hq0 : 0 ≤ q ∧ q < 256 := by omega
  show Calls _ _ #[.agg #[.int .u8 (k : Int), .int .i64 n]] w _
  rw [hq] at HB y0 y1 ⊢
  clear e hq h1
  by_cases c0 : q ≤ 2
  · by_cases cn : n = 0
    · subst cn
      rcases (show q = 0 ∨ q = 1 ∨ q = 2 by omega) with rfl | rfl | rfl <;>
      · go_enter Try.func22, Try.ntmps22
        go_wp2_with fail
        go_ret
        exact ⟨rfl, HB.out⟩
    · rcases (show q = 0 ∨ q = 1 ∨ q = 2 by omega) with rfl | rfl | rfl <;>
      · go_enter Try.func22, Try.ntmps22
        go_wp2_with fail
        go_ret
        exact ⟨ret_bool (by simp [cn]), HB.out⟩
  · have d0 : ¬ q = 0 := by omega
    have d1 : ¬ q = 1 := by omega
    have d2 : ¬ q = 2 := by omega
    have d3 : 3 ≤ q := by omega
    have d4 : 2 < q := by omega
    by_cases c8 : q ≤ 8
    · go_enter Try.func22, Try.ntmps22
      go_wp2_with fail
      go_ret
      exact ⟨ret_bool (by simp), HB.out⟩
    · go_enter Try.func22, Try.ntmps22
      go_wp2_with fail
      go_ret
      exact ⟨ret_bool (by simp [c8]), HB.out⟩
set_option maxRecDepth 100000 in
theorem key_fn (v : Vl) (w : World) (h : v.In) :
    Calls Try.prog 21 #[v.val] w fun e w' => e = .returned (.bool (keyB v)) ∧ Below w.heap.size w w' := by
  have e : keyB v = (decide (¬ v.kind = 0) && valB v) := by
    unfold keyB valB
    rw [show decide (1 ≤ v.kind) = decide (¬ v.kind = 0) from decide_eq_decide.2 (by omega)]
  rw [e]
  clear e
  have hx := new_block w (.cells #[.int .u8 (v.kind : Int), .int .i64 v.n] 24)
  have y0 := cell_of hx 0 _ rfl
  have y1 := cell_of hx 1 _ rfl
  have hb := (Below.refl w.heap.size w).alloc (Nat.le_refl _) (.cells #[.int .u8 (v.kind : Int), .int .i64 v.n] 24)
  have c := value_fn v (w.alloc (.cells #[.int .u8 (v.kind : Int), .int .i64 v.n] 24)) h
  have HB := Lib.hid hb
  clear hb hx
  unfold Vl.val Vl.cells at c ⊢
  generalize valB v = B at *
  obtain ⟨k, n⟩ := v
  dsimp only at *
  by_cases hk : k = 0
  · subst hk
    go_enter Try.func21, Try.ntmps21
    go_wp2_with fail
    go_ret
    exact ⟨ret_bool (by simp), HB.out⟩
  · have hk2 : ¬ (k : Int) = 0 := by omega
    rw [decide_eq_true hk]
    clear hk h
    go_enter Try.func21, Try.ntmps21
    go_wp2_with fail
    refine c.mono ?_
    rintro e w1 ⟨rfl, h1⟩
    have HB1 := Lib.hid (HB.out.trans (h1.mono HB.out.size))
    clear h1
    go_wp2_with fail
    go_ret
    exact ⟨ret_bool (by simp; intro _; omega), HB1.out⟩
end Go.Proofs.Ytlpbciclkagnbaa.Td
