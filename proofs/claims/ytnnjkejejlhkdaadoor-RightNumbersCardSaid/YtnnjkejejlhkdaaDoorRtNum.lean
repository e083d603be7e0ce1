/-
  Layer 9: whether an expression has a number, and kids, that its kind may have.
-/
import Derived.Test.YtnnjkejejlhkdaaDoorRtFn
namespace Go.Proofs.YtnnjkejejlhkdaaDoor.Rt
open Go Go.RowKit

def exCells (e : Ex) (vk : Value) : Array Value := #[.int .u8 (e.k : Int), .int .i64 e.n, vk]
/-- An expression in a block of the call's own. -/
def ExAt (b : Nat) (e : Ex) (w : World) : Prop := ∃ vk, w.heap[b]? = some (.cells (exCells e vk) 41 (0, 0)) ∧ LstB w.heap.size w vk (ints e.kids) ∧ e.k < 256 ∧ In64 e.n
theorem ExAt.below {b : Nat} {e : Ex} {w w' : World} (h : ExAt b e w) (hb : Below w.heap.size w w') : ExAt b e w' := by
  obtain ⟨vk, h1, h2, r⟩ := h
  exact ⟨vk, by rw [hb.block b (lt_of_get h1)]; exact h1, (h2.below hb).mono hb.size, r⟩

set_option maxHeartbeats 1000000 in
set_option maxRecDepth 100000 in
theorem below_fn (b : Nat) (e : Ex) (x : Int) (w : World) (h : ExAt b e w) :
    Calls Tryd.prog 52 #[.int .i64 x, .pointer (some ⟨b, 0, none⟩)] w fun r w' => w' = w ∧ r = .returned (.bool (belowB e x)) := by
  obtain ⟨vk, hh, _⟩ := h
  have c1 := cell_of hh 1 (.int .i64 e.n) rfl
  unfold belowB
  clear hh
  by_cases h1 : e.n < 0
  · rw [decide_eq_false (by omega)]
    go_enter Tryd.func52, Tryd.ntmps52
    go_wp2_with fail
    go_ret
    exact ⟨rfl, rfl⟩
  · have h2 : 0 ≤ e.n := by omega
    rw [decide_eq_true h2]
    go_enter Tryd.func52, Tryd.ntmps52
    go_wp2_with fail
    go_ret
    exact ⟨rfl, rfl⟩

set_option maxHeartbeats 1000000 in
set_option maxRecDepth 100000 in
theorem oper_fn (b : Nat) (e : Ex) (x y : Int) (w : World) (h : ExAt b e w) (hx : 0 ≤ x ∧ x < 256) (hy : 0 ≤ y ∧ y < 256) :
    Calls Tryd.prog 53 #[.int .u8 x, .int .u8 y, .pointer (some ⟨b, 0, none⟩)] w fun r w' => w' = w ∧ r = .returned (.bool (operB e x y)) := by
  obtain ⟨vk, hh, _⟩ := h
  have c1 := cell_of hh 1 (.int .i64 e.n) rfl
  unfold operB
  clear hh
  obtain ⟨hx0, hx1⟩ := hx
  obtain ⟨hy0, hy1⟩ := hy
  by_cases h1 : e.n < x
  · rw [decide_eq_false (by omega)]
    go_enter Tryd.func53, Tryd.ntmps53
    go_wp2_with fail
    go_ret
    exact ⟨rfl, rfl⟩
  · have h2 : x ≤ e.n := by omega
    rw [decide_eq_true h2]
    go_enter Tryd.func53, Tryd.ntmps53
    go_wp2_with fail
    go_ret
    exact ⟨rfl, rfl⟩

set_option maxHeartbeats 4000000 in
set_option maxRecDepth 100000 in
theorem num_4 (F : Nat) (f : Pr) (strs protos : Nat) (e : Ex) (vk : Value) (w : World) (hF : FnAt F f strs protos w) (hk : LstB w.heap.size w vk (ints e.kids)) (h256 : e.k < 256) (hn : In64 e.n) (hc : e.k = 4) :
    Calls Tryd.prog 42 #[.pointer (some ⟨F, 0, none⟩), .agg (exCells e vk)] w fun r w' => r = .returned (.bool (true)) ∧ Below w.heap.size w w' := by
  have hmf := run_mf
  obtain ⟨ak, ck, rfl, _⟩ := hk.slice
  have hA : ∀ o, o = Obj.cells (exCells e (.slice ak (ints e.kids).length ck)) 41 (0, 0) → ExAt w.heap.size e (w.alloc o) := fun o ho => by
    have hb := (Below.refl w.heap.size w).alloc (Nat.le_refl _) o
    exact ⟨_, by rw [new_block, ho], (hk.below hb).mono hb.size, h256, hn⟩
  have HA := Lib.hid hA
  clear hk
  obtain ⟨vb, vu, vs, ve, hh, hvb, hvu, hvs, hve, hint⟩ := hF
  obtain ⟨au, cu, rfl, hul⟩ := hvu.slice
  have f2 := cell_of hh 2 _ rfl
  have f4 := cell_of hh 4 _ rfl
  have f8 := cell_of hh 8 _ rfl
  have f9 := cell_of hh 9 _ rfl
  have hFw := lt_of_get hh
  unfold Len at hul
  unfold exCells
  clear hh hvb hvu hvs hve hint hA
  obtain ⟨k, n, kids⟩ := e
  dsimp only at *
  subst hc
  go_enter Tryd.func42, Tryd.ntmps42
  go_wp2_with fail
  go_ret
  exact ⟨rfl, (Below.refl _ _).alloc (Nat.le_refl _) _⟩

set_option maxHeartbeats 4000000 in
set_option maxRecDepth 100000 in
theorem num_s (F : Nat) (f : Pr) (strs protos : Nat) (e : Ex) (vk : Value) (w : World) (hF : FnAt F f strs protos w) (hk : LstB w.heap.size w vk (ints e.kids)) (h256 : e.k < 256) (hn : In64 e.n) (hc : e.k = 5 ∨ e.k = 10 ∨ e.k = 13) :
    Calls Tryd.prog 42 #[.pointer (some ⟨F, 0, none⟩), .agg (exCells e vk)] w fun r w' => r = .returned (.bool (belowB e strs)) ∧ Below w.heap.size w w' := by
  have hmf := run_mf
  obtain ⟨ak, ck, rfl, _⟩ := hk.slice
  have hA : ∀ o, o = Obj.cells (exCells e (.slice ak (ints e.kids).length ck)) 41 (0, 0) → ExAt w.heap.size e (w.alloc o) := fun o ho => by
    have hb := (Below.refl w.heap.size w).alloc (Nat.le_refl _) o
    exact ⟨_, by rw [new_block, ho], (hk.below hb).mono hb.size, h256, hn⟩
  have HA := Lib.hid hA
  clear hk
  obtain ⟨vb, vu, vs, ve, hh, hvb, hvu, hvs, hve, hint⟩ := hF
  obtain ⟨au, cu, rfl, hul⟩ := hvu.slice
  have f2 := cell_of hh 2 _ rfl
  have f4 := cell_of hh 4 _ rfl
  have f8 := cell_of hh 8 _ rfl
  have f9 := cell_of hh 9 _ rfl
  have hFw := lt_of_get hh
  unfold Len at hul
  unfold exCells
  clear hh hvb hvu hvs hve hint hA
  obtain ⟨k, n, kids⟩ := e
  dsimp only at *
  rcases hc with rfl | rfl | rfl
  all_goals (
    go_enter Tryd.func42, Tryd.ntmps42
    go_wp2_with fail
    refine (below_fn _ _ (strs : Int) _ (HA.out _ rfl)).mono ?_
    rintro r w1 ⟨rfl, rfl⟩
    go_wp2_with fail
    go_ret
    exact ⟨rfl, (Below.refl _ _).alloc (Nat.le_refl _) _⟩)

set_option maxHeartbeats 4000000 in
set_option maxRecDepth 100000 in
theorem num_p (F : Nat) (f : Pr) (strs protos : Nat) (e : Ex) (vk : Value) (w : World) (hF : FnAt F f strs protos w) (hk : LstB w.heap.size w vk (ints e.kids)) (h256 : e.k < 256) (hn : In64 e.n) (hc : e.k = 7) :
    Calls Tryd.prog 42 #[.pointer (some ⟨F, 0, none⟩), .agg (exCells e vk)] w fun r w' => r = .returned (.bool (belowB e protos)) ∧ Below w.heap.size w w' := by
  have hmf := run_mf
  obtain ⟨ak, ck, rfl, _⟩ := hk.slice
  have hA : ∀ o, o = Obj.cells (exCells e (.slice ak (ints e.kids).length ck)) 41 (0, 0) → ExAt w.heap.size e (w.alloc o) := fun o ho => by
    have hb := (Below.refl w.heap.size w).alloc (Nat.le_refl _) o
    exact ⟨_, by rw [new_block, ho], (hk.below hb).mono hb.size, h256, hn⟩
  have HA := Lib.hid hA
  clear hk
  obtain ⟨vb, vu, vs, ve, hh, hvb, hvu, hvs, hve, hint⟩ := hF
  obtain ⟨au, cu, rfl, hul⟩ := hvu.slice
  have f2 := cell_of hh 2 _ rfl
  have f4 := cell_of hh 4 _ rfl
  have f8 := cell_of hh 8 _ rfl
  have f9 := cell_of hh 9 _ rfl
  have hFw := lt_of_get hh
  unfold Len at hul
  unfold exCells
  clear hh hvb hvu hvs hve hint hA
  obtain ⟨k, n, kids⟩ := e
  dsimp only at *
  subst hc
  go_enter Tryd.func42, Tryd.ntmps42
  go_wp2_with fail
  refine (below_fn _ _ (protos : Int) _ (HA.out _ rfl)).mono ?_
  rintro r w1 ⟨rfl, rfl⟩
  go_wp2_with fail
  go_ret
  exact ⟨rfl, (Below.refl _ _).alloc (Nat.le_refl _) _⟩

set_option maxHeartbeats 4000000 in
set_option maxRecDepth 100000 in
theorem num_l (F : Nat) (f : Pr) (strs protos : Nat) (e : Ex) (vk : Value) (w : World) (hF : FnAt F f strs protos w) (hk : LstB w.heap.size w vk (ints e.kids)) (h256 : e.k < 256) (hn : In64 e.n) (hc : e.k = 8) :
    Calls Tryd.prog 42 #[.pointer (some ⟨F, 0, none⟩), .agg (exCells e vk)] w fun r w' => r = .returned (.bool (belowB e f.slots)) ∧ Below w.heap.size w w' := by
  have hmf := run_mf
  obtain ⟨ak, ck, rfl, _⟩ := hk.slice
  have hA : ∀ o, o = Obj.cells (exCells e (.slice ak (ints e.kids).length ck)) 41 (0, 0) → ExAt w.heap.size e (w.alloc o) := fun o ho => by
    have hb := (Below.refl w.heap.size w).alloc (Nat.le_refl _) o
    exact ⟨_, by rw [new_block, ho], (hk.below hb).mono hb.size, h256, hn⟩
  have HA := Lib.hid hA
  clear hk
  obtain ⟨vb, vu, vs, ve, hh, hvb, hvu, hvs, hve, hint⟩ := hF
  obtain ⟨au, cu, rfl, hul⟩ := hvu.slice
  have f2 := cell_of hh 2 _ rfl
  have f4 := cell_of hh 4 _ rfl
  have f8 := cell_of hh 8 _ rfl
  have f9 := cell_of hh 9 _ rfl
  have hFw := lt_of_get hh
  unfold Len at hul
  unfold exCells
  clear hh hvb hvu hvs hve hint hA
  obtain ⟨k, n, kids⟩ := e
  dsimp only at *
  subst hc
  go_enter Tryd.func42, Tryd.ntmps42
  go_wp2_with fail
  refine (below_fn _ _ f.slots _ (HA.out _ rfl)).mono ?_
  rintro r w1 ⟨rfl, rfl⟩
  go_wp2_with fail
  go_ret
  exact ⟨rfl, (Below.refl _ _).alloc (Nat.le_refl _) _⟩

set_option maxHeartbeats 4000000 in
set_option maxRecDepth 100000 in
theorem num_u (F : Nat) (f : Pr) (strs protos : Nat) (e : Ex) (vk : Value) (w : World) (hF : FnAt F f strs protos w) (hk : LstB w.heap.size w vk (ints e.kids)) (h256 : e.k < 256) (hn : In64 e.n) (hc : e.k = 9) :
    Calls Tryd.prog 42 #[.pointer (some ⟨F, 0, none⟩), .agg (exCells e vk)] w fun r w' => r = .returned (.bool (belowB e f.ups.length)) ∧ Below w.heap.size w w' := by
  have hmf := run_mf
  obtain ⟨ak, ck, rfl, _⟩ := hk.slice
  have hA : ∀ o, o = Obj.cells (exCells e (.slice ak (ints e.kids).length ck)) 41 (0, 0) → ExAt w.heap.size e (w.alloc o) := fun o ho => by
    have hb := (Below.refl w.heap.size w).alloc (Nat.le_refl _) o
    exact ⟨_, by rw [new_block, ho], (hk.below hb).mono hb.size, h256, hn⟩
  have HA := Lib.hid hA
  clear hk
  obtain ⟨vb, vu, vs, ve, hh, hvb, hvu, hvs, hve, hint⟩ := hF
  obtain ⟨au, cu, rfl, hul⟩ := hvu.slice
  have f2 := cell_of hh 2 _ rfl
  have f4 := cell_of hh 4 _ rfl
  have f8 := cell_of hh 8 _ rfl
  have f9 := cell_of hh 9 _ rfl
  have hFw := lt_of_get hh
  unfold Len at hul
  unfold exCells
  clear hh hvb hvu hvs hve hint hA
  obtain ⟨k, n, kids⟩ := e
  dsimp only at *
  subst hc
  go_enter Tryd.func42, Tryd.ntmps42
  go_wp2_with fail
  refine (below_fn _ _ (f.ups.length : Int) _ (HA.out _ rfl)).mono ?_
  rintro r w1 ⟨rfl, rfl⟩
  go_wp2_with fail
  go_ret
  exact ⟨rfl, (Below.refl _ _).alloc (Nat.le_refl _) _⟩

set_option maxHeartbeats 4000000 in
set_option maxRecDepth 100000 in
theorem num_b (F : Nat) (f : Pr) (strs protos : Nat) (e : Ex) (vk : Value) (w : World) (hF : FnAt F f strs protos w) (hk : LstB w.heap.size w vk (ints e.kids)) (h256 : e.k < 256) (hn : In64 e.n) (hc : e.k = 14) :
    Calls Tryd.prog 42 #[.pointer (some ⟨F, 0, none⟩), .agg (exCells e vk)] w fun r w' => r = .returned (.bool (operB e 1 17)) ∧ Below w.heap.size w w' := by
  have hmf := run_mf
  obtain ⟨ak, ck, rfl, _⟩ := hk.slice
  have hA : ∀ o, o = Obj.cells (exCells e (.slice ak (ints e.kids).length ck)) 41 (0, 0) → ExAt w.heap.size e (w.alloc o) := fun o ho => by
    have hb := (Below.refl w.heap.size w).alloc (Nat.le_refl _) o
    exact ⟨_, by rw [new_block, ho], (hk.below hb).mono hb.size, h256, hn⟩
  have HA := Lib.hid hA
  clear hk
  obtain ⟨vb, vu, vs, ve, hh, hvb, hvu, hvs, hve, hint⟩ := hF
  obtain ⟨au, cu, rfl, hul⟩ := hvu.slice
  have f2 := cell_of hh 2 _ rfl
  have f4 := cell_of hh 4 _ rfl
  have f8 := cell_of hh 8 _ rfl
  have f9 := cell_of hh 9 _ rfl
  have hFw := lt_of_get hh
  unfold Len at hul
  unfold exCells
  clear hh hvb hvu hvs hve hint hA
  obtain ⟨k, n, kids⟩ := e
  dsimp only at *
  subst hc
  go_enter Tryd.func42, Tryd.ntmps42
  go_wp2_with fail
  refine (oper_fn _ _ 1 17 _ (HA.out _ rfl) (by decide) (by decide)).mono ?_
  rintro r w1 ⟨rfl, rfl⟩
  go_wp2_with fail
  go_ret
  exact ⟨rfl, (Below.refl _ _).alloc (Nat.le_refl _) _⟩

set_option maxHeartbeats 4000000 in
set_option maxRecDepth 100000 in
theorem num_n (F : Nat) (f : Pr) (strs protos : Nat) (e : Ex) (vk : Value) (w : World) (hF : FnAt F f strs protos w) (hk : LstB w.heap.size w vk (ints e.kids)) (h256 : e.k < 256) (hn : In64 e.n) (hc : e.k = 17) :
    Calls Tryd.prog 42 #[.pointer (some ⟨F, 0, none⟩), .agg (exCells e vk)] w fun r w' => r = .returned (.bool (operB e 18 21)) ∧ Below w.heap.size w w' := by
  have hmf := run_mf
  obtain ⟨ak, ck, rfl, _⟩ := hk.slice
  have hA : ∀ o, o = Obj.cells (exCells e (.slice ak (ints e.kids).length ck)) 41 (0, 0) → ExAt w.heap.size e (w.alloc o) := fun o ho => by
    have hb := (Below.refl w.heap.size w).alloc (Nat.le_refl _) o
    exact ⟨_, by rw [new_block, ho], (hk.below hb).mono hb.size, h256, hn⟩
  have HA := Lib.hid hA
  clear hk
  obtain ⟨vb, vu, vs, ve, hh, hvb, hvu, hvs, hve, hint⟩ := hF
  obtain ⟨au, cu, rfl, hul⟩ := hvu.slice
  have f2 := cell_of hh 2 _ rfl
  have f4 := cell_of hh 4 _ rfl
  have f8 := cell_of hh 8 _ rfl
  have f9 := cell_of hh 9 _ rfl
  have hFw := lt_of_get hh
  unfold Len at hul
  unfold exCells
  clear hh hvb hvu hvs hve hint hA
  obtain ⟨k, n, kids⟩ := e
  dsimp only at *
  subst hc
  go_enter Tryd.func42, Tryd.ntmps42
  go_wp2_with fail
  refine (oper_fn _ _ 18 21 _ (HA.out _ rfl) (by decide) (by decide)).mono ?_
  rintro r w1 ⟨rfl, rfl⟩
  go_wp2_with fail
  go_ret
  exact ⟨rfl, (Below.refl _ _).alloc (Nat.le_refl _) _⟩

set_option maxHeartbeats 4000000 in
set_option maxRecDepth 100000 in
theorem num_z (F : Nat) (f : Pr) (strs protos : Nat) (e : Ex) (vk : Value) (w : World) (hF : FnAt F f strs protos w) (hk : LstB w.heap.size w vk (ints e.kids)) (h256 : e.k < 256) (hn : In64 e.n) (hc : ¬ e.k = 4 ∧ ¬ e.k = 5 ∧ ¬ e.k = 10 ∧ ¬ e.k = 13 ∧ ¬ e.k = 7 ∧ ¬ e.k = 8 ∧ ¬ e.k = 9 ∧ ¬ e.k = 14 ∧ ¬ e.k = 17) :
    Calls Tryd.prog 42 #[.pointer (some ⟨F, 0, none⟩), .agg (exCells e vk)] w fun r w' => r = .returned (.bool (decide (e.n = 0))) ∧ Below w.heap.size w w' := by
  have hmf := run_mf
  obtain ⟨ak, ck, rfl, _⟩ := hk.slice
  have hA : ∀ o, o = Obj.cells (exCells e (.slice ak (ints e.kids).length ck)) 41 (0, 0) → ExAt w.heap.size e (w.alloc o) := fun o ho => by
    have hb := (Below.refl w.heap.size w).alloc (Nat.le_refl _) o
    exact ⟨_, by rw [new_block, ho], (hk.below hb).mono hb.size, h256, hn⟩
  have HA := Lib.hid hA
  clear hk
  obtain ⟨vb, vu, vs, ve, hh, hvb, hvu, hvs, hve, hint⟩ := hF
  obtain ⟨au, cu, rfl, hul⟩ := hvu.slice
  have f2 := cell_of hh 2 _ rfl
  have f4 := cell_of hh 4 _ rfl
  have f8 := cell_of hh 8 _ rfl
  have f9 := cell_of hh 9 _ rfl
  have hFw := lt_of_get hh
  unfold Len at hul
  unfold exCells
  clear hh hvb hvu hvs hve hint hA
  obtain ⟨k, n, kids⟩ := e
  dsimp only at *
  obtain ⟨q4, q5, q10, q13, q7, q8, q9, q14, q17⟩ := hc
  have p4 : ¬ (k : Int) = 4 := by omega
  have p5 : ¬ (k : Int) = 5 := by omega
  have p10 : ¬ (k : Int) = 10 := by omega
  have p13 : ¬ (k : Int) = 13 := by omega
  have p7 : ¬ (k : Int) = 7 := by omega
  have p8 : ¬ (k : Int) = 8 := by omega
  have p9 : ¬ (k : Int) = 9 := by omega
  have p14 : ¬ (k : Int) = 14 := by omega
  have p17 : ¬ (k : Int) = 17 := by omega
  go_enter Tryd.func42, Tryd.ntmps42
  go_wp2_with fail
  go_ret
  exact ⟨rfl, (Below.refl _ _).alloc (Nat.le_refl _) _⟩

theorem number_fn (F : Nat) (f : Pr) (strs protos : Nat) (e : Ex) (vk : Value) (w : World) (hF : FnAt F f strs protos w) (hk : LstB w.heap.size w vk (ints e.kids)) (h256 : e.k < 256) (hn : In64 e.n) :
    Calls Tryd.prog 42 #[.pointer (some ⟨F, 0, none⟩), .agg (exCells e vk)] w fun r w' => r = .returned (.bool (numberB f strs protos e)) ∧ Below w.heap.size w w' := by
  unfold numberB
  by_cases g4 : e.k = 4
  · rw [if_pos g4]; exact num_4 F f strs protos e vk w hF hk h256 hn g4
  rw [if_neg g4]
  by_cases gs : e.k = 5 ∨ e.k = 10 ∨ e.k = 13
  · rw [if_pos gs]; exact num_s F f strs protos e vk w hF hk h256 hn gs
  rw [if_neg gs]
  by_cases gp : e.k = 7
  · rw [if_pos gp]; exact num_p F f strs protos e vk w hF hk h256 hn gp
  rw [if_neg gp]
  by_cases gl : e.k = 8
  · rw [if_pos gl]; exact num_l F f strs protos e vk w hF hk h256 hn gl
  rw [if_neg gl]
  by_cases gu : e.k = 9
  · rw [if_pos gu]; exact num_u F f strs protos e vk w hF hk h256 hn gu
  rw [if_neg gu]
  by_cases gb : e.k = 14
  · rw [if_pos gb]; exact num_b F f strs protos e vk w hF hk h256 hn gb
  rw [if_neg gb]
  by_cases gn : e.k = 17
  · rw [if_pos gn]; exact num_n F f strs protos e vk w hF hk h256 hn gn
  rw [if_neg gn]
  exact num_z F f strs protos e vk w hF hk h256 hn (by omega)

end Go.Proofs.YtnnjkejejlhkdaaDoor.Rt
