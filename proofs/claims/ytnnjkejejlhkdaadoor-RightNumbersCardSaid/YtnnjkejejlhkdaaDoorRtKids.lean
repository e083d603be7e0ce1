/-
  Layer 9: whether an expression has kids that its kind may have.
-/
import Derived.Test.YtnnjkejejlhkdaaDoorRtNum
import Derived.Shelf.Abstract
namespace Go.Proofs.YtnnjkejejlhkdaaDoor.Rt
open Go Go.RowKit

def Places (f : Pr) (l : List Int) : Prop := ∀ c ∈ l, 0 ≤ c ∧ c < f.exprs.length

/-- A step of a list that is asked without a state. -/
theorem step_says {α : Type} {B : Nat} {so : Nat → α → Bool} {l : List α} {i : Nat} (hi : i < l.length) {I : Unit → World → Prop} {w w' : World} {e : Ending} (hb : Below w.heap.size w w') (hB : B ≤ w.heap.size) (he : e = .returned (.bool (so i l[i]))) (hI : I () w') : StepSays B (stepB so l i ()) I w e w' := by
  refine ⟨hb.mono hB, hb.size, ?_, fun s _ => hI⟩
  rw [he]
  refine ret_bool ?_
  unfold stepB
  rw [List.getElem?_eq_getElem hi]
  show _ = (if so i l[i] = true then some () else none).isSome
  cases so i l[i] <;> rfl
theorem are_is {α : Type} {B : Nat} {lo hi : Int} {so : Nat → α → Bool} {l : List α} {I : Unit → World → Prop} {w w' : World} {e : Ending} (h : AreSays B (spanB lo hi l.length) (runN (stepB so l) l.length ()) I w e w') : e = .returned (.bool (areB lo hi so l)) ∧ Below B w w' := ⟨h.2.2.1, h.1⟩
theorem all_is {α : Type} {B : Nat} {so : Nat → α → Bool} {l : List α} {I : Unit → World → Prop} {w w' : World} {e : Ending} (h : AreSays B true (runN (stepB so l) l.length ()) I w e w') : e = .returned (.bool (allB so l)) ∧ Below B w w' := ⟨by rw [h.2.2.1, Bool.true_and]; rfl, h.1⟩

/-- Whether a list of places holds values. -/
theorem are_values (F : Nat) (f : Pr) (strs protos : Nat) (v : Value) (l : List Int) (lo hi : Int) (w : World) (hF : FnAt F f strs protos w) (hv : LstB w.heap.size w v (ints l)) (hl : Places f l) :
    Calls Tryd.prog 47 #[v, .agg #[.int .i64 lo, .int .i64 hi], .func (.func 55) #[.pointer (some ⟨F, 0, none⟩)] #[]] w fun r w' => r = .returned (.bool (areB lo hi (fun _ c => valueB f c) l)) ∧ Below w.heap.size w w' :=
  (are_int w.heap.size w v l lo hi _ _ _ (stepB (fun _ c => valueB f c) l) (fun _ w' => FnAt F f strs protos w') () hv (Nat.le_refl _) (enters_of Tryd.func55 (by kernel_rfl) rfl) (fun _ _ _ h hb => h.below hb)
    (fun i hi s w' _ hsz hI _ => by
      have hm := hl l[i] (List.getElem_mem hi)
      exact (value_fn F f strs protos i l[i] w' hI hm.1 hm.2).mono fun r w'' h => step_says hi h.2 hsz h.1 (hI.below h.2)) hF).mono fun _ _ h => are_is h
/-- Whether a list of places holds expressions of these kinds. -/
theorem are_of (F : Nat) (f : Pr) (strs protos : Nat) (bt bf : Nat) (ks : List Nat) (v : Value) (l : List Int) (lo hi : Int) (w : World) (hF : FnAt F f strs protos w) (hO : OfAt bt bf F ks w) (hv : LstB w.heap.size w v (ints l)) (hl : Places f l) :
    Calls Tryd.prog 47 #[v, .agg #[.int .i64 lo, .int .i64 hi], .func (.func 56) #[] #[.pointer (some ⟨bt, 0, none⟩), .pointer (some ⟨bf, 0, none⟩)]] w fun r w' => r = .returned (.bool (areB lo hi (fun _ c => ofB f ks c) l)) ∧ Below w.heap.size w w' :=
  (are_int w.heap.size w v l lo hi _ _ _ (stepB (fun _ c => ofB f ks c) l) (fun _ w' => FnAt F f strs protos w' ∧ OfAt bt bf F ks w') () hv (Nat.le_refl _) (enters_of Tryd.func56 (by kernel_rfl) rfl) (fun _ _ _ h hb => ⟨h.1.below hb, h.2.below hb⟩)
    (fun i hi s w' _ hsz hI _ => by
      have hm := hl l[i] (List.getElem_mem hi)
      exact (of1_fn F f strs protos bt bf ks i l[i] w' hI.1 hI.2 hm.1 hm.2).mono fun r w'' h => step_says hi h.2 hsz h.1 ⟨hI.1.below h.2, hI.2.below h.2⟩) ⟨hF, hO⟩).mono fun _ _ h => are_is h

set_option maxHeartbeats 1000000 in
set_option maxRecDepth 100000 in
theorem values_fn (F : Nat) (f : Pr) (strs protos : Nat) (b bf : Nat) (e : Ex) (lo hi : Int) (w : World) (hF : FnAt F f strs protos w) (hE : ExAt b e w) (hbf : w.heap[bf]? = some (.cells #[.pointer (some ⟨F, 0, none⟩)] 69 (0, 0))) (hl : Places f e.kids) :
    Calls Tryd.prog 54 #[.int .i64 lo, .int .i64 hi, .pointer (some ⟨b, 0, none⟩), .pointer (some ⟨bf, 0, none⟩)] w fun r w' => r = .returned (.bool (valuesB f e lo hi)) ∧ Below w.heap.size w w' := by
  have hmf := run_mf
  obtain ⟨vk, hh, hk, _⟩ := hE
  obtain ⟨ak, ck, rfl, _⟩ := hk.slice
  have c2 := cell_of hh 2 (.slice ak (ints e.kids).length ck) rfl
  have c0 := cell_of hbf 0 _ rfl
  have c := are_values F f strs protos _ e.kids lo hi w hF hk hl
  unfold valuesB
  clear hh hk hbf hF
  go_enter Tryd.func54, Tryd.ntmps54
  go_wp2_with fail
  refine c.mono ?_
  rintro r w1 ⟨rfl, b1⟩
  have B1 := Lib.hid b1
  clear b1 c
  go_wp2_with fail
  go_ret
  exact ⟨rfl, B1.out⟩

set_option maxHeartbeats 4000000 in
set_option maxRecDepth 100000 in
theorem kids_a (F : Nat) (f : Pr) (strs protos : Nat) (e : Ex) (vk : Value) (w : World) (hF : FnAt F f strs protos w) (hk : LstB w.heap.size w vk (ints e.kids)) (h256 : e.k < 256) (hn : In64 e.n) (hl : Places f e.kids) (hc : e.k = 1 ∨ e.k = 2 ∨ e.k = 3 ∨ e.k = 4 ∨ e.k = 5 ∨ e.k = 7 ∨ e.k = 8 ∨ e.k = 9 ∨ e.k = 10) :
    Calls Tryd.prog 43 #[.pointer (some ⟨F, 0, none⟩), .agg (exCells e vk)] w fun r w' => r = .returned (.bool (valuesB f e 0 0)) ∧ Below w.heap.size w w' := by
  have hmf := run_mf
  obtain ⟨ak, ck, rfl, _⟩ := hk.slice
  have hA : ∀ A B, A = Obj.cells #[.pointer (some ⟨F, 0, none⟩)] 69 (0, 0) → B = Obj.cells (exCells e (.slice ak (ints e.kids).length ck)) 41 (0, 0) → FnAt F f strs protos ((w.alloc A).alloc B) ∧ ExAt (w.heap.size + 1) e ((w.alloc A).alloc B) ∧ ((w.alloc A).alloc B).heap[w.heap.size]? = some (.cells #[.pointer (some ⟨F, 0, none⟩)] 69 (0, 0)) ∧ Below w.heap.size w ((w.alloc A).alloc B) := fun A B hA hB => by
    obtain ⟨t0, t1, hb⟩ := two w A B
    exact ⟨hF.below hb, ⟨_, by rw [t1, hB], (hk.below hb).mono hb.size, h256, hn⟩, by rw [t0, hA], hb⟩
  have HA := Lib.hid hA
  obtain ⟨vb, vu, vs, ve, hh, _⟩ := hF
  have f1 := cell_of hh 1 _ rfl
  have hFw := lt_of_get hh
  clear hh hk hA
  have c := fun (lo hi : Int) => values_fn F f strs protos (w.heap.size + 1) w.heap.size e lo hi ((w.alloc (.cells #[.pointer (some ⟨F, 0, none⟩)] 69)).alloc (.cells (exCells e (.slice ak (ints e.kids).length ck)) 41)) (HA.out _ _ rfl rfl).1 (HA.out _ _ rfl rfl).2.1 (HA.out _ _ rfl rfl).2.2.1 hl
  have H3 := Lib.hid (HA.out _ _ rfl rfl).2.2.2
  unfold exCells at c H3 ⊢
  obtain ⟨k, n, kids⟩ := e
  dsimp only at *
  rcases hc with rfl | rfl | rfl | rfl | rfl | rfl | rfl | rfl | rfl
  all_goals (
    go_enter Tryd.func43, Tryd.ntmps43
    go_wp2_with fail
    refine (c 0 0).mono ?_
    rintro r w1 ⟨rfl, b1⟩
    have B1 := Lib.hid (H3.out.trans (b1.mono H3.out.size))
    clear b1 c
    go_wp2_with fail
    go_ret
    exact ⟨rfl, B1.out⟩)

set_option maxHeartbeats 4000000 in
set_option maxRecDepth 100000 in
theorem kids_b (F : Nat) (f : Pr) (strs protos : Nat) (e : Ex) (vk : Value) (w : World) (hF : FnAt F f strs protos w) (hk : LstB w.heap.size w vk (ints e.kids)) (h256 : e.k < 256) (hn : In64 e.n) (hl : Places f e.kids) (hc : e.k = 17 ∨ e.k = 19 ∨ e.k = 21) :
    Calls Tryd.prog 43 #[.pointer (some ⟨F, 0, none⟩), .agg (exCells e vk)] w fun r w' => r = .returned (.bool (valuesB f e 1 1)) ∧ Below w.heap.size w w' := by
  have hmf := run_mf
  obtain ⟨ak, ck, rfl, _⟩ := hk.slice
  have hA : ∀ A B, A = Obj.cells #[.pointer (some ⟨F, 0, none⟩)] 69 (0, 0) → B = Obj.cells (exCells e (.slice ak (ints e.kids).length ck)) 41 (0, 0) → FnAt F f strs protos ((w.alloc A).alloc B) ∧ ExAt (w.heap.size + 1) e ((w.alloc A).alloc B) ∧ ((w.alloc A).alloc B).heap[w.heap.size]? = some (.cells #[.pointer (some ⟨F, 0, none⟩)] 69 (0, 0)) ∧ Below w.heap.size w ((w.alloc A).alloc B) := fun A B hA hB => by
    obtain ⟨t0, t1, hb⟩ := two w A B
    exact ⟨hF.below hb, ⟨_, by rw [t1, hB], (hk.below hb).mono hb.size, h256, hn⟩, by rw [t0, hA], hb⟩
  have HA := Lib.hid hA
  obtain ⟨vb, vu, vs, ve, hh, _⟩ := hF
  have f1 := cell_of hh 1 _ rfl
  have hFw := lt_of_get hh
  clear hh hk hA
  have c := fun (lo hi : Int) => values_fn F f strs protos (w.heap.size + 1) w.heap.size e lo hi ((w.alloc (.cells #[.pointer (some ⟨F, 0, none⟩)] 69)).alloc (.cells (exCells e (.slice ak (ints e.kids).length ck)) 41)) (HA.out _ _ rfl rfl).1 (HA.out _ _ rfl rfl).2.1 (HA.out _ _ rfl rfl).2.2.1 hl
  have H3 := Lib.hid (HA.out _ _ rfl rfl).2.2.2
  unfold exCells at c H3 ⊢
  obtain ⟨k, n, kids⟩ := e
  dsimp only at *
  rcases hc with rfl | rfl | rfl
  all_goals (
    go_enter Tryd.func43, Tryd.ntmps43
    go_wp2_with fail
    refine (c 1 1).mono ?_
    rintro r w1 ⟨rfl, b1⟩
    have B1 := Lib.hid (H3.out.trans (b1.mono H3.out.size))
    clear b1 c
    go_wp2_with fail
    go_ret
    exact ⟨rfl, B1.out⟩)

set_option maxHeartbeats 4000000 in
set_option maxRecDepth 100000 in
theorem kids_c (F : Nat) (f : Pr) (strs protos : Nat) (e : Ex) (vk : Value) (w : World) (hF : FnAt F f strs protos w) (hk : LstB w.heap.size w vk (ints e.kids)) (h256 : e.k < 256) (hn : In64 e.n) (hl : Places f e.kids) (hc : e.k = 11 ∨ e.k = 14 ∨ e.k = 15 ∨ e.k = 16 ∨ e.k = 20) :
    Calls Tryd.prog 43 #[.pointer (some ⟨F, 0, none⟩), .agg (exCells e vk)] w fun r w' => r = .returned (.bool (valuesB f e 2 2)) ∧ Below w.heap.size w w' := by
  have hmf := run_mf
  obtain ⟨ak, ck, rfl, _⟩ := hk.slice
  have hA : ∀ A B, A = Obj.cells #[.pointer (some ⟨F, 0, none⟩)] 69 (0, 0) → B = Obj.cells (exCells e (.slice ak (ints e.kids).length ck)) 41 (0, 0) → FnAt F f strs protos ((w.alloc A).alloc B) ∧ ExAt (w.heap.size + 1) e ((w.alloc A).alloc B) ∧ ((w.alloc A).alloc B).heap[w.heap.size]? = some (.cells #[.pointer (some ⟨F, 0, none⟩)] 69 (0, 0)) ∧ Below w.heap.size w ((w.alloc A).alloc B) := fun A B hA hB => by
    obtain ⟨t0, t1, hb⟩ := two w A B
    exact ⟨hF.below hb, ⟨_, by rw [t1, hB], (hk.below hb).mono hb.size, h256, hn⟩, by rw [t0, hA], hb⟩
  have HA := Lib.hid hA
  obtain ⟨vb, vu, vs, ve, hh, _⟩ := hF
  have f1 := cell_of hh 1 _ rfl
  have hFw := lt_of_get hh
  clear hh hk hA
  have c := fun (lo hi : Int) => values_fn F f strs protos (w.heap.size + 1) w.heap.size e lo hi ((w.alloc (.cells #[.pointer (some ⟨F, 0, none⟩)] 69)).alloc (.cells (exCells e (.slice ak (ints e.kids).length ck)) 41)) (HA.out _ _ rfl rfl).1 (HA.out _ _ rfl rfl).2.1 (HA.out _ _ rfl rfl).2.2.1 hl
  have H3 := Lib.hid (HA.out _ _ rfl rfl).2.2.2
  unfold exCells at c H3 ⊢
  obtain ⟨k, n, kids⟩ := e
  dsimp only at *
  rcases hc with rfl | rfl | rfl | rfl | rfl
  all_goals (
    go_enter Tryd.func43, Tryd.ntmps43
    go_wp2_with fail
    refine (c 2 2).mono ?_
    rintro r w1 ⟨rfl, b1⟩
    have B1 := Lib.hid (H3.out.trans (b1.mono H3.out.size))
    clear b1 c
    go_wp2_with fail
    go_ret
    exact ⟨rfl, B1.out⟩)

set_option maxHeartbeats 4000000 in
set_option maxRecDepth 100000 in
theorem kids_d (F : Nat) (f : Pr) (strs protos : Nat) (e : Ex) (vk : Value) (w : World) (hF : FnAt F f strs protos w) (hk : LstB w.heap.size w vk (ints e.kids)) (h256 : e.k < 256) (hn : In64 e.n) (hl : Places f e.kids) (hc : e.k = 12 ∨ e.k = 13) :
    Calls Tryd.prog 43 #[.pointer (some ⟨F, 0, none⟩), .agg (exCells e vk)] w fun r w' => r = .returned (.bool (valuesB f e 1 201)) ∧ Below w.heap.size w w' := by
  have hmf := run_mf
  obtain ⟨ak, ck, rfl, _⟩ := hk.slice
  have hA : ∀ A B, A = Obj.cells #[.pointer (some ⟨F, 0, none⟩)] 69 (0, 0) → B = Obj.cells (exCells e (.slice ak (ints e.kids).length ck)) 41 (0, 0) → FnAt F f strs protos ((w.alloc A).alloc B) ∧ ExAt (w.heap.size + 1) e ((w.alloc A).alloc B) ∧ ((w.alloc A).alloc B).heap[w.heap.size]? = some (.cells #[.pointer (some ⟨F, 0, none⟩)] 69 (0, 0)) ∧ Below w.heap.size w ((w.alloc A).alloc B) := fun A B hA hB => by
    obtain ⟨t0, t1, hb⟩ := two w A B
    exact ⟨hF.below hb, ⟨_, by rw [t1, hB], (hk.below hb).mono hb.size, h256, hn⟩, by rw [t0, hA], hb⟩
  have HA := Lib.hid hA
  obtain ⟨vb, vu, vs, ve, hh, _⟩ := hF
  have f1 := cell_of hh 1 _ rfl
  have hFw := lt_of_get hh
  clear hh hk hA
  have c := fun (lo hi : Int) => values_fn F f strs protos (w.heap.size + 1) w.heap.size e lo hi ((w.alloc (.cells #[.pointer (some ⟨F, 0, none⟩)] 69)).alloc (.cells (exCells e (.slice ak (ints e.kids).length ck)) 41)) (HA.out _ _ rfl rfl).1 (HA.out _ _ rfl rfl).2.1 (HA.out _ _ rfl rfl).2.2.1 hl
  have H3 := Lib.hid (HA.out _ _ rfl rfl).2.2.2
  unfold exCells at c H3 ⊢
  obtain ⟨k, n, kids⟩ := e
  dsimp only at *
  rcases hc with rfl | rfl
  all_goals (
    go_enter Tryd.func43, Tryd.ntmps43
    go_wp2_with fail
    refine (c 1 201).mono ?_
    rintro r w1 ⟨rfl, b1⟩
    have B1 := Lib.hid (H3.out.trans (b1.mono H3.out.size))
    clear b1 c
    go_wp2_with fail
    go_ret
    exact ⟨rfl, B1.out⟩)

set_option maxHeartbeats 4000000 in
set_option maxRecDepth 100000 in
theorem kids_z (F : Nat) (f : Pr) (strs protos : Nat) (e : Ex) (vk : Value) (w : World) (hF : FnAt F f strs protos w) (hk : LstB w.heap.size w vk (ints e.kids)) (h256 : e.k < 256) (hn : In64 e.n) (hl : Places f e.kids) (hc : ¬ e.k = 1 ∧ ¬ e.k = 2 ∧ ¬ e.k = 3 ∧ ¬ e.k = 4 ∧ ¬ e.k = 5 ∧ ¬ e.k = 6 ∧ ¬ e.k = 7 ∧ ¬ e.k = 8 ∧ ¬ e.k = 9 ∧ ¬ e.k = 10 ∧ ¬ e.k = 11 ∧ ¬ e.k = 12 ∧ ¬ e.k = 13 ∧ ¬ e.k = 14 ∧ ¬ e.k = 15 ∧ ¬ e.k = 16 ∧ ¬ e.k = 17 ∧ ¬ e.k = 18 ∧ ¬ e.k = 19 ∧ ¬ e.k = 20 ∧ ¬ e.k = 21) :
    Calls Tryd.prog 43 #[.pointer (some ⟨F, 0, none⟩), .agg (exCells e vk)] w fun r w' => r = .returned (.bool (false)) ∧ Below w.heap.size w w' := by
  have hmf := run_mf
  obtain ⟨ak, ck, rfl, _⟩ := hk.slice
  have hA : ∀ A B, A = Obj.cells #[.pointer (some ⟨F, 0, none⟩)] 69 (0, 0) → B = Obj.cells (exCells e (.slice ak (ints e.kids).length ck)) 41 (0, 0) → FnAt F f strs protos ((w.alloc A).alloc B) ∧ ExAt (w.heap.size + 1) e ((w.alloc A).alloc B) ∧ ((w.alloc A).alloc B).heap[w.heap.size]? = some (.cells #[.pointer (some ⟨F, 0, none⟩)] 69 (0, 0)) ∧ Below w.heap.size w ((w.alloc A).alloc B) := fun A B hA hB => by
    obtain ⟨t0, t1, hb⟩ := two w A B
    exact ⟨hF.below hb, ⟨_, by rw [t1, hB], (hk.below hb).mono hb.size, h256, hn⟩, by rw [t0, hA], hb⟩
  have HA := Lib.hid hA
  obtain ⟨vb, vu, vs, ve, hh, _⟩ := hF
  have f1 := cell_of hh 1 _ rfl
  have hFw := lt_of_get hh
  clear hh hk hA
  have c := fun (lo hi : Int) => values_fn F f strs protos (w.heap.size + 1) w.heap.size e lo hi ((w.alloc (.cells #[.pointer (some ⟨F, 0, none⟩)] 69)).alloc (.cells (exCells e (.slice ak (ints e.kids).length ck)) 41)) (HA.out _ _ rfl rfl).1 (HA.out _ _ rfl rfl).2.1 (HA.out _ _ rfl rfl).2.2.1 hl
  have H3 := Lib.hid (HA.out _ _ rfl rfl).2.2.2
  unfold exCells at c H3 ⊢
  obtain ⟨k, n, kids⟩ := e
  dsimp only at *
  obtain ⟨q1, q2, q3, q4, q5, q6, q7, q8, q9, q10, q11, q12, q13, q14, q15, q16, q17, q18, q19, q20, q21⟩ := hc
  have p1 : ¬ (k : Int) = 1 := by omega
  have p2 : ¬ (k : Int) = 2 := by omega
  have p3 : ¬ (k : Int) = 3 := by omega
  have p4 : ¬ (k : Int) = 4 := by omega
  have p5 : ¬ (k : Int) = 5 := by omega
  have p6 : ¬ (k : Int) = 6 := by omega
  have p7 : ¬ (k : Int) = 7 := by omega
  have p8 : ¬ (k : Int) = 8 := by omega
  have p9 : ¬ (k : Int) = 9 := by omega
  have p10 : ¬ (k : Int) = 10 := by omega
  have p11 : ¬ (k : Int) = 11 := by omega
  have p12 : ¬ (k : Int) = 12 := by omega
  have p13 : ¬ (k : Int) = 13 := by omega
  have p14 : ¬ (k : Int) = 14 := by omega
  have p15 : ¬ (k : Int) = 15 := by omega
  have p16 : ¬ (k : Int) = 16 := by omega
  have p17 : ¬ (k : Int) = 17 := by omega
  have p18 : ¬ (k : Int) = 18 := by omega
  have p19 : ¬ (k : Int) = 19 := by omega
  have p20 : ¬ (k : Int) = 20 := by omega
  have p21 : ¬ (k : Int) = 21 := by omega
  clear c
  go_enter Tryd.func43, Tryd.ntmps43
  go_wp2_with fail
  go_ret
  exact ⟨rfl, H3.out⟩

set_option maxHeartbeats 4000000 in
set_option maxRecDepth 100000 in
theorem kids_more (F : Nat) (f : Pr) (strs protos : Nat) (e : Ex) (vk : Value) (w : World) (hF : FnAt F f strs protos w) (hk : LstB w.heap.size w vk (ints e.kids)) (h256 : e.k < 256) (hn : In64 e.n) (hl : Places f e.kids) (hc : e.k = 6) :
    Calls Tryd.prog 43 #[.pointer (some ⟨F, 0, none⟩), .agg (exCells e vk)] w fun r w' => r = .returned (.bool (f.more && valuesB f e 0 0)) ∧ Below w.heap.size w w' := by
  have hmf := run_mf
  obtain ⟨ak, ck, rfl, _⟩ := hk.slice
  have hA : ∀ A B, A = Obj.cells #[.pointer (some ⟨F, 0, none⟩)] 69 (0, 0) → B = Obj.cells (exCells e (.slice ak (ints e.kids).length ck)) 41 (0, 0) → FnAt F f strs protos ((w.alloc A).alloc B) ∧ ExAt (w.heap.size + 1) e ((w.alloc A).alloc B) ∧ ((w.alloc A).alloc B).heap[w.heap.size]? = some (.cells #[.pointer (some ⟨F, 0, none⟩)] 69 (0, 0)) ∧ Below w.heap.size w ((w.alloc A).alloc B) := fun A B hA hB => by
    obtain ⟨t0, t1, hb⟩ := two w A B
    exact ⟨hF.below hb, ⟨_, by rw [t1, hB], (hk.below hb).mono hb.size, h256, hn⟩, by rw [t0, hA], hb⟩
  have HA := Lib.hid hA
  obtain ⟨vb, vu, vs, ve, hh, _⟩ := hF
  have f1 := cell_of hh 1 _ rfl
  have hFw := lt_of_get hh
  clear hh hk hA
  have c := fun (lo hi : Int) => values_fn F f strs protos (w.heap.size + 1) w.heap.size e lo hi ((w.alloc (.cells #[.pointer (some ⟨F, 0, none⟩)] 69)).alloc (.cells (exCells e (.slice ak (ints e.kids).length ck)) 41)) (HA.out _ _ rfl rfl).1 (HA.out _ _ rfl rfl).2.1 (HA.out _ _ rfl rfl).2.2.1 hl
  have H3 := Lib.hid (HA.out _ _ rfl rfl).2.2.2
  unfold exCells at c H3 ⊢
  obtain ⟨k, n, kids⟩ := e
  dsimp only at *
  subst hc
  by_cases hm : f.more = true
  · rw [hm] at f1 ⊢
    go_enter Tryd.func43, Tryd.ntmps43
    go_wp2_with fail
    refine (c 0 0).mono ?_
    rintro r w1 ⟨rfl, b1⟩
    have B1 := Lib.hid (H3.out.trans (b1.mono H3.out.size))
    clear b1 c
    go_wp2_with fail
    go_ret
    exact ⟨rfl, B1.out⟩
  · have hm := Bool.eq_false_iff.2 hm
    rw [hm] at f1 ⊢
    clear c
    go_enter Tryd.func43, Tryd.ntmps43
    go_wp2_with fail
    go_ret
    exact ⟨rfl, H3.out⟩


end Go.Proofs.YtnnjkejejlhkdaaDoor.Rt
