/-
  Layer 9: whether the functions stand in one another as they should.
-/
import Derived.Test.YtnnjkejejlhkdaaDoorRtNest
import Derived.Deep.RegionHeld3
namespace Go.Proofs.YtnnjkejejlhkdaaDoor.Rt
open Go Go.RowKit

def ArOk (N : Nat) (ar : List Int) : Prop := ∀ x ∈ ar, x = -1 ∨ (0 ≤ x ∧ x < N)
theorem runN_keep {S : Type} {step : Nat → S → Option S} {P : S → Prop} {n : Nat} (hs : ∀ i s s', i < n → P s → step i s = some s' → P s') : ∀ k s s', k ≤ n → P s → runN step k s = some s' → P s'
  | 0, s, s', _, h, e => by injection e with e; rw [← e]; exact h
  | k + 1, s, s', hk, h, e => by
    have e2 : (runN step k s).bind (step k) = some s' := e
    cases e3 : runN step k s with
    | none => rw [e3] at e2; cases e2
    | some a =>
      rw [e3] at e2
      exact hs k a s' (by omega) (runN_keep hs k s a (by omega) h e3) e2
theorem ar_ok {ps : List Pr} {ar : List Int} (h : aroundsO ps = some ar) : ArOk ps.length ar := by
  refine runN_keep (P := ArOk ps.length) (n := ps.length) (fun n s s' hn hs e => ?_) ps.length _ ar (Nat.le_refl _) (fun x hx => .inl (List.mem_replicate.1 hx).2) h
  unfold arProto at e
  rw [List.getElem?_eq_getElem hn] at e
  refine runN_keep (P := ArOk ps.length) (n := ps[n].exprs.length) (fun i a a' hi ha e2 => ?_) _ _ s' (Nat.le_refl _) hs e
  unfold arStep at e2
  rw [List.getElem?_eq_getElem hi] at e2
  have e2 : (if ps[n].exprs[i].k ≠ 7 then some a else if ps[n].exprs[i].n ≤ n ∨ a.getD ps[n].exprs[i].n.toNat 0 ≠ -1 then none else some (a.set ps[n].exprs[i].n.toNat n)) = some a' := e2
  split at e2
  · injection e2 with e2; rw [← e2]; exact ha
  · split at e2
    · cases e2
    · injection e2 with e2
      rw [← e2]
      intro x hx
      rcases List.mem_or_eq_of_mem_set hx with hx | hx
      · exact ha x hx
      · right; omega

set_option maxHeartbeats 1000000 in
set_option maxRecDepth 100000 in
theorem upOf_fn (o : Pr) (cs : Array Value) (w : World) (ho : PrC w.heap.size w cs o) :
    Calls Tryd.prog 23 #[.agg cs] w fun e w' => ∃ b, e = .returned (.func (.func 34) #[] #[.pointer (some ⟨b, 0, none⟩)]) ∧ PrAt b o w' ∧ Below w.heap.size w w' := by
  have hmf := run_mf
  have HO := Lib.hid ho
  obtain ⟨vb, vu, vs, ve, rfl, q1, q2, q3, q4, _⟩ := ho
  obtain ⟨ab, cb, rfl, _⟩ := q1.slice
  obtain ⟨au, cu, rfl, _⟩ := q2.slice
  obtain ⟨at5, ct5, rfl, _⟩ := q3.slice
  obtain ⟨ae, ce, rfl, _⟩ := q4.slice
  clear q1 q2 q3 q4
  go_enter Tryd.func23, Tryd.ntmps23
  go_wp2_with fail
  go_ret
  have hb := (Below.refl w.heap.size w).alloc (Nat.le_refl _) (.cells #[.int .i64 o.params, .bool o.more, .int .i64 o.slots, .slice ab (bools o.boxed).length cb, .slice au o.ups.length cu, .slice at5 o.stmts.length ct5, .slice ae o.exprs.length ce, .int .i64 o.start] 35)
  exact ⟨_, rfl, ⟨_, new_block _ _, (HO.out.below hb).mono hb.size⟩, hb⟩

theorem all_up_fn (b : Nat) (o : Pr) (v : Value) (l : List Up) (w : World) (hO : PrAt b o w) (hv : RowsB 2 UpC w.heap.size w v l) (hs : (o.boxed.length : Int) = o.slots) :
    Calls Tryd.prog 22 #[v, .func (.func 34) #[] #[.pointer (some ⟨b, 0, none⟩)]] w fun r w' => r = .returned (.bool (allB (fun _ u => upB o u) l)) ∧ Below w.heap.size w w' :=
  (all_up w.heap.size w v l 34 #[] #[.pointer (some ⟨b, 0, none⟩)] (stepB (fun _ u => upB o u) l) (fun _ w' => PrAt b o w') () hv (Nat.le_refl _) (enters_of Tryd.func34 (by kernel_rfl) rfl) (fun _ _ _ h hb => h.below hb)
    (fun i hi s w' cs _ hsz hI _ he => (up_fn b o l[i] cs i w' hI he hs).mono fun _ _ h => step_says hi h.2 hsz h.1 (hI.below h.2)) hO).mono fun _ _ h => all_is h

set_option maxHeartbeats 8000000 in
set_option maxRecDepth 100000 in
theorem nest_0 (ba bp n : Nat) (f : Pr) (cs : Array Value) (w : World) (hf : PrC w.heap.size w cs f) (hn : n = 0) :
    Calls Tryd.prog 21 #[.int .i64 (n : Int), .agg cs, .pointer (some ⟨ba, 0, none⟩), .pointer (some ⟨bp, 0, none⟩)] w fun e w' => e = .returned (.bool (decide (f.params = 0) && f.more && decide (f.ups.length = 0))) ∧ Below w.heap.size w w' := by
  have hmf := run_mf
  have HF0 := Lib.hid hf
  obtain ⟨vb, vu, vs, ve, rfl, q1, q2, q3, q4, i1, i2, i3⟩ := hf
  obtain ⟨ab, cb, rfl, _⟩ := q1.slice
  obtain ⟨au, cu, rfl, hul⟩ := q2.slice
  obtain ⟨at5, ct5, rfl, _⟩ := q3.slice
  obtain ⟨ae, ce, rfl, _⟩ := q4.slice
  unfold Len at hul
  clear q1 q2 q3 q4 i1 i2 i3 HF0
  subst hn
  generalize f.params = x at *
  generalize f.ups.length = k at *
  generalize f.more = z at *
  have hb := (Below.refl w.heap.size w).alloc (Nat.le_refl _) (.cells #[.int .i64 x, .bool z, .int .i64 f.slots, .slice ab (bools f.boxed).length cb, .slice au k cu, .slice at5 f.stmts.length ct5, .slice ae f.exprs.length ce, .int .i64 f.start] 35)
  have HB := Lib.hid hb
  clear hb
  by_cases h1 : x = 0
  · subst h1
    rw [decide_eq_true rfl, Bool.true_and]
    cases z with
    | false =>
      rw [Bool.false_and]
      go_enter Tryd.func21, Tryd.ntmps21
      go_wp2_with fail
      go_ret
      exact ⟨rfl, HB.out⟩
    | true =>
      rw [Bool.true_and]
      by_cases h2 : k = 0
      · subst h2
        go_enter Tryd.func21, Tryd.ntmps21
        go_wp2_with fail
        go_ret
        exact ⟨rfl, HB.out⟩
      · have h2' : ¬ (k : Int) = 0 := by omega
        rw [decide_eq_false h2]
        go_enter Tryd.func21, Tryd.ntmps21
        go_wp2_with fail
        go_ret
        exact ⟨ret_bool (by rw [beq_eq_false_iff_ne]; exact h2'), HB.out⟩
  · rw [decide_eq_false h1, Bool.false_and, Bool.false_and]
    go_enter Tryd.func21, Tryd.ntmps21
    go_wp2_with fail
    go_ret
    exact ⟨rfl, HB.out⟩

set_option maxHeartbeats 8000000 in
set_option maxRecDepth 100000 in
theorem nest_no (ba bp g N n : Nat) (ar : List Int) (f : Pr) (cs : Array Value) (w : World) (hf : PrC w.heap.size w cs f) (hA : w.heap[ba]? = some (.cells #[.slice (some ⟨g, 0, none⟩) N N] 39 (0, 0))) (hG : w.heap[g]? = some (.cells (ints ar).toArray 3 (0, 0))) (hn0 : n ≠ 0) (hnN0 : n < N) (har : ar.length = N) (hno : ar.getD n 0 = -1) :
    Calls Tryd.prog 21 #[.int .i64 (n : Int), .agg cs, .pointer (some ⟨ba, 0, none⟩), .pointer (some ⟨bp, 0, none⟩)] w fun e w' => e = .returned (.bool (false)) ∧ Below w.heap.size w w' := by
  have hmf := run_mf
  have HF0 := Lib.hid hf
  obtain ⟨vb, vu, vs, ve, rfl, q1, q2, q3, q4, i1, i2, i3⟩ := hf
  obtain ⟨ab, cb, rfl, _⟩ := q1.slice
  obtain ⟨au, cu, rfl, hul⟩ := q2.slice
  obtain ⟨at5, ct5, rfl, _⟩ := q3.slice
  obtain ⟨ae, ce, rfl, _⟩ := q4.slice
  unfold Len at hul
  obtain ⟨w1, hw1⟩ : ∃ w1, w1 = w.alloc (.cells #[.int .i64 f.params, .bool f.more, .int .i64 f.slots, .slice ab (bools f.boxed).length cb, .slice au f.ups.length cu, .slice at5 f.stmts.length ct5, .slice ae f.exprs.length ce, .int .i64 f.start] 35) := ⟨_, rfl⟩
  have hb : Below w.heap.size w w1 := by rw [hw1]; exact (Below.refl w.heap.size w).alloc (Nat.le_refl _) _
  have hnb : w1.heap[w.heap.size]? = some (.cells #[.int .i64 f.params, .bool f.more, .int .i64 f.slots, .slice ab (bools f.boxed).length cb, .slice au f.ups.length cu, .slice at5 f.stmts.length ct5, .slice ae f.exprs.length ce, .int .i64 f.start] 35 (0, 0)) := by rw [hw1]; exact new_block _ _
  have hn0' : ¬ (n : Int) = 0 := by omega
  have hnN : (n : Int) < N := by omega
  have hnp : (0 : Int) ≤ n := by omega
  have hnl : n < ar.length := by omega
  have hbaw := lt_of_get hA
  have hgw := lt_of_get hG
  have ca : w1.cell? ⟨ba, 0, none⟩ = some (.slice (some ⟨g, 0, none⟩) N N) := cell_of (at_below hA hb) 0 _ rfl
  obtain ⟨y, hy⟩ : ∃ y, ar.getD n 0 = y := ⟨_, rfl⟩
  have cg : w1.cell? ⟨g, n, none⟩ = some (.int .i64 y) := by
    refine cell_of (at_below hG hb) n _ ?_
    unfold ints
    rw [← hy, List.getD_eq_getElem?_getD, List.getElem?_toArray, List.getElem?_map, List.getElem?_eq_getElem hnl]; rfl
  have HB := Lib.hid hb
  rw [hno] at hy
  subst hy
  have hw : Below w1.heap.size w1 w1.drew := (Below.refl _ _).drew
  have KS : ∀ w', Below w1.heap.size w1 w' → w'.cell? ⟨ba, 0, none⟩ = some (.slice (some ⟨g, 0, none⟩) N N) ∧ w'.cell? ⟨g, n, none⟩ = some (.int .i64 (-1)) ∧ Below w1.heap.size w1 w' := fun w' hb => ⟨(hb.cell (p := ⟨ba, 0, none⟩) (World.block_lt_of_cell? w1 _ ca)).trans ca, (hb.cell (p := ⟨g, n, none⟩) (World.block_lt_of_cell? w1 _ cg)).trans cg, hb⟩
  have HW := Lib.hid hw
  clear q1 q2 q3 q4 i1 i2 i3 HF0 hA hG hb hnb
  go_enter Tryd.func21, Tryd.ntmps21
  go_upto_region 3 with (fail)
  rw [← hw1]
  clear hw1 ca cg
  refine wp_region_held_drew (S := fun w' => w'.cell? ⟨ba, 0, none⟩ = some (.slice (some ⟨g, 0, none⟩) N N) ∧ w'.cell? ⟨g, n, none⟩ = some (.int .i64 (-1)) ∧ Below w1.heap.size w1 w') (by kernel_rfl) (KS _ hw) (fun hS => ?_)
  refine wpAnyH_take (i := 0) (v := ?v0) rfl (by kernel_rfl) (by kernel_rfl) (by kernel_rfl) (fun _ _ _ h => h) (.inl ⟨by rfl, ?h0⟩) hS ?r0
  case h0 =>
    intro w' hs
    (try dsimp only at hs)
    go_split_ands
    go_simp
    try with_reducible rfl
  simp only [List.getElem_toArray, List.getElem_cons_zero, Act.put, List.setIfInBounds_toArray, List.set_cons_zero, List.set_cons_succ]
  refine wpAnyH_take (i := 1) (v := ?v1) rfl (by kernel_rfl) (by kernel_rfl) (by kernel_rfl) (fun _ _ _ h => h) (.inl ⟨by rfl, ?h1⟩) hS ?r1
  case h1 =>
    intro w' hs
    (try dsimp only at hs)
    go_split_ands
    go_simp
    try with_reducible rfl
  simp only [List.getElem_toArray, List.getElem_cons_succ, List.getElem_cons_zero, Act.put, List.setIfInBounds_toArray, List.set_cons_zero, List.set_cons_succ]
  refine wpAnyH_take (i := 2) (v := ?v2) rfl (by kernel_rfl) (by kernel_rfl) (by kernel_rfl) (fun _ _ _ h => h) (.inl ⟨by rfl, ?h2⟩) hS ?r2
  case h2 =>
    intro w' hs
    (try dsimp only at hs)
    go_split_ands
    go_simp
    try with_reducible rfl
  simp only [List.getElem_toArray, List.getElem_cons_succ, List.getElem_cons_zero, Act.put, List.setIfInBounds_toArray, List.set_cons_zero, List.set_cons_succ]
  refine wpAnyH_take (i := 3) (v := ?v3) rfl (by kernel_rfl) (by kernel_rfl) (by kernel_rfl) (fun _ _ _ h => h) (.inl ⟨by rfl, ?h3⟩) hS ?r3
  case h3 =>
    intro w' hs
    (try dsimp only at hs)
    go_split_ands
    go_simp
    try with_reducible rfl
  simp only [List.getElem_toArray, List.getElem_cons_succ, List.getElem_cons_zero, Act.put, List.setIfInBounds_toArray, List.set_cons_zero, List.set_cons_succ]
  refine wpAnyH_take (i := 4) (v := ?v4) rfl (by kernel_rfl) (by kernel_rfl) (by kernel_rfl) (fun _ _ _ h => h) (.inl ⟨by rfl, ?h4⟩) hS ?r4
  case h4 =>
    intro w' hs
    (try dsimp only at hs)
    go_split_ands
    go_simp
    try with_reducible rfl
  simp only [List.getElem_toArray, List.getElem_cons_succ, List.getElem_cons_zero, Act.put, List.setIfInBounds_toArray, List.set_cons_zero, List.set_cons_succ]
  refine wpAnyH_take (i := 5) (v := ?v5) rfl (by kernel_rfl) (by kernel_rfl) (by kernel_rfl) (fun _ _ _ h => h) (.inl ⟨by rfl, ?h5⟩) hS ?r5
  case h5 =>
    intro w' hs
    (try dsimp only at hs)
    go_split_ands
    go_simp
    try with_reducible rfl
  simp only [List.getElem_toArray, List.getElem_cons_succ, List.getElem_cons_zero, Act.put, List.setIfInBounds_toArray, List.set_cons_zero, List.set_cons_succ]
  refine wpAnyH_take (i := 6) (v := undef) rfl (by kernel_rfl) (by kernel_rfl) (by kernel_rfl) (fun _ _ _ h => h) (.inr ⟨by rfl, rfl⟩) hS ?_
  simp only [List.getElem_toArray, List.getElem_cons_succ, List.getElem_cons_zero, Act.put, List.setIfInBounds_toArray, List.set_cons_zero, List.set_cons_succ]
  refine wpAnyH_take (i := 7) (v := undef) rfl (by kernel_rfl) (by kernel_rfl) (by kernel_rfl) (fun _ _ _ h => h) (.inr ⟨by rfl, rfl⟩) hS ?_
  simp only [List.getElem_toArray, List.getElem_cons_succ, List.getElem_cons_zero, Act.put, List.setIfInBounds_toArray, List.set_cons_zero, List.set_cons_succ]
  refine wpAnyH_take (i := 8) (v := undef) rfl (by kernel_rfl) (by kernel_rfl) (by kernel_rfl) (fun _ _ _ h => h) (.inr ⟨by rfl, rfl⟩) hS ?_
  simp only [List.getElem_toArray, List.getElem_cons_succ, List.getElem_cons_zero, Act.put, List.setIfInBounds_toArray, List.set_cons_zero, List.set_cons_succ]
  refine wpAnyH_take (i := 9) (v := undef) rfl (by kernel_rfl) (by kernel_rfl) (by kernel_rfl) (fun _ _ _ h => h) (.inr ⟨by rfl, rfl⟩) hS ?_
  simp only [List.getElem_toArray, List.getElem_cons_succ, List.getElem_cons_zero, Act.put, List.setIfInBounds_toArray, List.set_cons_zero, List.set_cons_succ]
  refine wpAnyH_take (i := 10) (v := undef) rfl (by kernel_rfl) (by kernel_rfl) (by kernel_rfl) (fun _ _ _ h => h) (.inr ⟨by rfl, rfl⟩) hS ?_
  simp only [List.getElem_toArray, List.getElem_cons_succ, List.getElem_cons_zero, Act.put, List.setIfInBounds_toArray, List.set_cons_zero, List.set_cons_succ]
  refine wpAnyH_take (i := 11) (v := undef) rfl (by kernel_rfl) (by kernel_rfl) (by kernel_rfl) (fun _ _ _ h => h) (.inr ⟨by rfl, rfl⟩) hS ?_
  simp only [List.getElem_toArray, List.getElem_cons_succ, List.getElem_cons_zero, Act.put, List.setIfInBounds_toArray, List.set_cons_zero, List.set_cons_succ]
  refine wpAnyH_take (i := 12) (v := undef) rfl (by kernel_rfl) (by kernel_rfl) (by kernel_rfl) (fun _ _ _ h => h) (.inr ⟨by rfl, rfl⟩) hS ?_
  simp only [List.getElem_toArray, List.getElem_cons_succ, List.getElem_cons_zero, Act.put, List.setIfInBounds_toArray, List.set_cons_zero, List.set_cons_succ]
  refine wpAnyH_take (i := 13) (v := undef) rfl (by kernel_rfl) (by kernel_rfl) (by kernel_rfl) (fun _ _ _ h => h) (.inr ⟨by rfl, rfl⟩) hS ?_
  simp only [List.getElem_toArray, List.getElem_cons_succ, List.getElem_cons_zero, Act.put, List.setIfInBounds_toArray, List.set_cons_zero, List.set_cons_succ]
  refine wpAnyH_take (i := 14) (v := undef) rfl (by kernel_rfl) (by kernel_rfl) (by kernel_rfl) (fun _ _ _ h => h) (.inr ⟨by rfl, rfl⟩) hS ?_
  simp only [List.getElem_toArray, List.getElem_cons_succ, List.getElem_cons_zero, Act.put, List.setIfInBounds_toArray, List.set_cons_zero, List.set_cons_succ]
  refine wpAnyH_take (i := 15) (v := undef) rfl (by kernel_rfl) (by kernel_rfl) (by kernel_rfl) (fun _ _ _ h => h) (.inr ⟨by rfl, rfl⟩) hS ?_
  simp only [List.getElem_toArray, List.getElem_cons_succ, List.getElem_cons_zero, Act.put, List.setIfInBounds_toArray, List.set_cons_zero, List.set_cons_succ]
  refine wpAnyH_take (i := 16) (v := undef) rfl (by kernel_rfl) (by kernel_rfl) (by kernel_rfl) (fun _ _ _ h => h) (.inr ⟨by rfl, rfl⟩) hS ?_
  simp only [List.getElem_toArray, List.getElem_cons_succ, List.getElem_cons_zero, Act.put, List.setIfInBounds_toArray, List.set_cons_zero, List.set_cons_succ]
  refine wpAnyH_take (i := 17) (v := ?v17) rfl (by kernel_rfl) (by kernel_rfl) (by kernel_rfl) (fun _ _ _ h => h) (.inl ⟨by rfl, ?h17⟩) hS ?r17
  case h17 =>
    intro w' hs
    (try dsimp only at hs)
    go_split_ands
    go_simp
    try with_reducible rfl
  simp only [List.getElem_toArray, List.getElem_cons_succ, List.getElem_cons_zero, Act.put, List.setIfInBounds_toArray, List.set_cons_zero, List.set_cons_succ]
  refine wpAnyH_take (i := 18) (v := ?v18) rfl (by kernel_rfl) (by kernel_rfl) (by kernel_rfl) (fun _ _ _ h => h) (.inl ⟨by rfl, ?h18⟩) hS ?r18
  case h18 =>
    intro w' hs
    (try dsimp only at hs)
    go_split_ands
    go_simp
    try with_reducible rfl
  simp only [List.getElem_toArray, List.getElem_cons_succ, List.getElem_cons_zero, Act.put, List.setIfInBounds_toArray, List.set_cons_zero, List.set_cons_succ]
  refine wpAnyH_done (by kernel_rfl) ?_ _
  go_wp2_with fail
  go_ret
  exact ⟨rfl, HB.out.trans (HW.out.mono HB.out.size)⟩

set_option maxHeartbeats 8000000 in
set_option maxRecDepth 100000 in
theorem nest_yes (ba bp g N n : Nat) (ar : List Int) (ps : List Pr) (vp : Value) (f : Pr) (cs : Array Value) (w : World) (hf : PrC w.heap.size w cs f) (hA : w.heap[ba]? = some (.cells #[.slice (some ⟨g, 0, none⟩) N N] 39 (0, 0))) (hG : w.heap[g]? = some (.cells (ints ar).toArray 3 (0, 0))) (hP : w.heap[bp]? = some (.cells #[vp] 24 (0, 0))) (hV : RowsB 8 (PrC w.heap.size w) w.heap.size w vp ps) (hn0 : n ≠ 0) (hnN0 : n < N) (har : ar.length = N) (hps : ps.length = N) (m : Nat) (hm : m < ps.length) (hy0 : ar.getD n 0 = m) (hfit : (ps[m].boxed.length : Int) = ps[m].slots) :
    Calls Tryd.prog 21 #[.int .i64 (n : Int), .agg cs, .pointer (some ⟨ba, 0, none⟩), .pointer (some ⟨bp, 0, none⟩)] w fun e w' => e = .returned (.bool (allB (fun _ u => upB ps[m] u) f.ups)) ∧ Below w.heap.size w w' := by
  have hmf := run_mf
  have HF0 := Lib.hid hf
  obtain ⟨vb, vu, vs, ve, rfl, q1, q2, q3, q4, i1, i2, i3⟩ := hf
  obtain ⟨ab, cb, rfl, _⟩ := q1.slice
  obtain ⟨au, cu, rfl, hul⟩ := q2.slice
  obtain ⟨at5, ct5, rfl, _⟩ := q3.slice
  obtain ⟨ae, ce, rfl, _⟩ := q4.slice
  unfold Len at hul
  obtain ⟨w1, hw1⟩ : ∃ w1, w1 = w.alloc (.cells #[.int .i64 f.params, .bool f.more, .int .i64 f.slots, .slice ab (bools f.boxed).length cb, .slice au f.ups.length cu, .slice at5 f.stmts.length ct5, .slice ae f.exprs.length ce, .int .i64 f.start] 35) := ⟨_, rfl⟩
  have hb : Below w.heap.size w w1 := by rw [hw1]; exact (Below.refl w.heap.size w).alloc (Nat.le_refl _) _
  have hnb : w1.heap[w.heap.size]? = some (.cells #[.int .i64 f.params, .bool f.more, .int .i64 f.slots, .slice ab (bools f.boxed).length cb, .slice au f.ups.length cu, .slice at5 f.stmts.length ct5, .slice ae f.exprs.length ce, .int .i64 f.start] 35 (0, 0)) := by rw [hw1]; exact new_block _ _
  have hn0' : ¬ (n : Int) = 0 := by omega
  have hnN : (n : Int) < N := by omega
  have hnp : (0 : Int) ≤ n := by omega
  have hnl : n < ar.length := by omega
  have hbaw := lt_of_get hA
  have hgw := lt_of_get hG
  have ca : w1.cell? ⟨ba, 0, none⟩ = some (.slice (some ⟨g, 0, none⟩) N N) := cell_of (at_below hA hb) 0 _ rfl
  obtain ⟨y, hy⟩ : ∃ y, ar.getD n 0 = y := ⟨_, rfl⟩
  have cg : w1.cell? ⟨g, n, none⟩ = some (.int .i64 y) := by
    refine cell_of (at_below hG hb) n _ ?_
    unfold ints
    rw [← hy, List.getD_eq_getElem?_getD, List.getElem?_toArray, List.getElem?_map, List.getElem?_eq_getElem hnl]; rfl
  have HB := Lib.hid hb
  have hqs : w1.heap.size = w.heap.size + 1 := by rw [hw1]; simp
  have hVV := hV.below hb (fun _ _ h => h.below hb)
  obtain ⟨gp, off, cap, cso, hgp, hv, _, hC, hcell⟩ := hVV.item hm
  rw [hps] at hv
  subst hv
  have cp : w1.cell? ⟨bp, 0, none⟩ = some (.slice (some ⟨gp, off, none⟩) N cap) := cell_of (at_below hP hb) 0 _ rfl
  have cf : w1.cell? ⟨w.heap.size, 4, none⟩ = some (.slice au f.ups.length cu) := cell_of hnb 4 _ rfl
  have HCO := Lib.hid hC
  obtain ⟨vb2, vu2, vs2, ve2, rfl, z1, z2, z3, z4, _⟩ := hC
  obtain ⟨ab2, cb2, rfl, _⟩ := z1.slice
  obtain ⟨au2, cu2, rfl, _⟩ := z2.slice
  obtain ⟨as2, cs2, rfl, _⟩ := z3.slice
  obtain ⟨ae2, ce2, rfl, _⟩ := z4.slice
  obtain ⟨_, x0⟩ := hcell 0 (by decide)
  have x0 : w1.cell? ⟨gp, off + m * 8, none⟩ = some (.int .i64 ps[m].params) := x0
  obtain ⟨_, x1⟩ := hcell 1 (by decide)
  have x1 : w1.cell? ⟨gp, off + m * 8 + 1, none⟩ = some (.bool ps[m].more) := x1
  obtain ⟨_, x2⟩ := hcell 2 (by decide)
  have x2 : w1.cell? ⟨gp, off + m * 8 + 2, none⟩ = some (.int .i64 ps[m].slots) := x2
  obtain ⟨_, x3⟩ := hcell 3 (by decide)
  have x3 : w1.cell? ⟨gp, off + m * 8 + 3, none⟩ = some (.slice ab2 (bools ps[m].boxed).length cb2) := x3
  obtain ⟨_, x4⟩ := hcell 4 (by decide)
  have x4 : w1.cell? ⟨gp, off + m * 8 + 4, none⟩ = some (.slice au2 ps[m].ups.length cu2) := x4
  obtain ⟨_, x5⟩ := hcell 5 (by decide)
  have x5 : w1.cell? ⟨gp, off + m * 8 + 5, none⟩ = some (.slice as2 ps[m].stmts.length cs2) := x5
  obtain ⟨_, x6⟩ := hcell 6 (by decide)
  have x6 : w1.cell? ⟨gp, off + m * 8 + 6, none⟩ = some (.slice ae2 ps[m].exprs.length ce2) := x6
  obtain ⟨_, x7⟩ := hcell 7 (by decide)
  have x7 : w1.cell? ⟨gp, off + m * 8 + 7, none⟩ = some (.int .i64 ps[m].start) := x7
  rw [hy0] at hy
  subst hy
  have hmN : (m : Int) < N := by omega
  have hm0 : (0 : Int) ≤ m := by omega
  have hmne : ¬ (m : Int) = -1 := by omega
  have kup : ∀ w', Below w1.heap.size w1 w' → RowsB 2 UpC w'.heap.size w' (.slice au f.ups.length cu) f.ups := fun w' hb2 => by
    have hb3 := hb.trans (hb2.mono (by omega))
    exact (q2.below hb3 (fun _ _ h => h)).mono hb3.size (fun _ _ h => h)
  generalize ps[m] = o at *
  have k1 : ∀ w', Below w1.heap.size w1 w' → Calls Tryd.prog 23 #[.agg #[.int .i64 o.params, .bool o.more, .int .i64 o.slots, .slice ab2 (bools o.boxed).length cb2, .slice au2 o.ups.length cu2, .slice as2 o.stmts.length cs2, .slice ae2 o.exprs.length ce2, .int .i64 o.start]] w' fun e w'' => ∃ b, e = .returned (.func (.func 34) #[] #[.pointer (some ⟨b, 0, none⟩)]) ∧ PrAt b o w'' ∧ Below w1.heap.size w1 w'' := fun w' hb2 => by
    have hlt : w.heap.size ≤ w'.heap.size := by have := hb2.size; omega
    exact (upOf_fn o _ w' ((HCO.out.below (hb2.mono (by omega))).mono hlt)).mono fun _ _ ⟨b, h1, h2, h3⟩ => ⟨b, h1, h2, hb2.trans (h3.mono hb2.size)⟩
  have k2 : ∀ b w', PrAt b o w' → Below w1.heap.size w1 w' → Calls Tryd.prog 22 #[.slice au f.ups.length cu, .func (.func 34) #[] #[.pointer (some ⟨b, 0, none⟩)]] w' fun r w'' => r = .returned (.bool (allB (fun _ u => upB o u) f.ups)) ∧ Below w1.heap.size w1 w'' := fun b w' hO hb2 =>
    (all_up_fn b o _ f.ups w' hO (kup w' hb2) hfit).mono fun _ _ h => ⟨h.1, hb2.trans (h.2.mono hb2.size)⟩
  generalize allB (fun _ u => upB o u) f.ups = Z at *
  have hw : Below w1.heap.size w1 w1.drew := (Below.refl _ _).drew
  have KS : ∀ w', Below w1.heap.size w1 w' → w'.cell? ⟨ba, 0, none⟩ = some (.slice (some ⟨g, 0, none⟩) N N) ∧ w'.cell? ⟨g, n, none⟩ = some (.int .i64 (m : Int)) ∧ w'.cell? ⟨bp, 0, none⟩ = some (.slice (some ⟨gp, off, none⟩) N cap) ∧ w'.cell? ⟨w.heap.size, 4, none⟩ = some (.slice au f.ups.length cu) ∧ w'.cell? ⟨gp, off + m * 8, none⟩ = some (.int .i64 o.params) ∧ w'.cell? ⟨gp, off + m * 8 + 1, none⟩ = some (.bool o.more) ∧ w'.cell? ⟨gp, off + m * 8 + 2, none⟩ = some (.int .i64 o.slots) ∧ w'.cell? ⟨gp, off + m * 8 + 3, none⟩ = some (.slice ab2 (bools o.boxed).length cb2) ∧ w'.cell? ⟨gp, off + m * 8 + 4, none⟩ = some (.slice au2 o.ups.length cu2) ∧ w'.cell? ⟨gp, off + m * 8 + 5, none⟩ = some (.slice as2 o.stmts.length cs2) ∧ w'.cell? ⟨gp, off + m * 8 + 6, none⟩ = some (.slice ae2 o.exprs.length ce2) ∧ w'.cell? ⟨gp, off + m * 8 + 7, none⟩ = some (.int .i64 o.start) ∧ Below w1.heap.size w1 w' := fun w' hb => ⟨(hb.cell (p := ⟨ba, 0, none⟩) (World.block_lt_of_cell? w1 _ ca)).trans ca, (hb.cell (p := ⟨g, n, none⟩) (World.block_lt_of_cell? w1 _ cg)).trans cg, (hb.cell (p := ⟨bp, 0, none⟩) (World.block_lt_of_cell? w1 _ cp)).trans cp, (hb.cell (p := ⟨w.heap.size, 4, none⟩) (World.block_lt_of_cell? w1 _ cf)).trans cf, (hb.cell (p := ⟨gp, off + m * 8, none⟩) (World.block_lt_of_cell? w1 _ x0)).trans x0, (hb.cell (p := ⟨gp, off + m * 8 + 1, none⟩) (World.block_lt_of_cell? w1 _ x1)).trans x1, (hb.cell (p := ⟨gp, off + m * 8 + 2, none⟩) (World.block_lt_of_cell? w1 _ x2)).trans x2, (hb.cell (p := ⟨gp, off + m * 8 + 3, none⟩) (World.block_lt_of_cell? w1 _ x3)).trans x3, (hb.cell (p := ⟨gp, off + m * 8 + 4, none⟩) (World.block_lt_of_cell? w1 _ x4)).trans x4, (hb.cell (p := ⟨gp, off + m * 8 + 5, none⟩) (World.block_lt_of_cell? w1 _ x5)).trans x5, (hb.cell (p := ⟨gp, off + m * 8 + 6, none⟩) (World.block_lt_of_cell? w1 _ x6)).trans x6, (hb.cell (p := ⟨gp, off + m * 8 + 7, none⟩) (World.block_lt_of_cell? w1 _ x7)).trans x7, hb⟩
  clear q1 q2 q3 q4 i1 i2 i3 HF0 hA hG hb hnb z1 z2 z3 z4 hcell hVV hV hP HCO kup hfit
  go_enter Tryd.func21, Tryd.ntmps21
  go_upto_region 3 with (fail)
  rw [← hw1]
  clear hw1 ca cg cp cf x0 x1 x2 x3 x4 x5 x6 x7
  refine wp_region_held_drew (S := fun w' => w'.cell? ⟨ba, 0, none⟩ = some (.slice (some ⟨g, 0, none⟩) N N) ∧ w'.cell? ⟨g, n, none⟩ = some (.int .i64 (m : Int)) ∧ w'.cell? ⟨bp, 0, none⟩ = some (.slice (some ⟨gp, off, none⟩) N cap) ∧ w'.cell? ⟨w.heap.size, 4, none⟩ = some (.slice au f.ups.length cu) ∧ w'.cell? ⟨gp, off + m * 8, none⟩ = some (.int .i64 o.params) ∧ w'.cell? ⟨gp, off + m * 8 + 1, none⟩ = some (.bool o.more) ∧ w'.cell? ⟨gp, off + m * 8 + 2, none⟩ = some (.int .i64 o.slots) ∧ w'.cell? ⟨gp, off + m * 8 + 3, none⟩ = some (.slice ab2 (bools o.boxed).length cb2) ∧ w'.cell? ⟨gp, off + m * 8 + 4, none⟩ = some (.slice au2 o.ups.length cu2) ∧ w'.cell? ⟨gp, off + m * 8 + 5, none⟩ = some (.slice as2 o.stmts.length cs2) ∧ w'.cell? ⟨gp, off + m * 8 + 6, none⟩ = some (.slice ae2 o.exprs.length ce2) ∧ w'.cell? ⟨gp, off + m * 8 + 7, none⟩ = some (.int .i64 o.start) ∧ Below w1.heap.size w1 w') (by kernel_rfl) (KS _ hw) (fun hS => ?_)
  refine wpAnyH_take (i := 0) (v := ?v0) rfl (by kernel_rfl) (by kernel_rfl) (by kernel_rfl) (fun _ _ _ h => h) (.inl ⟨by rfl, ?h0⟩) hS ?r0
  case h0 =>
    intro w' hs
    (try dsimp only at hs)
    go_split_ands
    go_simp
    try with_reducible rfl
  simp only [List.getElem_toArray, List.getElem_cons_zero, Act.put, List.setIfInBounds_toArray, List.set_cons_zero, List.set_cons_succ]
  refine wpAnyH_take (i := 1) (v := ?v1) rfl (by kernel_rfl) (by kernel_rfl) (by kernel_rfl) (fun _ _ _ h => h) (.inl ⟨by rfl, ?h1⟩) hS ?r1
  case h1 =>
    intro w' hs
    (try dsimp only at hs)
    go_split_ands
    go_simp
    try with_reducible rfl
  simp only [List.getElem_toArray, List.getElem_cons_succ, List.getElem_cons_zero, Act.put, List.setIfInBounds_toArray, List.set_cons_zero, List.set_cons_succ]
  refine wpAnyH_take (i := 2) (v := ?v2) rfl (by kernel_rfl) (by kernel_rfl) (by kernel_rfl) (fun _ _ _ h => h) (.inl ⟨by rfl, ?h2⟩) hS ?r2
  case h2 =>
    intro w' hs
    (try dsimp only at hs)
    go_split_ands
    go_simp
    try with_reducible rfl
  simp only [List.getElem_toArray, List.getElem_cons_succ, List.getElem_cons_zero, Act.put, List.setIfInBounds_toArray, List.set_cons_zero, List.set_cons_succ]
  refine wpAnyH_take (i := 3) (v := ?v3) rfl (by kernel_rfl) (by kernel_rfl) (by kernel_rfl) (fun _ _ _ h => h) (.inl ⟨by rfl, ?h3⟩) hS ?r3
  case h3 =>
    intro w' hs
    (try dsimp only at hs)
    go_split_ands
    go_simp
    try with_reducible rfl
  simp only [List.getElem_toArray, List.getElem_cons_succ, List.getElem_cons_zero, Act.put, List.setIfInBounds_toArray, List.set_cons_zero, List.set_cons_succ]
  refine wpAnyH_take (i := 4) (v := ?v4) rfl (by kernel_rfl) (by kernel_rfl) (by kernel_rfl) (fun _ _ _ h => h) (.inl ⟨by rfl, ?h4⟩) hS ?r4
  case h4 =>
    intro w' hs
    (try dsimp only at hs)
    go_split_ands
    go_simp
    try with_reducible rfl
  simp only [List.getElem_toArray, List.getElem_cons_succ, List.getElem_cons_zero, Act.put, List.setIfInBounds_toArray, List.set_cons_zero, List.set_cons_succ]
  refine wpAnyH_take (i := 5) (v := ?v5) rfl (by kernel_rfl) (by kernel_rfl) (by kernel_rfl) (fun _ _ _ h => h) (.inl ⟨by rfl, ?h5⟩) hS ?r5
  case h5 =>
    intro w' hs
    (try dsimp only at hs)
    go_split_ands
    go_simp
    try with_reducible rfl
  simp only [List.getElem_toArray, List.getElem_cons_succ, List.getElem_cons_zero, Act.put, List.setIfInBounds_toArray, List.set_cons_zero, List.set_cons_succ]
  refine wpAnyH_take (i := 6) (v := ?v6) rfl (by kernel_rfl) (by kernel_rfl) (by kernel_rfl) (fun _ _ _ h => h) (.inl ⟨by rfl, ?h6⟩) hS ?r6
  case h6 =>
    intro w' hs
    (try dsimp only at hs)
    go_split_ands
    go_simp
    try with_reducible rfl
  simp only [List.getElem_toArray, List.getElem_cons_succ, List.getElem_cons_zero, Act.put, List.setIfInBounds_toArray, List.set_cons_zero, List.set_cons_succ]
  refine wpAnyH_take (i := 7) (v := ?v7) rfl (by kernel_rfl) (by kernel_rfl) (by kernel_rfl) (fun _ _ _ h => h) (.inl ⟨by rfl, ?h7⟩) hS ?r7
  case h7 =>
    intro w' hs
    (try dsimp only at hs)
    go_split_ands
    go_simp
    try with_reducible rfl
  simp only [List.getElem_toArray, List.getElem_cons_succ, List.getElem_cons_zero, Act.put, List.setIfInBounds_toArray, List.set_cons_zero, List.set_cons_succ]
  refine wpAnyH_take (i := 8) (v := ?v8) rfl (by kernel_rfl) (by kernel_rfl) (by kernel_rfl) (fun _ _ _ h => h) (.inl ⟨by rfl, ?h8⟩) hS ?r8
  case h8 =>
    intro w' hs
    (try dsimp only at hs)
    go_split_ands
    go_simp
    try with_reducible rfl
  simp only [List.getElem_toArray, List.getElem_cons_succ, List.getElem_cons_zero, Act.put, List.setIfInBounds_toArray, List.set_cons_zero, List.set_cons_succ]
  refine wpAnyH_take (i := 9) (v := ?v9) rfl (by kernel_rfl) (by kernel_rfl) (by kernel_rfl) (fun _ _ _ h => h) (.inl ⟨by rfl, ?h9⟩) hS ?r9
  case h9 =>
    intro w' hs
    (try dsimp only at hs)
    go_split_ands
    go_simp
    try with_reducible rfl
  simp only [List.getElem_toArray, List.getElem_cons_succ, List.getElem_cons_zero, Act.put, List.setIfInBounds_toArray, List.set_cons_zero, List.set_cons_succ]
  refine wpAnyH_take (i := 10) (v := ?v10) rfl (by kernel_rfl) (by kernel_rfl) (by kernel_rfl) (fun _ _ _ h => h) (.inl ⟨by rfl, ?h10⟩) hS ?r10
  case h10 =>
    intro w' hs
    (try dsimp only at hs)
    go_split_ands
    go_simp
    try with_reducible rfl
  simp only [List.getElem_toArray, List.getElem_cons_succ, List.getElem_cons_zero, Act.put, List.setIfInBounds_toArray, List.set_cons_zero, List.set_cons_succ]
  refine wpAnyH_take (i := 11) (v := ?v11) rfl (by kernel_rfl) (by kernel_rfl) (by kernel_rfl) (fun _ _ _ h => h) (.inl ⟨by rfl, ?h11⟩) hS ?r11
  case h11 =>
    intro w' hs
    (try dsimp only at hs)
    go_split_ands
    go_simp
    try with_reducible rfl
  simp only [List.getElem_toArray, List.getElem_cons_succ, List.getElem_cons_zero, Act.put, List.setIfInBounds_toArray, List.set_cons_zero, List.set_cons_succ]
  refine wpAnyH_take (i := 12) (v := ?v12) rfl (by kernel_rfl) (by kernel_rfl) (by kernel_rfl) (fun _ _ _ h => h) (.inl ⟨by rfl, ?h12⟩) hS ?r12
  case h12 =>
    intro w' hs
    (try dsimp only at hs)
    go_split_ands
    go_simp
    try with_reducible rfl
  simp only [List.getElem_toArray, List.getElem_cons_succ, List.getElem_cons_zero, Act.put, List.setIfInBounds_toArray, List.set_cons_zero, List.set_cons_succ]
  refine wpAnyH_take (i := 13) (v := ?v13) rfl (by kernel_rfl) (by kernel_rfl) (by kernel_rfl) (fun _ _ _ h => h) (.inl ⟨by rfl, ?h13⟩) hS ?r13
  case h13 =>
    intro w' hs
    (try dsimp only at hs)
    go_split_ands
    go_simp
    try with_reducible rfl
  simp only [List.getElem_toArray, List.getElem_cons_succ, List.getElem_cons_zero, Act.put, List.setIfInBounds_toArray, List.set_cons_zero, List.set_cons_succ]
  refine wpAnyH_take (i := 14) (v := ?v14) rfl (by kernel_rfl) (by kernel_rfl) (by kernel_rfl) (fun _ _ _ h => h) (.inl ⟨by rfl, ?h14⟩) hS ?r14
  case h14 =>
    intro w' hs
    (try dsimp only at hs)
    go_split_ands
    go_simp
    try with_reducible rfl
  simp only [List.getElem_toArray, List.getElem_cons_succ, List.getElem_cons_zero, Act.put, List.setIfInBounds_toArray, List.set_cons_zero, List.set_cons_succ]
  refine wpAnyH_ready (rs := [15]) (by kernel_rfl) (by simp) (AllReadyH.cons rfl (fun K hK => ?_) AllReadyH.nil)
  go_simp
  go_at_call 23
  refine (k1 _ hw).mono ?_
  rintro e w' ⟨b, rfl, hO, hw⟩
  go_wp2_with fail
  refine hK.out _ _ (KS _ hw) (fun hS => ?_)
  clear hK
  refine wpAnyH_ready (rs := [16]) (by kernel_rfl) (by simp) (AllReadyH.cons rfl (fun K hK => ?_) AllReadyH.nil)
  go_simp
  go_at_call 22
  refine (k2 _ _ hO hw).mono ?_
  rintro e w' ⟨rfl, hw⟩
  go_wp2_with fail
  refine hK.out _ _ (KS _ hw) (fun hS => ?_)
  clear hK
  refine wpAnyH_take (i := 17) (v := ?v17) rfl (by kernel_rfl) (by kernel_rfl) (by kernel_rfl) (fun _ _ _ h => h) (.inl ⟨by rfl, ?h17⟩) hS ?r17
  case h17 =>
    intro w' hs
    (try dsimp only at hs)
    go_split_ands
    go_simp
    try with_reducible rfl
  simp only [List.getElem_toArray, List.getElem_cons_succ, List.getElem_cons_zero, Act.put, List.setIfInBounds_toArray, List.set_cons_zero, List.set_cons_succ]
  refine wpAnyH_take (i := 18) (v := ?v18) rfl (by kernel_rfl) (by kernel_rfl) (by kernel_rfl) (fun _ _ _ h => h) (.inl ⟨by rfl, ?h18⟩) hS ?r18
  case h18 =>
    intro w' hs
    (try dsimp only at hs)
    go_split_ands
    go_simp
    try with_reducible rfl
  simp only [List.getElem_toArray, List.getElem_cons_succ, List.getElem_cons_zero, Act.put, List.setIfInBounds_toArray, List.set_cons_zero, List.set_cons_succ]
  refine wpAnyH_done (by kernel_rfl) ?_ _
  go_wp2_with fail
  go_ret
  exact ⟨rfl, HB.out.trans (hw.mono HB.out.size)⟩

end Go.Proofs.YtnnjkejejlhkdaaDoor.Rt
