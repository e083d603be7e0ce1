/-
  Layer 9: a table's kids; exprFits; starts.
-/
import Derived.Test.YtnnjkejejlhkdaaDoorRtSt
import Derived.Deep.RegionHeld3
namespace Go.Proofs.YtnnjkejejlhkdaaDoor.Rt
open Go Go.RowKit

/-- What stands while a table is asked. -/
structure HoldT (w0 : World) (F : Nat) (f : Pr) (strs protos : Nat) (e : Ex) (vk : Value) (w : World) : Prop where
  fn : FnAt F f strs protos w
  ex : w.heap[w0.heap.size + 1]? = some (.cells (exCells e vk) 41 (0, 0))
  ls : LstB w.heap.size w vk (ints e.kids)
  pt : PtrAt w0.heap.size F w
  low : Below w0.heap.size w0 w
theorem HoldT.below {w0 : World} {F : Nat} {f : Pr} {strs protos : Nat} {e : Ex} {vk : Value} {w w' : World} (h : HoldT w0 F f strs protos e vk w) (hb : Below w.heap.size w w') : HoldT w0 F f strs protos e vk w' :=
  ⟨h.fn.below hb, at_below h.ex hb, (h.ls.below hb).mono hb.size, at_below h.pt hb, h.low.trans (hb.mono h.low.size)⟩

set_option maxHeartbeats 4000000 in
set_option maxRecDepth 100000 in
theorem kids_t (F : Nat) (f : Pr) (strs protos : Nat) (e : Ex) (vk : Value) (w : World) (hF : FnAt F f strs protos w) (hk : LstB w.heap.size w vk (ints e.kids)) (hl : Places f e.kids) (hc : e.k = 18) :
    Calls Tryd.prog 43 #[.pointer (some ⟨F, 0, none⟩), .agg (exCells e vk)] w fun r w' => r = .returned (.bool (areB 0 4096 (fun _ c => ofB f [19, 20] c) e.kids)) ∧ Below w.heap.size w w' := by
  have hmf := run_mf
  obtain ⟨k, n, kids⟩ := e
  dsimp only at *
  subst hc
  obtain ⟨ak, ck, rfl, hlen⟩ := hk.slice
  obtain ⟨A, hA⟩ : ∃ A, A = Obj.cells #[.pointer (some ⟨F, 0, none⟩)] 69 (0, 0) := ⟨_, rfl⟩
  obtain ⟨B, hB⟩ : ∃ B, B = Obj.cells (exCells ⟨18, n, kids⟩ (.slice ak (ints kids).length ck)) 41 (0, 0) := ⟨_, rfl⟩
  obtain ⟨t0, t1, hb⟩ := two w A B
  obtain ⟨w2, hw2⟩ : ∃ w2, w2 = (w.alloc A).alloc B := ⟨_, rfl⟩
  have hsz : w2.heap.size = w.heap.size + 1 + 1 := by rw [hw2]; simp
  rw [← hw2] at t0 t1 hb
  obtain ⟨H, hHd⟩ : ∃ H : World → Prop, H = HoldT w F f strs protos ⟨18, n, kids⟩ (.slice ak (ints kids).length ck) := ⟨_, rfl⟩
  have hT : HoldT w F f strs protos ⟨18, n, kids⟩ (.slice ak (ints kids).length ck) w2 := ⟨hF.below hb, by rw [t1, hB], (hk.below hb).mono hb.size, by unfold PtrAt; rw [t0, hA], hb⟩
  have hw : H w2.drew := by rw [hHd]; exact hT.below ((Below.refl _ _).drew)
  have c0 := cell_of hT.pt 0 _ rfl
  have c1 := cell_of hT.ex 0 _ rfl
  have KS : ∀ w', H w' → w'.cell? ⟨w.heap.size + 1, 2, none⟩ = some (.slice ak (ints kids).length ck) ∧ w'.cell? ⟨w.heap.size, 0, none⟩ = some (.pointer (some ⟨F, 0, none⟩)) ∧ H w' := by
    intro w' h
    have h0 := h
    rw [hHd] at h
    exact ⟨cell_of h.ex 2 _ rfl, cell_of h.pt 0 _ rfl, h0⟩
  have ka : ∀ w' o, H w' → H (w'.alloc o) := by
    intro w' o h
    rw [hHd] at h ⊢
    exact h.below ((Below.refl _ _).alloc (Nat.le_refl _) o)
  have k1 : ∀ w', H w' → Calls Tryd.prog 45 #[.pointer (some ⟨F, 0, none⟩), .slice (some ⟨w'.heap.size, 0, none⟩) 2 2] (w'.alloc (.cells #[.int .u8 19, .int .u8 20] 38)) fun e w'' => ∃ bt bf, e = .returned (.func (.func 56) #[] #[.pointer (some ⟨bt, 0, none⟩), .pointer (some ⟨bf, 0, none⟩)]) ∧ OfAt bt bf F [19, 20] w'' ∧ H w'' := by
    intro w' h
    have nr := (new_row w' [19, 20]).resolve_right (fun h => h (by unfold Len; decide))
    refine (of_fn F _ [19, 20] _ nr).mono ?_
    rintro e w'' ⟨bt, bf, h1, h2, h3⟩
    have h9 := ka w' (.cells (kinds [19, 20]).toArray 38) h
    rw [hHd] at h9 ⊢
    exact ⟨bt, bf, h1, h2, h9.below h3⟩
  obtain ⟨Z, hZ⟩ : ∃ Z, areB 0 4096 (fun _ c => ofB f [19, 20] c) kids = Z := ⟨_, rfl⟩
  rw [hZ]
  have k2 : ∀ bt bf w', OfAt bt bf F [19, 20] w' → H w' → Calls Tryd.prog 47 #[.slice ak (ints kids).length ck, .agg #[.int .i64 0, .int .i64 4096], .func (.func 56) #[] #[.pointer (some ⟨bt, 0, none⟩), .pointer (some ⟨bf, 0, none⟩)]] w' fun e w'' => e = .returned (.bool Z) ∧ H w'' := by
    intro bt bf w' ho h
    rw [hHd] at h ⊢
    rw [← hZ]
    exact (are_of F f strs protos bt bf _ _ kids _ _ w' h.fn ho h.ls hl).mono fun _ _ g => ⟨g.1, h.below g.2⟩
  have hend : ∀ w', H w' → Below w.heap.size w w' := fun w' h => by
    rw [hHd] at h
    exact h.low
  have HE := Lib.hid hend
  clear hT hHd hend t0 t1 hb hF hk hl
  unfold exCells
  unfold exCells at hB
  subst hA hB
  go_enter Tryd.func43, Tryd.ntmps43
  go_upto_region 29 with (fail)
  have hw3 : (w.alloc (.cells #[.pointer (some ⟨F, 0, none⟩)] 69)).alloc (.cells #[.int .u8 18, .int .i64 n, .slice ak (ints kids).length ck] 41) = w2 := hw2.symm
  rw [hw3]
  clear hw2 hw3 hsz
  refine wp_region_held_drew (S := (fun w' => w'.cell? ⟨w.heap.size + 1, 2, none⟩ = some (.slice ak (ints kids).length ck) ∧ w'.cell? ⟨w.heap.size, 0, none⟩ = some (.pointer (some ⟨F, 0, none⟩)) ∧ H w')) (by kernel_rfl) (KS _ hw) (fun hS => ?_)
  refine wpAnyH_take (i := 0) (v := ?v0) rfl (by kernel_rfl) (by kernel_rfl) (by kernel_rfl) (fun _ _ _ h => h) (.inl ⟨by rfl, ?h0⟩) hS ?r0
  case h0 =>
    intro w' hs
    (try dsimp only at hs)
    go_split_ands
    go_simp
    try with_reducible rfl
  simp only [List.getElem_toArray, List.getElem_cons_zero, Act.put, List.setIfInBounds_toArray, List.set_cons_zero, List.set_cons_succ]
  refine wpAnyH_take (i := 1) (v := ?v1) rfl (by kernel_rfl) (by kernel_rfl) (by kernel_rfl) (fun _ _ _ h => h) (.inl ⟨by rfl, ?h1⟩) hS ?r1
  case h1 =>
    intro w' hs
    (try dsimp only at hs)
    go_split_ands
    go_simp
    try with_reducible rfl
  simp only [List.getElem_toArray, List.getElem_cons_succ, List.getElem_cons_zero, Act.put, List.setIfInBounds_toArray, List.set_cons_zero, List.set_cons_succ]
  refine wpAnyH_take (i := 2) (v := ?v2) rfl (by kernel_rfl) (by kernel_rfl) (by kernel_rfl) (fun _ _ _ h => h) (.inl ⟨by rfl, ?h2⟩) hS ?r2
  case h2 =>
    intro w' hs
    (try dsimp only at hs)
    go_split_ands
    go_simp
    try with_reducible rfl
  simp only [List.getElem_toArray, List.getElem_cons_succ, List.getElem_cons_zero, Act.put, List.setIfInBounds_toArray, List.set_cons_zero, List.set_cons_succ]
  refine wpAnyH_take (i := 3) (v := ?v3) rfl (by kernel_rfl) (by kernel_rfl) (by kernel_rfl) (fun _ _ _ h => h) (.inl ⟨by rfl, ?h3⟩) hS ?r3
  case h3 =>
    intro w' hs
    (try dsimp only at hs)
    go_split_ands
    go_simp
    try with_reducible rfl
  simp only [List.getElem_toArray, List.getElem_cons_succ, List.getElem_cons_zero, Act.put, List.setIfInBounds_toArray, List.set_cons_zero, List.set_cons_succ]
  refine wpAnyH_ready (rs := [4]) (by kernel_rfl) (by simp) (AllReadyH.cons rfl (fun K hK => ?_) AllReadyH.nil)
  go_simp
  refine hK.out _ _ (KS _ (ka _ _ hw)) (fun hS => ?_)
  clear hK
  refine wpAnyH_ready (rs := [5]) (by kernel_rfl) (by simp) (AllReadyH.cons rfl (fun K hK => ?_) AllReadyH.nil)
  go_simp
  go_at_call 45
  refine (k1 _ hw).mono ?_
  rintro e w' ⟨bt, bf, rfl, ho, hw⟩
  go_wp2_with fail
  refine hK.out _ _ (KS _ hw) (fun hS => ?_)
  clear hK
  refine wpAnyH_ready (rs := [6]) (by kernel_rfl) (by simp) (AllReadyH.cons rfl (fun K hK => ?_) AllReadyH.nil)
  go_simp
  go_at_call 47
  refine (k2 _ _ _ ho hw).mono ?_
  rintro e w' ⟨rfl, hw⟩
  go_wp2_with fail
  refine hK.out _ _ (KS _ hw) (fun hS => ?_)
  clear hK
  refine wpAnyH_take (i := 7) (v := ?v7) rfl (by kernel_rfl) (by kernel_rfl) (by kernel_rfl) (fun _ _ _ h => h) (.inl ⟨by rfl, ?h7⟩) hS ?r7
  case h7 =>
    intro w' hs
    (try dsimp only at hs)
    go_split_ands
    go_simp
    try with_reducible rfl
  simp only [List.getElem_toArray, List.getElem_cons_succ, List.getElem_cons_zero, Act.put, List.setIfInBounds_toArray, List.set_cons_zero, List.set_cons_succ]
  refine wpAnyH_done (by kernel_rfl) ?_ _
  go_wp2_with fail
  go_ret
  exact ⟨rfl, HE.out _ hw⟩

theorem kids_fn (F : Nat) (f : Pr) (strs protos : Nat) (e : Ex) (vk : Value) (w : World) (hF : FnAt F f strs protos w) (hk : LstB w.heap.size w vk (ints e.kids)) (h256 : e.k < 256) (hn : In64 e.n) (hl : Places f e.kids) :
    Calls Tryd.prog 43 #[.pointer (some ⟨F, 0, none⟩), .agg (exCells e vk)] w fun r w' => r = .returned (.bool (kidsB f e)) ∧ Below w.heap.size w w' := by
  unfold kidsB
  by_cases g1 : e.k = 6
  · rw [if_pos g1]; exact kids_more F f strs protos e vk w hF hk h256 hn hl g1
  rw [if_neg g1]
  by_cases g2 : e.k = 1 ∨ e.k = 2 ∨ e.k = 3 ∨ e.k = 4 ∨ e.k = 5 ∨ e.k = 7 ∨ e.k = 8 ∨ e.k = 9 ∨ e.k = 10
  · rw [if_pos g2]; exact kids_a F f strs protos e vk w hF hk h256 hn hl g2
  rw [if_neg g2]
  by_cases g3 : e.k = 17 ∨ e.k = 19 ∨ e.k = 21
  · rw [if_pos g3]; exact kids_b F f strs protos e vk w hF hk h256 hn hl g3
  rw [if_neg g3]
  by_cases g4 : e.k = 11 ∨ e.k = 14 ∨ e.k = 15 ∨ e.k = 16 ∨ e.k = 20
  · rw [if_pos g4]; exact kids_c F f strs protos e vk w hF hk h256 hn hl g4
  rw [if_neg g4]
  by_cases g5 : e.k = 12 ∨ e.k = 13
  · rw [if_pos g5]; exact kids_d F f strs protos e vk w hF hk h256 hn hl g5
  rw [if_neg g5]
  by_cases g6 : e.k = 18
  · rw [if_pos g6]; exact kids_t F f strs protos e vk w hF hk hl g6
  rw [if_neg g6]
  exact kids_z F f strs protos e vk w hF hk h256 hn hl (by omega)

set_option maxHeartbeats 2000000 in
set_option maxRecDepth 100000 in
theorem expr_fn (F : Nat) (f : Pr) (strs protos : Nat) (e : Ex) (cs : Array Value) (i : Int) (w : World) (hF : FnAt F f strs protos w) (he : ExC w.heap.size w cs e) (hl : Places f e.kids) :
    Calls Tryd.prog 27 #[.pointer (some ⟨F, 0, none⟩), .int .i64 i, .agg cs] w fun r w' => r = .returned (.bool (exprB f strs protos e)) ∧ Below w.heap.size w w' := by
  obtain ⟨vk, rfl, hk, h256, hn, _⟩ := he
  obtain ⟨O, hO⟩ : ∃ O, O = Obj.cells (exCells e vk) 41 (0, 0) := ⟨_, rfl⟩
  have hb := (Below.refl w.heap.size w).alloc (Nat.le_refl _) O
  have hnb := (new_block w O).trans (congrArg some hO)
  have c1 := number_fn F f strs protos e vk _ (hF.below hb) ((hk.below hb).mono hb.size) h256 hn
  have c2 := fun w' (h : Below w.heap.size w w') => kids_fn F f strs protos e vk w' (hF.below h) ((hk.below h).mono h.size) h256 hn hl
  have C2 := Lib.hid c2
  have HB := Lib.hid hb
  have HN := Lib.hid (fun w' (h : Below (w.alloc O).heap.size (w.alloc O) w') => (⟨cell_of (at_below hnb h) 0 _ rfl, cell_of (at_below hnb h) 1 _ rfl, cell_of (at_below hnb h) 2 _ rfl⟩ : w'.cell? ⟨w.heap.size, 0, none⟩ = some (.int .u8 (e.k : Int)) ∧ w'.cell? ⟨w.heap.size, 1, none⟩ = some (.int .i64 e.n) ∧ w'.cell? ⟨w.heap.size, 2, none⟩ = some vk))
  obtain ⟨ak, ck, rfl, _⟩ := hk.slice
  unfold exprB
  clear hk hF c2 hb hnb
  unfold exCells at c1 hO
  subst hO
  generalize numberB f strs protos e = Z1 at *
  cases Z1 with
  | false =>
    rw [Bool.false_and]
    go_enter Tryd.func27, Tryd.ntmps27
    go_wp2_with fail
    refine c1.mono ?_
    rintro r w1 ⟨rfl, b1⟩
    have B1 := Lib.hid (HB.out.trans (b1.mono HB.out.size))
    clear b1 c1
    go_wp2_with fail
    go_ret
    exact ⟨rfl, B1.out⟩
  | true =>
    rw [Bool.true_and]
    go_enter Tryd.func27, Tryd.ntmps27
    go_wp2_with fail
    refine c1.mono ?_
    rintro r w1 ⟨rfl, b1⟩
    obtain ⟨d0, d1, d2⟩ := HN.out w1 b1
    have B1 := Lib.hid (HB.out.trans (b1.mono HB.out.size))
    have c := C2.out w1 B1.out
    unfold exCells at c
    clear b1 c1 C2 HN
    go_wp2_with fail
    refine c.mono ?_
    rintro r w2 ⟨rfl, b2⟩
    have B2 := Lib.hid (B1.out.trans (b2.mono B1.out.size))
    clear b2 c
    go_wp2_with fail
    go_ret
    exact ⟨rfl, B2.out⟩

set_option maxHeartbeats 2000000 in
set_option maxRecDepth 100000 in
theorem starts_fn (F : Nat) (f : Pr) (strs protos : Nat) (w : World) (hF : FnAt F f strs protos w) :
    Calls Tryd.prog 24 #[.pointer (some ⟨F, 0, none⟩)] w fun e w' => e = .returned (.bool (startsB f)) ∧ Below w.heap.size w w' := by
  obtain ⟨vb, vu, vs, ve, hh, hvb, hvu, hvs, hve, _, _, hint, _⟩ := hF
  obtain ⟨a5, c5, rfl, hl5⟩ := hvs.slice
  have f5 := cell_of hh 5 _ rfl
  have f7 := cell_of hh 7 _ rfl
  have hFw := lt_of_get hh
  unfold Len at hl5
  unfold In64 at hint
  obtain ⟨hi1, hi2⟩ := hint
  unfold startsB
  clear hh hvb hvu hvs hve
  obtain ⟨n, hn⟩ : ∃ n, f.stmts.length = n := ⟨_, rfl⟩
  rw [hn] at f5 hl5 ⊢
  generalize f.start = x at *
  by_cases h0 : n = 0
  · subst h0
    rw [if_pos rfl]
    go_enter Tryd.func24, Tryd.ntmps24
    go_wp2_with fail
    go_ret
    exact ⟨ret_bool (show (x == -1) = decide (x = -1) from rfl), Below.refl _ _⟩
  rw [if_neg h0]
  have h0' : ¬ (n : Int) = 0 := by omega
  by_cases h1 : x < 0
  · rw [decide_eq_false (by omega), Bool.false_and]
    have hd : decide ((0 : Int) ≤ x) = false := decide_eq_false (by omega)
    go_enter Tryd.func24, Tryd.ntmps24
    go_wp2_with fail
    go_quiet (fail)
    go_wp2_with fail
    go_ret
    exact ⟨rfl, below_drewN (Below.refl _ _) _⟩
  · have h1' : 0 ≤ x := by omega
    rw [decide_eq_true h1', Bool.true_and]
    go_enter Tryd.func24, Tryd.ntmps24
    go_wp2_with fail
    go_quiet (fail)
    go_wp2_with fail
    go_ret
    exact ⟨rfl, below_drewN (Below.refl _ _) _⟩

end Go.Proofs.YtnnjkejejlhkdaaDoor.Rt
