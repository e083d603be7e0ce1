/-
  Layer 12: the developers' pool: the whole copy (written by takes.py out of pl-copy.src).
-/
import Derived.Test.YtpfhaafaoedgpaaPlClone
namespace Go.Proofs.Ytpfhaafaoedgpaa.Pl
open Go Go.RowKit

theorem row_zero {w : World} {B : Nat} {v : Value} {h : List Int} (hr : w.ownsRow B 3 1 v h.length (ints h)) : Row w v h := ownsRow_base hr (Nat.zero_le _)
section
variable {w w' : World} {b : Nat} {m : Int} {l : Ob} {vs vf : Value} {fr : List Int} {F : List Nat}
set_option maxHeartbeats 4000000 in
theorem copy_fn (h : PAt w b m l vs vf fr) : Calls Try.prog 20 #[.pointer (some ⟨b, 0, none⟩)] w (CopySays PA m l w) := by
  have hlen := h.len
  have hcnt := h.cnt
  have x0 := cell_of h.cells 0 _ rfl
  have x1 := cell_of h.cells 1 _ rfl
  have x2 := cell_of h.cells 2 _ rfl
  have x3 := cell_of h.cells 3 _ rfl
  have x4 := cell_of h.cells 4 _ rfl
  have HH := Lib.hid h
  have cs := fun w1 (hb : Below w.heap.size w w1) => clone_ints vs (szsL l) w1 (h.below hb).sizes (by rw [szs_len]; omega)
  have cf := fun w1 (hb : Below w.heap.size w w1) => clone_nums vf fr w1 (h.below hb).free (by omega)
  have CS := Lib.hid cs
  have CF := Lib.hid cf
  clear h cs cf
  obtain ⟨U, hU⟩ : ∃ U, U = usedL l := ⟨_, rfl⟩
  rw [← hU] at x2
  have HU := Lib.hid hU
  clear hU
  go_enter Try.func20, Try.ntmps20
  go_wp2_with fail
  refine (made_fn b w x0).mono ?_
  rintro e w1 ⟨rfl, hw⟩
  subst hw
  go_upto_region 3 with fail
  have hS0 : w1.drew.cell? ⟨b, 1, none⟩ = some (.int .i64 m) ∧ w1.drew.cell? ⟨b, 2, none⟩ = some (.int .i64 U) ∧ w1.drew.cell? ⟨b, 3, none⟩ = some vs ∧ w1.drew.cell? ⟨b, 4, none⟩ = some vf := ⟨x1, x2, x3, x4⟩
  have hbl := lt_of_get HH.out.cells
  have HS := Lib.hid (show ∀ w', Below w1.heap.size w1 w' → w'.cell? ⟨b, 1, none⟩ = some (.int .i64 m) ∧ w'.cell? ⟨b, 2, none⟩ = some (.int .i64 U) ∧ w'.cell? ⟨b, 3, none⟩ = some vs ∧ w'.cell? ⟨b, 4, none⟩ = some vf from fun w' hb => ⟨(hb.cell (p := ⟨b, 1, none⟩) hbl).trans x1, (hb.cell (p := ⟨b, 2, none⟩) hbl).trans x2, (hb.cell (p := ⟨b, 3, none⟩) hbl).trans x3, (hb.cell (p := ⟨b, 4, none⟩) hbl).trans x4⟩)
  have HB0 := Lib.hid (drew_below w1)
  refine wp_region_held_drew (S := fun w' => w'.cell? ⟨b, 1, none⟩ = some (.int .i64 m) ∧ w'.cell? ⟨b, 2, none⟩ = some (.int .i64 U) ∧ w'.cell? ⟨b, 3, none⟩ = some vs ∧ w'.cell? ⟨b, 4, none⟩ = some vf) mixed hS0 (fun hS => ?_)
  refine wpAnyH_take (i := 0) (v := ?va0) rfl (by kernel_rfl) (by kernel_rfl) (by kernel_rfl) (fun _ _ _ h => h) (.inl ⟨by rfl, ?ha0⟩) hS ?ra0
  case ha0 =>
    intro w' hs
    (try dsimp only at hs)
    go_split_ands
    go_simp
    try with_reducible rfl
  simp only [List.getElem_toArray, List.getElem_cons_zero, Act.put, List.setIfInBounds_toArray, List.set_cons_zero, List.set_cons_succ]
  refine wpAnyH_take (i := 1) (v := ?va1) rfl (by kernel_rfl) (by kernel_rfl) (by kernel_rfl) (fun _ _ _ h => h) (.inl ⟨by rfl, ?ha1⟩) hS ?ra1
  case ha1 =>
    intro w' hs
    (try dsimp only at hs)
    go_split_ands
    go_simp
    try with_reducible rfl
  simp only [List.getElem_toArray, List.getElem_cons_succ, List.getElem_cons_zero, Act.put, List.setIfInBounds_toArray, List.set_cons_zero, List.set_cons_succ]
  refine wpAnyH_take (i := 2) (v := ?va2) rfl (by kernel_rfl) (by kernel_rfl) (by kernel_rfl) (fun _ _ _ h => h) (.inl ⟨by rfl, ?ha2⟩) hS ?ra2
  case ha2 =>
    intro w' hs
    (try dsimp only at hs)
    go_split_ands
    go_simp
    try with_reducible rfl
  simp only [List.getElem_toArray, List.getElem_cons_succ, List.getElem_cons_zero, Act.put, List.setIfInBounds_toArray, List.set_cons_zero, List.set_cons_succ]
  refine wpAnyH_take (i := 3) (v := ?va3) rfl (by kernel_rfl) (by kernel_rfl) (by kernel_rfl) (fun _ _ _ h => h) (.inl ⟨by rfl, ?ha3⟩) hS ?ra3
  case ha3 =>
    intro w' hs
    (try dsimp only at hs)
    go_split_ands
    go_simp
    try with_reducible rfl
  simp only [List.getElem_toArray, List.getElem_cons_succ, List.getElem_cons_zero, Act.put, List.setIfInBounds_toArray, List.set_cons_zero, List.set_cons_succ]
  refine wpAnyH_take (i := 4) (v := ?va4) rfl (by kernel_rfl) (by kernel_rfl) (by kernel_rfl) (fun _ _ _ h => h) (.inl ⟨by rfl, ?ha4⟩) hS ?ra4
  case ha4 =>
    intro w' hs
    (try dsimp only at hs)
    go_split_ands
    go_simp
    try with_reducible rfl
  simp only [List.getElem_toArray, List.getElem_cons_succ, List.getElem_cons_zero, Act.put, List.setIfInBounds_toArray, List.set_cons_zero, List.set_cons_succ]
  refine wpAnyH_take (i := 5) (v := ?va5) rfl (by kernel_rfl) (by kernel_rfl) (by kernel_rfl) (fun _ _ _ h => h) (.inl ⟨by rfl, ?ha5⟩) hS ?ra5
  case ha5 =>
    intro w' hs
    (try dsimp only at hs)
    go_split_ands
    go_simp
    try with_reducible rfl
  simp only [List.getElem_toArray, List.getElem_cons_succ, List.getElem_cons_zero, Act.put, List.setIfInBounds_toArray, List.set_cons_zero, List.set_cons_succ]
  refine wpAnyH_take (i := 6) (v := ?va6) rfl (by kernel_rfl) (by kernel_rfl) (by kernel_rfl) (fun _ _ _ h => h) (.inl ⟨by rfl, ?ha6⟩) hS ?ra6
  case ha6 =>
    intro w' hs
    (try dsimp only at hs)
    go_split_ands
    go_simp
    try with_reducible rfl
  simp only [List.getElem_toArray, List.getElem_cons_succ, List.getElem_cons_zero, Act.put, List.setIfInBounds_toArray, List.set_cons_zero, List.set_cons_succ]
  refine wpAnyH_take (i := 7) (v := ?va7) rfl (by kernel_rfl) (by kernel_rfl) (by kernel_rfl) (fun _ _ _ h => h) (.inl ⟨by rfl, ?ha7⟩) hS ?ra7
  case ha7 =>
    intro w' hs
    (try dsimp only at hs)
    go_split_ands
    go_simp
    try with_reducible rfl
  simp only [List.getElem_toArray, List.getElem_cons_succ, List.getElem_cons_zero, Act.put, List.setIfInBounds_toArray, List.set_cons_zero, List.set_cons_succ]
  refine wpAnyH_take (i := 8) (v := ?va8) rfl (by kernel_rfl) (by kernel_rfl) (by kernel_rfl) (fun _ _ _ h => h) (.inl ⟨by rfl, ?ha8⟩) hS ?ra8
  case ha8 =>
    intro w' hs
    (try dsimp only at hs)
    go_split_ands
    go_simp
    try with_reducible rfl
  simp only [List.getElem_toArray, List.getElem_cons_succ, List.getElem_cons_zero, Act.put, List.setIfInBounds_toArray, List.set_cons_zero, List.set_cons_succ]
  refine wpAnyH_take (i := 9) (v := ?va9) rfl (by kernel_rfl) (by kernel_rfl) (by kernel_rfl) (fun _ _ _ h => h) (.inl ⟨by rfl, ?ha9⟩) hS ?ra9
  case ha9 =>
    intro w' hs
    (try dsimp only at hs)
    go_split_ands
    go_simp
    try with_reducible rfl
  simp only [List.getElem_toArray, List.getElem_cons_succ, List.getElem_cons_zero, Act.put, List.setIfInBounds_toArray, List.set_cons_zero, List.set_cons_succ]
  refine wpAnyH_take (i := 10) (v := ?va10) rfl (by kernel_rfl) (by kernel_rfl) (by kernel_rfl) (fun _ _ _ h => h) (.inl ⟨by rfl, ?ha10⟩) hS ?ra10
  case ha10 =>
    intro w' hs
    (try dsimp only at hs)
    go_split_ands
    go_simp
    try with_reducible rfl
  simp only [List.getElem_toArray, List.getElem_cons_succ, List.getElem_cons_zero, Act.put, List.setIfInBounds_toArray, List.set_cons_zero, List.set_cons_succ]
  refine wpAnyH_take (i := 11) (v := ?va11) rfl (by kernel_rfl) (by kernel_rfl) (by kernel_rfl) (fun _ _ _ h => h) (.inl ⟨by rfl, ?ha11⟩) hS ?ra11
  case ha11 =>
    intro w' hs
    (try dsimp only at hs)
    go_split_ands
    go_simp
    try with_reducible rfl
  simp only [List.getElem_toArray, List.getElem_cons_succ, List.getElem_cons_zero, Act.put, List.setIfInBounds_toArray, List.set_cons_zero, List.set_cons_succ]
  refine wpAnyH_take (i := 13) (v := ?va13) rfl (by kernel_rfl) (by kernel_rfl) (by kernel_rfl) (fun _ _ _ h => h) (.inl ⟨by rfl, ?ha13⟩) hS ?ra13
  case ha13 =>
    intro w' hs
    (try dsimp only at hs)
    go_split_ands
    go_simp
    try with_reducible rfl
  simp only [List.getElem_toArray, List.getElem_cons_succ, List.getElem_cons_zero, Act.put, List.setIfInBounds_toArray, List.set_cons_zero, List.set_cons_succ]
  refine wpAnyH_take (i := 14) (v := ?va14) rfl (by kernel_rfl) (by kernel_rfl) (by kernel_rfl) (fun _ _ _ h => h) (.inl ⟨by rfl, ?ha14⟩) hS ?ra14
  case ha14 =>
    intro w' hs
    (try dsimp only at hs)
    go_split_ands
    go_simp
    try with_reducible rfl
  simp only [List.getElem_toArray, List.getElem_cons_succ, List.getElem_cons_zero, Act.put, List.setIfInBounds_toArray, List.set_cons_zero, List.set_cons_succ]
  refine wpAnyH_take (i := 15) (v := ?va15) rfl (by kernel_rfl) (by kernel_rfl) (by kernel_rfl) (fun _ _ _ h => h) (.inl ⟨by rfl, ?ha15⟩) hS ?ra15
  case ha15 =>
    intro w' hs
    (try dsimp only at hs)
    go_split_ands
    go_simp
    try with_reducible rfl
  simp only [List.getElem_toArray, List.getElem_cons_succ, List.getElem_cons_zero, Act.put, List.setIfInBounds_toArray, List.set_cons_zero, List.set_cons_succ]
  refine wpAnyH_take (i := 16) (v := ?va16) rfl (by kernel_rfl) (by kernel_rfl) (by kernel_rfl) (fun _ _ _ h => h) (.inl ⟨by rfl, ?ha16⟩) hS ?ra16
  case ha16 =>
    intro w' hs
    (try dsimp only at hs)
    go_split_ands
    go_simp
    try with_reducible rfl
  simp only [List.getElem_toArray, List.getElem_cons_succ, List.getElem_cons_zero, Act.put, List.setIfInBounds_toArray, List.set_cons_zero, List.set_cons_succ]
  clear hS0 x0 x1 x2 x3 x4
  refine wpAnyH_ready (rs := [12]) (by kernel_rfl) (by simp) (AllReadyH.cons rfl (fun K hK => ?_) AllReadyH.nil)
  go_simp
  refine (CS.out _ HB0.out).mono ?_
  rintro e w2 ⟨v1, rfl, r1, b1⟩
  obtain ⟨ao1, m1, c1, rfl⟩ := own_some r1
  have hb2 := HB0.out.trans (b1.mono HB0.out.size)
  have HB2 := Lib.hid hb2
  have HR1 := Lib.hid r1
  have HB1 := Lib.hid b1
  refine hK.out _ _ (HS.out w2 hb2) (fun hS => ?_)
  clear hK r1 b1 hb2
  refine wpAnyH_ready (rs := [17]) (by kernel_rfl) (by simp) (AllReadyH.cons rfl (fun K hK => ?_) AllReadyH.nil)
  go_simp
  refine (CF.out _ HB2.out).mono ?_
  rintro e w3 ⟨v2, rfl, r2, b2⟩
  obtain ⟨ao2, m2, c2, rfl⟩ := own_some r2
  have hb3 := HB2.out.trans (b2.mono HB2.out.size)
  have HB3 := Lib.hid hb3
  have HR2 := Lib.hid r2
  have HB2' := Lib.hid b2
  refine hK.out _ _ (HS.out w3 hb3) (fun hS => ?_)
  clear hK r2 b2 hb3
  refine wpAnyH_take (i := 18) (v := ?vb18) rfl (by kernel_rfl) (by kernel_rfl) (by kernel_rfl) (fun _ _ _ h => h) (.inl ⟨by rfl, ?hb18⟩) hS ?rb18
  case hb18 =>
    intro w' hs
    (try dsimp only at hs)
    go_split_ands
    go_simp
    try with_reducible rfl
  simp only [List.getElem_toArray, List.getElem_cons_succ, List.getElem_cons_zero, Act.put, List.setIfInBounds_toArray, List.set_cons_zero, List.set_cons_succ]
  refine wpAnyH_ready (rs := [19]) (by kernel_rfl) (by simp) (AllReadyH.cons rfl (fun K hK => ?_) AllReadyH.nil)
  go_simp
  have hb4 : Below w1.heap.size w1 (w3.alloc (.cells #[.pointer none, .int .i64 m, .int .i64 U, .slice ao1 m1 c1, .slice ao2 m2 c2] 52)) := HB3.out.alloc HB3.out.size _
  have hblk := new_block w3 (.cells #[.pointer none, .int .i64 m, .int .i64 U, .slice ao1 m1 c1, .slice ao2 m2 c2] 52)
  have HB4 := Lib.hid hb4
  have HN := Lib.hid hblk
  refine hK.out _ _ (HS.out _ hb4) (fun hS => ?_)
  clear hK hb4 hblk
  refine wpAnyH_take (i := 20) (v := ?vc20) rfl (by kernel_rfl) (by kernel_rfl) (by kernel_rfl) (fun _ _ _ h => h) (.inl ⟨by rfl, ?hc20⟩) hS ?rc20
  case hc20 =>
    intro w' hs
    (try dsimp only at hs)
    go_split_ands
    go_simp
    try with_reducible rfl
  simp only [List.getElem_toArray, List.getElem_cons_succ, List.getElem_cons_zero, Act.put, List.setIfInBounds_toArray, List.set_cons_zero, List.set_cons_succ]
  refine wpAnyH_done (by kernel_rfl) ?_ _
  go_wp2_with fail
  go_ret
  have hb5 : Below w3.heap.size w3 (w3.alloc (.cells #[.pointer (some ⟨w3.heap.size, 0, none⟩), .int .i64 m, .int .i64 U, .slice ao1 m1 c1, .slice ao2 m2 c2] 52)) := (Below.refl _ _).alloc (Nat.le_refl _) _
  have hr1 := row_below (row_below (row_zero HR1.out) HB2'.out) hb5
  have hr2 := row_below (row_zero HR2.out) hb5
  have hap : (Value.slice ao1 m1 c1).ownBlock = none ∨ (Value.slice ao1 m1 c1).ownBlock ≠ (Value.slice ao2 m2 c2).ownBlock := by
    cases hv : (Value.slice ao1 m1 c1).ownBlock with
    | none => exact .inl rfl
    | some j =>
      refine .inr (fun e => ?_)
      have h1 := (HR1.out.lt j hv).2
      have h2 := (HR2.out.lt j e.symm).1
      omega
  have hP : PAt (w3.alloc (.cells #[.pointer (some ⟨w3.heap.size, 0, none⟩), .int .i64 m, .int .i64 U, .slice ao1 m1 c1, .slice ao2 m2 c2] 52)) w3.heap.size m l (.slice ao1 m1 c1) (.slice ao2 m2 c2) fr :=
    ⟨by rw [← HU.out]; exact new_block w3 _, by unfold Row; exact hr1, hr2, hap, HH.out.heap, HH.out.perm, HH.out.ok, HH.out.len⟩
  refine ⟨w3.heap.size, _, rfl, hP.pa, fun j hj => ?_, HB3.out.alloc HB3.out.size _⟩
  rcases List.mem_cons.1 hj with e | hj
  · rw [e]; exact HB3.out.size
  · rcases List.mem_append.1 hj with hj | hj
    · exact (HR1.out.lt j (own_mem.1 hj)).1
    · exact Nat.le_trans HB2.out.size (HR2.out.lt j (own_mem.1 hj)).1
end
end Go.Proofs.Ytpfhaafaoedgpaa.Pl
