/-
  Layer 12: the least number taken out of the heap of free ones.
-/
import Derived.Test.YtpfhaafaoedgpaaPlPush
namespace Go.Proofs.Ytpfhaafaoedgpaa.Pl
open Go Go.RowKit

theorem dn_cases (h : List Int) (k : Nat) : (dnN h k 2 = k ∧ ∀ i, 0 < i → i < h.length → (i - 1) / 2 = k → gt h k ≤ gt h i) ∨
    (k < dnN h k 2 ∧ dnN h k 2 < h.length ∧ (dnN h k 2 - 1) / 2 = k ∧ gt h (dnN h k 2) < gt h k ∧ ∀ i, 0 < i → i < h.length → (i - 1) / 2 = k → gt h (dnN h k 2) ≤ gt h i) := by
  have e1 : dnN h k 1 = if 2 * k + 1 + 0 < h.length ∧ gt h (2 * k + 1 + 0) < gt h k then 2 * k + 1 + 0 else k := rfl
  have e2 : dnN h k 2 = if 2 * k + 1 + 1 < h.length ∧ gt h (2 * k + 1 + 1) < gt h (dnN h k 1) then 2 * k + 1 + 1 else dnN h k 1 := rfl
  have hi : ∀ i, 0 < i → (i - 1) / 2 = k → i = 2 * k + 1 + 0 ∨ i = 2 * k + 1 + 1 := fun i h0 h1 => by omega
  by_cases h1 : 2 * k + 1 + 0 < h.length ∧ gt h (2 * k + 1 + 0) < gt h k
  · rw [if_pos h1] at e1
    rw [e1] at e2
    by_cases h2 : 2 * k + 1 + 1 < h.length ∧ gt h (2 * k + 1 + 1) < gt h (2 * k + 1 + 0)
    · rw [if_pos h2] at e2
      rw [e2]
      refine .inr ⟨by omega, h2.1, by omega, by omega, fun i i0 il ip => ?_⟩
      rcases hi i i0 ip with e | e <;> subst e <;> omega
    · rw [if_neg h2] at e2
      rw [e2]
      refine .inr ⟨by omega, h1.1, by omega, h1.2, fun i i0 il ip => ?_⟩
      rcases hi i i0 ip with e | e <;> subst e
      · omega
      · have : ¬ gt h (2 * k + 1 + 1) < gt h (2 * k + 1 + 0) := fun x => h2 ⟨il, x⟩
        omega
  · rw [if_neg h1] at e1
    rw [e1] at e2
    have g0 : ∀ i, i = 2 * k + 1 + 0 → i < h.length → gt h k ≤ gt h i := fun i e il => by
      subst e
      have : ¬ gt h (2 * k + 1 + 0) < gt h k := fun x => h1 ⟨il, x⟩
      omega
    by_cases h2 : 2 * k + 1 + 1 < h.length ∧ gt h (2 * k + 1 + 1) < gt h k
    · rw [if_pos h2] at e2
      rw [e2]
      refine .inr ⟨by omega, h2.1, by omega, h2.2, fun i i0 il ip => ?_⟩
      rcases hi i i0 ip with e | e
      · have := g0 i e il; omega
      · subst e; omega
    · rw [if_neg h2] at e2
      rw [e2]
      refine .inl ⟨rfl, fun i i0 il ip => ?_⟩
      rcases hi i i0 ip with e | e
      · exact g0 i e il
      · subst e
        have : ¬ gt h (2 * k + 1 + 1) < gt h k := fun x => h2 ⟨il, x⟩
        omega
theorem down_sifts (n : Nat) (l : List Int) : Sifts n (fun h k => (DownAt h k ∧ h.Perm l) ∧ k ≤ n) (fun h k => dnN h k 2) (fun k => n - k) := by
  refine ⟨fun h k hn hI hne => ?_⟩
  obtain ⟨⟨hd, hp⟩, hk⟩ := hI
  rcases dn_cases h k with ⟨h1, _⟩ | ⟨h1, h2, h3, h4, h5⟩
  · exact absurd h1 hne
  · show _ ∧ dnN h k 2 < n ∧ ((DownAt (swapL h k (dnN h k 2)) (dnN h k 2) ∧ _) ∧ dnN h k 2 ≤ n) ∧ n - dnN h k 2 < n - k
    generalize dnN h k 2 = c at *
    have hkn : k < h.length := by omega
    exact ⟨by omega, by omega, ⟨⟨down_step hd hkn (by omega) h2 h3 h4 h5, (swap_perm h k c hkn h2).trans hp⟩, by omega⟩, by omega⟩
theorem down_stop {h : List Int} {k : Nat} (hd : DownAt h k) (he : dnN h k 2 = k) : Heap h := by
  rcases dn_cases h k with ⟨_, h2⟩ | ⟨h1, _⟩
  · exact down_end hd h2
  · omega
theorem slice_to (g n cap k : Nat) (hk : k ≤ n) (hc : n ≤ cap) (w' : World) :
    (Instr.slice 50 (.slice (some ⟨g, 0, none⟩) n cap) none (some (.int .i64 (k : Int))) none).run Try.prog w' = .ok (.slice (some ⟨g, 0, none⟩) k cap) w' := by
  have ht : Try.prog.underlying 50 = some (.slice (Try.prog.elem 50)) := by kernel_rfl
  have hrun := run_slice_h (P := Try.prog) w' 50 (some ⟨g, 0, none⟩) n cap ht .i64 (k : Int) (by omega) (by omega)
  have he : Try.prog.elem 50 = 3 := by kernel_rfl
  rw [he, sizeInt] at hrun
  rw [hrun]
  simp [Result.andThen, sliced, Addr.add]
theorem row_take {w : World} {g n cap : Nat} {h : List Int} (hr : Row w (.slice (some ⟨g, 0, none⟩) n cap) h) (k : Nat) (hk : k ≤ h.length) : Row w (.slice (some ⟨g, 0, none⟩) k cap) (h.take k) := by
  have hl : (h.take k).length = k := by rw [List.length_take]; omega
  rcases hr.2 with ⟨e, _⟩ | ⟨g', cap', cur, e, hb, hg, hc, hm, hs, ht⟩
  · cases e
  · injection e with e1 e2 e3
    injection e1 with e1
    injection e1 with e1
    subst e1
    subst e2
    subst e3
    refine ⟨by rw [ints_len, hl]; omega, .inr ⟨g, cap, cur, by rw [hl], hb, hg, by rw [hl]; omega, hm, hs, ?_⟩⟩
    rw [hl, Nat.mul_one]
    rw [Nat.mul_one] at ht
    unfold ints at ht ⊢
    rw [List.map_take, ← ht, List.take_take, Nat.min_eq_left hk]
def PopSays (b : Nat) (c0 c1 c2 c3 vf : Value) (fr : List Int) (w : World) (e : Ending) (w' : World) : Prop :=
  e = .returned (.int .i64 (gt fr 0)) ∧ ∃ vf' fr', w'.heap[b]? = some (.cells #[c0, c1, c2, c3, vf'] 52 (0, 0)) ∧ Row w' vf' fr' ∧ Heap fr' ∧ fr.Perm (gt fr 0 :: fr') ∧ vf'.ownBlock = vf.ownBlock ∧ Turns (b :: own vf) w w'

set_option maxHeartbeats 2000000 in
set_option maxRecDepth 100000 in
theorem pop_fn (b : Nat) (c0 c1 c2 c3 vf : Value) (fr : List Int) (w : World) (hb : w.heap[b]? = some (.cells #[c0, c1, c2, c3, vf] 52 (0, 0))) (hr : Row w vf fr) (hh : Heap fr) (h63 : fr.length ≤ 65536) (hpos : 0 < fr.length) :
    Calls Try.prog 28 #[.pointer (some ⟨b, 4, none⟩)] w (PopSays b c0 c1 c2 c3 vf fr w) := by
  obtain ⟨n, hn⟩ : ∃ n, n + 1 = fr.length := ⟨fr.length - 1, by omega⟩
  have hne := row_ne hr hb
  obtain ⟨g, cap, rfl, hcl, hcm, hg, y0, _⟩ := row_item hr 0 hpos
  obtain ⟨_, _, e1, _, _, _, yn, _⟩ := row_item hr n (by omega)
  injection e1 with e11 e12 e13
  injection e11 with e11
  injection e11 with e11
  subst e11
  subst e13
  have HN := Lib.hid hn
  rw [← hn] at h63 hcl hr hb hne hpos ⊢
  have x4 := cell_of hb 4 _ rfl
  have HB := Lib.hid hb
  have HNE := Lib.hid hne
  have HR := Lib.hid hr
  have HH := Lib.hid hh
  have HBL := Lib.hid (lt_of_get hb)
  clear hne hh hn e12 hpos
  have HP := Lib.hid (pop_perm (h := fr) (by have := HN.out; omega))
  have HD := Lib.hid (down_new HH.out (gt fr (fr.length - 1)))
  rw [show fr.length - 1 = n by have := HN.out; omega] at HP HD
  obtain ⟨X0, hX0⟩ : ∃ X, gt fr 0 = X := ⟨_, rfl⟩
  obtain ⟨Xn, hXn⟩ : ∃ X, gt fr n = X := ⟨_, rfl⟩
  rw [hX0] at y0 HP
  rw [hXn] at yn HP HD
  have e0 := IntWalk.i64_in (n : Int) (by omega)
  have hgb : g ≠ b := fun e => HNE.out (by rw [← e]; rfl)
  have hT1 : Turns (b :: own (.slice (some ⟨g, 0, none⟩) (n + 1) cap)) w (w.alloc (.cells #[.slice (some ⟨g, 0, none⟩) (n + 1) cap] 50)).drew := (turns_alloc (Turns.refl _ _)).trans (Turns.of_below (F := []) (drew_below _)) (fun _ h => absurd h (List.not_mem_nil))
  have hb1 : (w.alloc (.cells #[.slice (some ⟨g, 0, none⟩) (n + 1) cap] 50)).drew.heap[b]? = some (.cells #[c0, c1, c2, c3, .slice (some ⟨g, 0, none⟩) (n + 1) cap] 52 (0, 0)) := (heap_alloc_old _ _ HBL.out).trans hb
  have hx1 : (w.alloc (.cells #[.slice (some ⟨g, 0, none⟩) (n + 1) cap] 50)).drew.heap[w.heap.size]? = some (.cells #[.slice (some ⟨g, 0, none⟩) (n + 1) cap] 50 (0, 0)) := new_block _ _
  have hr1 := row_turns (h := fr) (v := .slice (some ⟨g, 0, none⟩) (n + 1) cap) (G := []) hr ((turns_alloc (o := .cells #[.slice (some ⟨g, 0, none⟩) (n + 1) cap] 50) (Turns.refl _ _)).trans (Turns.of_below (F := []) (drew_below _)) (fun _ h => absurd h (List.not_mem_nil))) (fun _ _ h => absurd h (List.not_mem_nil))
  have HT1 := Lib.hid hT1
  have HB1 := Lib.hid hb1
  have HX1 := Lib.hid hx1
  have HR1 := Lib.hid hr1
  clear hT1 hb1 hx1 hr1 hb hr
  go_enter Try.func28, Try.ntmps28
  go_upto_region 1 with fail
  go_region_held3 (fun w' => w'.cell? ⟨b, 4, none⟩ = some (.slice (some ⟨g, 0, none⟩) (n + 1) cap) ∧ w'.cell? ⟨g, 0, none⟩ = some (.int .i64 X0) ∧ w'.cell? ⟨g, n, none⟩ = some (.int .i64 Xn))
    (go_keep)
    (fail)
  generalize (w.alloc (.cells #[.slice (some ⟨g, 0, none⟩) (n + 1) cap] 50)).drew = w1 at *
  have hbl := lt_of_get HB1.out
  have q0 := cell_of HX1.out 0 _ rfl
  have z0 := free_of HX1.out 0
  have y4 := cell_of HB1.out 4 _ rfl
  have z4 := free_of HB1.out 4
  have hgx : g ≠ w.heap.size := by omega
  have hbx : b ≠ w.heap.size := by have := HBL.out; omega
  obtain ⟨_, _, e1, _, _, hg1, u0, v0⟩ := row_item HR1.out 0 (by have := HN.out; omega)
  injection e1 with e11 e12 e13
  injection e11 with e11
  injection e11 with e11
  subst e11
  subst e13
  clear e12
  obtain ⟨_, _, e1, _, _, _, un, _⟩ := row_item HR1.out n (by have := HN.out; omega)
  injection e1 with e11 e12 e13
  injection e11 with e11
  injection e11 with e11
  subst e11
  subst e13
  rw [hX0] at u0
  rw [hXn] at un
  have HX0 := Lib.hid hX0
  have HXn := Lib.hid hXn
  clear hX0 hXn e12 x4 y0 yn
  have l0 : (0 : Int) < (n : Int) + 1 := by omega
  have l1 : (n : Int) < (n : Int) + 1 := by omega
  have hAft : (w1.setCell ⟨g, 0, none⟩ (.int .i64 Xn)).drew.cell? ⟨g, n, none⟩ = some (.int .i64 Xn) := by
    have hrs := row_below (row_set HR1.out 0 Xn) (drew_below _)
    obtain ⟨_, _, e1, _, _, _, un2, _⟩ := row_item hrs n (by rw [List.length_set]; have := HN.out; omega)
    injection e1 with e11 e12 e13
    injection e11 with e11
    injection e11 with e11
    subst e11
    rw [un2, gt_set _ _ _ _ (by have := HN.out; omega)]
    by_cases h0 : n = 0
    · rw [if_pos h0]
    · rw [if_neg h0, HXn.out]
  go_upto_region 3 with fail
  go_region_held3 (fun w' => w'.cell? ⟨w.heap.size, 0, none⟩ = some (.slice (some ⟨g, 0, none⟩) (n + 1) cap) ∧ w'.cell? ⟨g, n, none⟩ = some (.int .i64 Xn))
    (first | go_keep | exact ⟨by go_keep, hAft⟩)
    (fail)
  have hr2 := row_take (row_below (row_set HR1.out 0 Xn) (drew_below _)) n (by rw [List.length_set]; have := HN.out; omega)
  have hsl := slice_to g (n + 1) cap n (by omega) hcl
  have hT2 : Turns [g] w1 (w1.setCell ⟨g, 0, none⟩ (.int .i64 Xn)).drew := (turns_set (Turns.refl _ _) (List.mem_singleton.2 rfl)).trans (Turns.of_below (F := []) (drew_below _)) (fun _ h => absurd h (List.not_mem_nil))
  have hb2 := (hT2.block b hbl (fun h => hgb (List.mem_singleton.1 h).symm)).trans HB1.out
  have hx2 := (hT2.block w.heap.size (lt_of_get HX1.out) (fun h => hgx (List.mem_singleton.1 h).symm)).trans HX1.out
  have HT2 := Lib.hid hT2
  have HB2 := Lib.hid hb2
  have HX2 := Lib.hid hx2
  have HR2 := Lib.hid hr2
  clear hT2 hb2 hx2 hr2 hAft u0 v0 un q0 z0 y4 z4
  generalize (w1.setCell ⟨g, 0, none⟩ (.int .i64 Xn)).drew = w2 at *
  have q0 := cell_of HX2.out 0 _ rfl
  have z0 := free_of HX2.out 0
  have y4 := cell_of HB2.out 4 _ rfl
  have z4 := free_of HB2.out 4
  go_upto_region 6 with fail
  have hb3 : ((w2.setCell ⟨w.heap.size, 0, none⟩ (.slice (some ⟨g, 0, none⟩) n cap)).setCell ⟨b, 4, none⟩ (.slice (some ⟨g, 0, none⟩) n cap)).heap[b]? = some (.cells #[c0, c1, c2, c3, .slice (some ⟨g, 0, none⟩) n cap] 52 (0, 0)) :=
    setCell_at (cs := #[c0, c1, c2, c3, .slice (some ⟨g, 0, none⟩) (n + 1) cap]) (by rw [heap_setCell_other _ _ _ _ (show b ≠ w.heap.size from hbx)]; exact HB2.out)
  have hx3 : ((w2.setCell ⟨w.heap.size, 0, none⟩ (.slice (some ⟨g, 0, none⟩) n cap)).setCell ⟨b, 4, none⟩ (.slice (some ⟨g, 0, none⟩) n cap)).heap[w.heap.size]? = some (.cells #[.slice (some ⟨g, 0, none⟩) n cap] 50 (0, 0)) := by
    rw [heap_setCell_other _ _ _ _ (show w.heap.size ≠ b from hbx.symm)]
    exact setCell_at (cs := #[.slice (some ⟨g, 0, none⟩) (n + 1) cap]) HX2.out
  have hT3 : Turns [b, w.heap.size] w2 ((w2.setCell ⟨w.heap.size, 0, none⟩ (.slice (some ⟨g, 0, none⟩) n cap)).setCell ⟨b, 4, none⟩ (.slice (some ⟨g, 0, none⟩) n cap)) := turns_set (turns_set (Turns.refl _ _) (List.mem_cons_of_mem _ (List.mem_singleton.2 rfl))) (List.mem_cons_self ..)
  have hr3 := row_turns HR2.out hT3 (fun k hk hm => by
    injection hk with hk
    dsimp only at hk
    subst hk
    rcases List.mem_cons.1 hm with h | h
    · exact hgb h
    · exact hgx (List.mem_singleton.1 h))
  have HT3 := Lib.hid hT3
  have HB3 := Lib.hid hb3
  have HX3 := Lib.hid hx3
  have HR3 := Lib.hid hr3
  clear hT3 hb3 hx3 hr3 q0 z0 y4 z4 hsl
  generalize ((w2.setCell ⟨w.heap.size, 0, none⟩ (.slice (some ⟨g, 0, none⟩) n cap)).setCell ⟨b, 4, none⟩ (.slice (some ⟨g, 0, none⟩) n cap)) = w3 at *
  have q0 := cell_of HX3.out 0 _ rfl
  have c := sift_fn g n cap ((fr.set 0 Xn).take n) 0 w3 34 #[] #[.pointer (some ⟨w.heap.size, 0, none⟩)] (fun h k => (DownAt h k ∧ h.Perm ((fr.set 0 Xn).take n)) ∧ k ≤ n) (fun h k => dnN h k 2) (fun k => n - k) (by rw [List.length_take, List.length_set]; have := HN.out; omega) ⟨⟨HD.out, List.Perm.refl _⟩, Nat.zero_le _⟩ (down_sifts _ _) HR3.out (enters_of Try.func34 (by kernel_rfl) rfl)
    (fun h k w' hn hI hrow ht => down_fn w.heap.size g n cap h k w' hn (by omega) hI.2 (by
      rw [World.cell?_of_block (w := w3) (ht.block w.heap.size (lt_of_get HX3.out) (fun hm => hgx (List.mem_singleton.1 hm).symm))]
      exact q0) hrow)
  rw [show ((0 : Nat) : Int) = 0 from rfl] at c
  go_wp2_with fail
  refine c.mono ?_
  rintro e w4 ⟨rfl, h, k, hlh, ⟨⟨hu, hp⟩, _⟩, hst, hrow, ht⟩
  have HDS := Lib.hid (down_stop hu hst)
  have HPP := Lib.hid hp
  have HRW := Lib.hid hrow
  have HTT := Lib.hid ht
  clear c hu hst hp hrow ht
  go_wp2_with fail
  go_ret
  refine ⟨ret_int HX0.out.symm, .slice (some ⟨g, 0, none⟩) n cap, h, ?_, HRW.out, HDS.out, ?_, rfl, ?_⟩
  · rw [HTT.out.block b (lt_of_get HB3.out) (fun hm => hgb (List.mem_singleton.1 hm).symm)]
    exact HB3.out
  · rw [HX0.out]
    exact HP.out.symm.trans ((List.perm_append_singleton _ _).trans (HPP.out.symm.cons _))
  · refine ((HT1.out.trans HT2.out (fun z hz => .inl (by rw [List.mem_singleton.1 hz]; exact List.mem_cons_of_mem _ (List.mem_singleton.2 rfl)))).trans HT3.out (fun z hz => ?_)).trans HTT.out (fun z hz => .inl (by rw [List.mem_singleton.1 hz]; exact List.mem_cons_of_mem _ (List.mem_singleton.2 rfl)))
    rcases List.mem_cons.1 hz with h | h
    · exact .inl (by rw [h]; exact List.mem_cons_self ..)
    · exact .inr (by rw [List.mem_singleton.1 h]; exact Nat.le_refl _)
end Go.Proofs.Ytpfhaafaoedgpaa.Pl
