import Derived.Test.YthejclgihhfenaaGreatCm26
/-
  Layer 12: the developers' pool: an object taken that has a number given back.
-/
namespace Go.Proofs.YthejclgihhfenaaGreat.Pl
open Go Go.RowKit

section
variable {w w' : World} {b : Nat} {m : Int} {l : Ob} {vs vf : Value} {fr : List Int} {F : List Nat}
set_option maxHeartbeats 2000000 in
set_option maxRecDepth 100000 in
theorem take_free (size : Int) (hp : PAt w b m l vs vf fr) (hpos : 0 < fr.length) (hF : b ∈ F ∧ (∀ k, vs.ownBlock = some k → k ∈ F) ∧ (∀ k, vf.ownBlock = some k → k ∈ F) ∧ ∀ k ∈ F, k < w.heap.size) (hsz : In64 size) (h0 : ¬ size < 0) (h1 : ¬ (m < usedL l + size ∨ 65536 ≤ cntL l)) : Calls Tryz.prog 96 #[.pointer (some ⟨b, 0, none⟩), .int .i64 size] w (TakeSays PA b m l F size w) := by
  have HF := Lib.hid hF
  have x0 := cell_of hp.cells 0 _ rfl
  have HH := Lib.hid hp
  obtain ⟨u1, u2, u3⟩ := hp.used
  obtain ⟨s1, s2⟩ := hsz
  obtain ⟨hfst, hll⟩ := free_first hp.perm hp.heap hpos
  have hln := least_none l hll
  have hput : putL l (leastL l) size = l.set (leastL l) (some size) := by unfold putL; rw [if_pos hll]
  have HR := Lib.hid (dtake_new (m := m) (l := l) size h0 h1)
  rw [hput] at HR
  have hok := ok_put hp.ok (by omega) (fun h => h1 (.inl h)) (fun h => h1 (.inr h))
  rw [hput] at hok
  have HOK := Lib.hid hok
  have hlen := hp.len
  have hcnt := hp.cnt
  have hfl : fr.length ≤ 65536 := by omega
  have HPM := Lib.hid (hp.perm.trans (free_take 1 l (leastL l) size hln))
  have HUA := Lib.hid (show usedL (l.set (leastL l) (some size)) = usedL l + size by have := used_set l _ none (some size) hln; simpa using this)
  have HSA := Lib.hid (show szsL (l.set (leastL l) (some size)) = (szsL l).set (leastL l) size from szs_set l _ _)
  have hgt : ¬ m - usedL l < size := fun h => h1 (.inl (by omega))
  have hc2 : ¬ (65536 : Int) ≤ (cntL l : Int) := fun h => h1 (.inr (by omega))
  have cl := left_fn hp
  have cc := count_fn hp.drew
  have hP2 := hp.drew.drew
  have hne := row_ne hP2.sizes hP2.cells
  have hnf := row_ne hP2.free hP2.cells
  obtain ⟨aF, cF, rfl, _, _⟩ := row_len hp.free
  obtain ⟨gS, cS, rfl, _, _, hgS, _, _⟩ := row_item hp.sizes (leastL l) (by rw [szs_len]; exact hll)
  rw [szs_len] at *
  have hgb : gS ≠ b := fun e => hne (by rw [e]; rfl)
  have e0 := IntWalk.i64_in (usedL l + size) (by omega)
  have HB := Lib.hid ((drew_below w).trans (drew_below w.drew))
  have HAP := Lib.hid hp.apart
  have HHP := Lib.hid hp.heap
  have HFST := Lib.hid hfst
  have hkl' : (leastL l : Int) < l.length := by omega
  clear hp h1 hput hok hcnt hF hln hfst
  have HP2 := Lib.hid hP2.cells
  have ht1 : Turns [b] w.drew.drew (w.drew.drew.setCell ⟨b, 2, none⟩ (.int .i64 (usedL l + size))) := turns_set (Turns.refl _ _) (List.mem_singleton.2 rfl)
  have hrs := row_turns hP2.sizes ht1 (fun j hj hm => hne (hj.trans (by rw [List.mem_singleton.1 hm])))
  have hrf := row_turns hP2.free ht1 (fun j hj hm => hnf (hj.trans (by rw [List.mem_singleton.1 hm])))
  have hb1 := setCell_at (i := 2) (v := .int .i64 (usedL l + size)) hP2.cells
  have HRS := Lib.hid hrs
  have HRF := Lib.hid hrf
  have HB1 := Lib.hid (show (w.drew.drew.setCell ⟨b, 2, none⟩ (.int .i64 (usedL l + size))).heap[b]? = some (.cells #[.pointer (some ⟨b, 0, none⟩), .int .i64 m, .int .i64 (usedL l + size), .slice (some ⟨gS, 0, none⟩) l.length cS, .slice aF fr.length cF] 134 (0, 0)) from hb1)
  have HT1 := Lib.hid ht1
  have HNE := Lib.hid hne
  have HNF := Lib.hid hnf
  clear hb1 hrs hrf ht1 hP2 hne hnf
  obtain ⟨c, hc⟩ : ∃ c : Int, c = (cntL l : Int) := ⟨_, rfl⟩
  rw [← hc] at hc2 cc
  clear hc
  obtain ⟨U, hU⟩ : ∃ U, U = usedL l := ⟨_, rfl⟩
  have HUU := Lib.hid hU
  rw [← hU] at cl hgt e0 HP2 HRS HRF HB1 HT1 HUA u1 u2
  clear hU
  have HLEN := Lib.hid hlen
  have HLL := Lib.hid hll
  have hf0 : ((fr.length : Int) == 0) = false := by rw [beq_eq_false_iff_ne]; omega
  have cp := pop_fn b _ _ _ _ _ fr _ HB1.out HRF.out HHP.out hfl hpos
  have e1 := IntWalk.i64_in ((leastL l : Int) + 1 - 1) (by omega)
  have e2 := IntWalk.i64_in (leastL l : Int) (by omega)
  have HFL := Lib.hid hfl
  clear hlen hll hfl hpos
  generalize leastL l = k at *
  go_enter Tryz.func96, Tryz.ntmps96
  go_wp2_with fail
  refine (made_fn b w x0).mono ?_
  rintro e w1 ⟨rfl, hw⟩
  subst hw
  go_wp2_with fail
  refine cl.mono ?_
  rintro e w2 ⟨rfl, hw⟩
  subst hw
  clear cl
  go_wp2_with fail
  refine cc.mono ?_
  rintro e w2 ⟨rfl, hw⟩
  subst hw
  clear cc
  generalize w1.drew.drew = w2 at *
  have y2 := cell_of HP2.out 2 _ rfl
  have y3 := cell_of HP2.out 3 _ rfl
  have y4 := cell_of HP2.out 4 _ rfl
  have z2 := free_of HP2.out 2
  have hbl := lt_of_get HP2.out
  have q4 := cell_of HB1.out 4 _ rfl
  go_upto_region 11 with fail
  clear y2 y3 y4 z2
  generalize w2.setCell ⟨b, 2, none⟩ (.int .i64 (U + size)) = w3 at *
  go_wp2_with fail
  refine cp.mono ?_
  rintro e w4 ⟨rfl, vf', fr', p1, p2, p3, p4, p5, p6⟩
  have hga : ∀ j, vf'.ownBlock = some j → j ≠ gS := fun j hj e => by
    rcases HAP.out with ha | ha
    · cases ha
    · exact ha (by rw [← p5, hj, e]; rfl)
  have hrs4 := row_turns HRS.out p6 (fun j hj hm => by
    injection hj with hj
    dsimp only at hj
    subst hj
    rcases List.mem_cons.1 hm with e | e
    · exact hgb e
    · exact hga gS (p5.trans (own_mem.1 e)) rfl)
  obtain ⟨_, _, ev, _, _, _, y0, z0⟩ := row_item hrs4 k (by rw [szs_len]; exact HLL.out)
  injection ev with ev1 ev2 ev3
  injection ev1 with ev1
  injection ev1 with ev1
  subst ev1
  subst ev3
  have hT5 : Turns [gS] w4 (w4.setCell ⟨gS, k, none⟩ (.int .i64 size)) := turns_set (Turns.refl _ _) (List.mem_singleton.2 rfl)
  have hP : PAt (w4.setCell ⟨gS, k, none⟩ (.int .i64 size)) b m (l.set k (some size)) (.slice (some ⟨gS, 0, none⟩) l.length cS) vf' fr' := by
    refine ⟨?_, by rw [HSA.out]; exact row_set hrs4 k size, row_turns p2 hT5 (fun j hj hm => hga j hj (List.mem_singleton.1 hm)), .inr (fun e => hga gS e.symm rfl), p3, ?_, HOK.out, by rw [List.length_set]; exact HLEN.out⟩
    · rw [hT5.block b (lt_of_get p1) (fun hm => hgb (List.mem_singleton.1 hm).symm), HUA.out]
      exact p1
    · have h1 := p4.symm.trans HPM.out
      rw [HFST.out, Int.add_comm] at h1
      exact h1.cons_inv
  have HP := Lib.hid hP
  have HT5 := Lib.hid hT5
  have HT4 := Lib.hid p6
  have HP5 := Lib.hid p5
  have y3 := cell_of p1 3 _ rfl
  rw [HFST.out]
  clear p1 p2 p3 p4 p5 p6 hga hrs4 hT5 hP cp ev2 q4
  go_wp2_with fail
  go_ret2
  unfold TakeSays
  rw [HR.out]
  have s1 := HB.out.size
  have s2 := HT1.out.size
  have s3 := HT4.out.size
  have s4 := HT5.out.size
  refine ⟨ret_ii rfl rfl, F, ⟨_, _, _, HP.out, HF.out.1, fun j hj => HF.out.2.1 j hj, fun j hj => HF.out.2.2.1 j (HP5.out.symm.trans hj), fun j hj => ?_⟩, (((Turns.of_below HB.out).trans HT1.out (fun j hj => .inl ?_)).trans HT4.out (fun j hj => .inl ?_)).trans HT5.out (fun j hj => .inl ?_), fresh_refl _ _⟩
  · have := HF.out.2.2.2 j hj
    omega
  · rw [List.mem_singleton.1 hj]; exact HF.out.1
  · rcases List.mem_cons.1 hj with e | e
    · rw [e]; exact HF.out.1
    · exact HF.out.2.2.1 j (own_mem.1 e)
  · rw [List.mem_singleton.1 hj]; exact HF.out.2.1 gS rfl
theorem take_fn' (size : Int) (hp : PA w b m l F) (hsz : In64 size) : Calls Tryz.prog 96 #[.pointer (some ⟨b, 0, none⟩), .int .i64 size] w (TakeSays PA b m l F size w) := by
  by_cases hbad : size < 0 ∨ m < usedL l + size ∨ 65536 ≤ cntL l
  · exact take_refused size hp hsz hbad
  · obtain ⟨vs, vf, fr, h, hF⟩ := hp
    have h0 : ¬ size < 0 := fun h => hbad (.inl h)
    have h1 : ¬ (m < usedL l + size ∨ 65536 ≤ cntL l) := fun h => hbad (.inr h)
    rcases Nat.eq_zero_or_pos fr.length with e | e
    · have e := List.eq_nil_of_length_eq_zero e
      subst e
      exact take_last size h hF hsz h0 h1
    · exact take_free size h e hF hsz h0 h1
end
end Go.Proofs.YthejclgihhfenaaGreat.Pl
