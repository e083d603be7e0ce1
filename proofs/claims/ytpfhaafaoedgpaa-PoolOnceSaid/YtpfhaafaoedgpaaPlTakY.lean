/-
  Layer 12: the developers' pool: an object taken.
-/
import Derived.Test.YtpfhaafaoedgpaaPlTak
namespace Go.Proofs.Ytpfhaafaoedgpaa.Pl
open Go Go.RowKit

section
variable {w w' : World} {b : Nat} {m : Int} {l : Ob} {vs vf : Value} {fr : List Int} {F : List Nat}
set_option maxHeartbeats 2000000 in
set_option maxRecDepth 100000 in
theorem take_last (size : Int) (hp : PAt w b m l vs vf []) (hF : b ∈ F ∧ (∀ k, vs.ownBlock = some k → k ∈ F) ∧ (∀ k, vf.ownBlock = some k → k ∈ F) ∧ ∀ k ∈ F, k < w.heap.size) (hsz : In64 size) (h0 : ¬ size < 0) (h1 : ¬ (m < usedL l + size ∨ 65536 ≤ cntL l)) : Calls Try.prog 8 #[.pointer (some ⟨b, 0, none⟩), .int .i64 size] w (TakeSays PA b m l F size w) := by
  have HF := Lib.hid hF
  have x0 := cell_of hp.cells 0 _ rfl
  have HH := Lib.hid hp
  obtain ⟨u1, u2, u3⟩ := hp.used
  obtain ⟨s1, s2⟩ := hsz
  have hll : leastL l = l.length := free_none (List.Perm.eq_nil hp.perm.symm)
  have hput : putL l (leastL l) size = l ++ [some size] := by unfold putL; rw [if_neg (by omega)]
  have HR := Lib.hid (dtake_new (m := m) (l := l) size h0 h1)
  rw [hput, hll] at HR
  have hok := ok_put hp.ok (by omega) (fun h => h1 (.inl h)) (fun h => h1 (.inr h))
  rw [hput] at hok
  have HOK := Lib.hid hok
  have hcnt := hp.cnt
  have hlen : l.length < 65536 := by
    have h2 : ¬ 65536 ≤ cntL l := fun h => h1 (.inr h)
    simp only [List.length_nil, Nat.zero_add] at hcnt
    omega
  have hperm : ([] : List Int).Perm (freeL 1 (l ++ [some size])) := by rw [free_app]; exact hp.perm
  have HPM := Lib.hid hperm
  have HUA := Lib.hid (used_app l size)
  have HSA := Lib.hid (szs_app l size)
  have hgt : ¬ m - usedL l < size := fun h => h1 (.inl (by omega))
  have hc2 : ¬ (65536 : Int) ≤ (cntL l : Int) := fun h => h1 (.inr (by omega))
  have cl := left_fn hp
  have cc := count_fn hp.drew
  have hP2 := hp.drew.drew
  have hne := row_ne hP2.sizes hP2.cells
  have hnf := row_ne hP2.free hP2.cells
  obtain ⟨aF, mF, cF, rfl⟩ := own_some hp.free
  have hmF : mF = 0 := by
    obtain ⟨_, _, e, _⟩ := row_len hp.free
    injection e
  subst hmF
  obtain ⟨aS, mS, cS, rfl⟩ := own_some hp.sizes
  have e0 := IntWalk.i64_in (usedL l + size) (by omega)
  have HB := Lib.hid ((drew_below w).trans (drew_below w.drew))
  have HAP := Lib.hid hp.apart
  clear hp h1 hput hll hok hperm hcnt hF
  have HP2 := Lib.hid hP2.cells
  have ht1 : Turns [b] w.drew.drew (w.drew.drew.setCell ⟨b, 2, none⟩ (.int .i64 (usedL l + size))) := turns_set (Turns.refl _ _) (List.mem_singleton.2 rfl)
  have hrs := row_turns hP2.sizes ht1 (fun j hj hm => hne (hj.trans (by rw [List.mem_singleton.1 hm])))
  have hrf := row_turns hP2.free ht1 (fun j hj hm => hnf (hj.trans (by rw [List.mem_singleton.1 hm])))
  have hb1 := setCell_at (i := 2) (v := .int .i64 (usedL l + size)) hP2.cells
  have HRS := Lib.hid hrs
  have HRF := Lib.hid hrf
  have HB1 := Lib.hid (show (w.drew.drew.setCell ⟨b, 2, none⟩ (.int .i64 (usedL l + size))).heap[b]? = some (.cells #[.pointer (some ⟨b, 0, none⟩), .int .i64 m, .int .i64 (usedL l + size), .slice aS mS cS, .slice aF 0 cF] 52 (0, 0)) from hb1)
  have HT1 := Lib.hid ht1
  have HNE := Lib.hid hne
  have HNF := Lib.hid hnf
  clear hb1 hrs hrf ht1 hP2 hne hnf
  obtain ⟨c, hc⟩ : ∃ c : Int, c = (cntL l : Int) := ⟨_, rfl⟩
  rw [← hc] at hc2 cc
  clear hc
  obtain ⟨U, hU⟩ : ∃ U, U = usedL l := ⟨_, rfl⟩
  have HUU := Lib.hid hU
  rw [← hU] at cl hgt e0 HP2 HRS HRF HB1 HT1 HUA u1 u2
  clear hU
  obtain ⟨n, hn⟩ : ∃ n, n = l.length := ⟨_, rfl⟩
  rw [← hn] at hlen HR
  have HN := Lib.hid (show (szsL l).length = n by rw [szs_len, hn])
  have HLEN := Lib.hid hlen
  clear hn hlen
  go_enter Try.func8, Try.ntmps8
  go_wp2_with fail
  refine (made_fn b w x0).mono ?_
  rintro e w1 ⟨rfl, hw⟩
  subst hw
  go_wp2_with fail
  refine cl.mono ?_
  rintro e w2 ⟨rfl, hw⟩
  subst hw
  clear cl
  go_wp2_with fail
  refine cc.mono ?_
  rintro e w2 ⟨rfl, hw⟩
  subst hw
  clear cc
  generalize w1.drew.drew = w2 at *
  have y2 := cell_of HP2.out 2 _ rfl
  have y3 := cell_of HP2.out 3 _ rfl
  have y4 := cell_of HP2.out 4 _ rfl
  have z2 := free_of HP2.out 2
  have z3 := free_of HP2.out 3
  have hbl := lt_of_get HP2.out
  have q3 := cell_of HB1.out 3 _ rfl
  have q4 := cell_of HB1.out 4 _ rfl
  have r3 := free_of HB1.out 3
  go_upto_region 9 with fail
  clear y2 y3 y4 z2 z3
  have hbl2 := lt_of_get HB1.out
  generalize w2.setCell ⟨b, 2, none⟩ (.int .i64 (U + size)) = w3 at *
  go_wp2_with (at_builtin; go_loud (refine wpList_append_at rfl (.tmp 39) (.tmp 41) 36 rfl 0 3 (.int .i64 0) 8 Try.underlying36 infoInt rfl (.slice aS mS cS) (szsL l).length (ints (szsL l)) rfl HRS.out (.int .i64 size) rfl rfl ?l1 ?m1 ?n1 ?_))
  case l1 => exact Nat.le_trans (m := 65536) (by have := HN.out; have := HLEN.out; omega) (by decide)
  case m1 => exact Nat.le_trans (Nat.mul_le_mul_right 8 (m := 65536) (by have := HN.out; have := HLEN.out; omega)) (by decide)
  case n1 => exact Nat.zero_le _
  intro v1 w4 h1 h2 h3
  have hr4 : Row w4 v1 (szsL l ++ [size]) := by
    unfold Row
    rw [List.length_append, List.length_singleton, show ints (szsL l ++ [size]) = ints (szsL l) ++ [.int .i64 size] from by unfold ints; rw [List.map_append]; rfl]
    exact h1
  have hlen : (szsL l ++ [size]).length = n + 1 := by rw [List.length_append, List.length_singleton, HN.out]
  obtain ⟨g, cap, rfl, hcl, hcm, hg, _, _⟩ := row_item hr4 n (by omega)
  rw [hlen] at hr4 h3 ⊢
  have hb4 : w4.heap[b]? = some (.cells #[.pointer (some ⟨b, 0, none⟩), .int .i64 m, .int .i64 (U + size), .slice aS mS cS, .slice aF 0 cF] 52 (0, 0)) := by
    rw [h2.block b (by simp; omega) (fun e => HNE.out e.symm), heap_alloc_old _ _ hbl2]
    exact HB1.out
  have hT4 : Turns (own (.slice aS mS cS)) w3 w4 := by
    refine ⟨h2.os, h2.tape, h2.output, Nat.le_trans (by simp) h2.size, fun k hk hn => ?_⟩
    rw [h2.block k (by simp; omega) (fun e => hn (own_mem.2 e.symm)), heap_alloc_old _ _ hk]
  have hr4f := row_turns HRF.out hT4 (fun j hj hm => by
    rcases HAP.out with ha | ha
    · rw [own_mem, ha] at hm; cases hm
    · exact ha ((own_mem.1 hm).trans hj.symm))
  have hT5 : Turns [b] w4 (w4.setCell ⟨b, 3, none⟩ (.slice (some ⟨g, 0, none⟩) (n + 1) cap)) := turns_set (Turns.refl _ _) (List.mem_singleton.2 rfl)
  have hgb : g ≠ b := fun e => row_ne hr4 hb4 (by rw [e]; rfl)
  have hr5 := row_turns hr4 hT5 (fun j hj hm => hgb (by injection hj with hj; exact hj.trans (List.mem_singleton.1 hm)))
  have hr5f := row_turns hr4f hT5 (fun j hj hm => HNF.out (by rw [hj, List.mem_singleton.1 hm]))
  have hb5 : (w4.setCell ⟨b, 3, none⟩ (.slice (some ⟨g, 0, none⟩) (n + 1) cap)).heap[b]? = some (.cells #[.pointer (some ⟨b, 0, none⟩), .int .i64 m, .int .i64 (U + size), .slice (some ⟨g, 0, none⟩) (n + 1) cap, .slice aF 0 cF] 52 (0, 0)) := setCell_at (cs := #[.pointer (some ⟨b, 0, none⟩), .int .i64 m, .int .i64 (U + size), .slice aS mS cS, .slice aF 0 cF]) hb4
  have hP : PAt (w4.setCell ⟨b, 3, none⟩ (.slice (some ⟨g, 0, none⟩) (n + 1) cap)) b m (l ++ [some size]) (.slice (some ⟨g, 0, none⟩) (n + 1) cap) (.slice aF 0 cF) [] := by
    refine ⟨by rw [HUA.out]; exact hb5, by rw [HSA.out]; exact hr5, hr5f, .inr (fun e => ?_), heap_nil, HPM.out, HOK.out, ?_⟩
    · have hf := HRF.out.lt g e.symm
      rcases h3 with h3 | h3
      · rcases HAP.out with ha | ha
        · rw [ha] at h3; cases h3
        · exact ha (h3.symm.trans e)
      · injection h3 with h3
        dsimp only at h3
        omega
    · have h9 := HN.out
      have h8 := HLEN.out
      rw [szs_len] at h9
      rw [List.length_append, List.length_singleton]
      omega
  have HP := Lib.hid hP
  have HT4 := Lib.hid hT4
  have HT5 := Lib.hid hT5
  have H3 := Lib.hid h3
  have y3 := cell_of hb4 3 _ rfl
  have z3 := free_of hb4 3
  clear h1 h2 h3 hr4 hr4f hr5 hr5f hb4 hb5 hT4 hT5 hP hcl hcm q3 q4 r3 hlen
  go_wp2_with fail
  go_ret2
  unfold TakeSays
  rw [HR.out]
  have s1 := HB.out.size
  have s2 := HT1.out.size
  have s3 := HT4.out.size
  have s4 := HT5.out.size
  refine ⟨ret_ii (by go_num) rfl, F ++ own (.slice (some ⟨g, 0, none⟩) (n + 1) cap), ⟨_, _, _, HP.out, List.mem_append_left _ HF.out.1, fun j hj => List.mem_append_right _ (own_mem.2 hj), fun j hj => List.mem_append_left _ (HF.out.2.2.1 j hj), fun j hj => ?_⟩, (((Turns.of_below HB.out).trans HT1.out (fun j hj => .inl ?_)).trans HT4.out (fun j hj => .inl ?_)).trans HT5.out (fun j hj => .inl ?_), fun j hj => ?_⟩
  · rcases List.mem_append.1 hj with hj | hj
    · have := HF.out.2.2.2 j hj
      omega
    · exact (HP.out.sizes.lt j (own_mem.1 hj)).2
  · rw [List.mem_singleton.1 hj]; exact HF.out.1
  · exact HF.out.2.1 j (own_mem.1 hj)
  · rw [List.mem_singleton.1 hj]; exact HF.out.1
  · rcases List.mem_append.1 hj with hj | hj
    · exact .inl hj
    · have hj := own_mem.1 hj
      rcases H3.out with h | h
      · exact .inl (HF.out.2.1 j (h.symm.trans hj))
      · rw [h] at hj
        injection hj with hj
        exact .inr (by omega)
end
end Go.Proofs.Ytpfhaafaoedgpaa.Pl
