/-
  Layer 5: pairs of an expression and a block.
-/
import Derived.Test.YtmddffacjkkeiaaDvRow
namespace Go.Proofs.Ytmddffacjkkeiaa.Nd
open Go Go.RowKit Go.ChangeShapes Go.WideShapes Go.Shelf

theorem boxed_then {w w2 : World} {cs : Array Value} {t : TypeId} {o : Obj} (b : Below ((w.alloc (.cells cs t)).alloc o).heap.size ((w.alloc (.cells cs t)).alloc o) w2) : w2.heap[w.heap.size]? = some (.cells cs t (0, 0)) ∧ Below w.heap.size w w2 := by
  have h1 : Below w.heap.size w ((w.alloc (.cells cs t)).alloc o) := ((Below.refl _ _).alloc (Nat.le_refl _) _).alloc (by simp) _
  exact ⟨(b.block _ (by simp; omega)).trans ((Below.heap_alloc _ _ _ (by simp)).trans (new_block w _)), h1.trans (b.mono (by simp; omega))⟩
theorem below_lit {w w1 w2 : World} {o : Obj} (h : Below w.heap.size w w1) (b : Below (w1.alloc o).heap.size (w1.alloc o) w2) : Below w.heap.size w w2 :=
  (h.alloc h.size o).trans (b.mono (by have := h.size; simp; omega))

theorem pairs_step (m j : Nat) (ks : List Nat) (h : j < m) : pairsGo (m - j) (ks.drop (2 * j)) = (rowL ((ks.drop (2 * j)).take 2) [exprK, blockP] && pairsGo (m - (j + 1)) (ks.drop (2 * (j + 1)))) := by
  rw [show m - j = (m - (j + 1)) + 1 by omega, pairsGo, List.drop_drop, show 2 * j + 2 = 2 * (j + 1) by omega]

set_option maxRecDepth 100000 in
theorem own_pairs (v : Value) (ks : List Nat) (w : World) (hK : Kl w v ks) :
    Calls Try.prog 55 #[v] w fun e w' => e = .returned (.bool (pairsB ks)) ∧ Below w.heap.size w w' := by
  have HK := Lib.hid hK
  obtain ⟨ao, cap, rfl, hl, hc2, _, hr⟩ := hK
  clear hr
  obtain ⟨m, hm⟩ : ∃ m, ks.length / 2 = m := ⟨_, rfl⟩
  obtain ⟨n, hn⟩ : ∃ n, ks.length = n := ⟨_, rfl⟩
  have hd : ((n : Int)).tdiv 2 = (m : Int) := by rw [← hm, hn]; rw [Int.tdiv_eq_ediv_of_nonneg (by omega)]; omega
  have hmn : 2 * m ≤ n ∧ n < 2 * m + 2 := by omega
  obtain ⟨hmn1, hmn2⟩ := hmn
  rw [hn] at hl hc2
  have e1 : IntKind.i64.wrap (m : Int) = m := IntWalk.i64_in _ (by omega)
  have e2 : IntKind.i64.wrap ((m : Int) * 2) = (m : Int) * 2 := IntWalk.i64_in _ (by omega)
  have hp : pairsB ks = (pairsGo m ks && (decide (0 < m * 2) && areB ks (m * 2 : Nat) n blockP)) := by unfold pairsB; rw [hm, hn]
  rw [hp]
  have HN := Lib.hid hn
  rw [hn] at HK ⊢
  clear hp hm hn
  obtain ⟨R, hR⟩ : ∃ R, R = (pairsGo m ks && (decide (0 < m * 2) && areB ks (m * 2 : Nat) n blockP)) := ⟨_, rfl⟩
  rw [← hR]
  have HR := Lib.hid hR
  clear hR
  go_enter Try.func55, Try.ntmps55
  go_wp2_with fail
  refine (own_of _ [1] _ (kl_lit _ _ _ [1] _ _ (by rfl) (by decide) (by decide) (by simp) (by rfl))).mono ?_
  rintro e w2 ⟨fv, rfl, hF, b2⟩
  have HF := Lib.hid hF
  obtain ⟨f, caps, rfl, hE, hC⟩ := hF
  clear hE hC
  have HB := Lib.hid (below_lit (Below.refl w.heap.size w) b2)
  clear b2
  go_wp2_with fail
  go_loopg [5] m (fun r i wr => ∃ j a : Nat, r = m - j ∧ a = 2 * j ∧ i = .int .i64 (a : Int) ∧ j ≤ m ∧ Below w2.heap.size w2 wr ∧ pairsGo m ks = pairsGo (m - j) (ks.drop (2 * j)))
  case atStart => exact ⟨0, 0, rfl, rfl, rfl, Nat.zero_le _, Below.refl _ _, rfl⟩
  case round =>
    obtain ⟨j, a, rfl, ha, rfl, hj, hb, hgo⟩ := hrel
    have HGO := Lib.hid hgo
    have HA := Lib.hid ha
    have HBr := Lib.hid hb
    have HFr := Lib.hid (HF.out.below hb)
    have HB2 := Lib.hid (HB.out.trans (hb.mono HB.out.size))
    clear hgo hb
    by_cases hlt : j < m
    · have hlt' : (a : Int) < (m : Int) * 2 := by omega
      have ea : IntKind.i64.wrap ((a : Int) + 2) = (a : Int) + 2 := IntWalk.i64_in _ (by omega)
      obtain ⟨ao', c', hrun, hpart⟩ := (HK.out.below HB2.out).part a (a + 2) (by omega) (by have := HN.out; omega)
      rw [show a + 2 - a = 2 by omega] at hrun hpart
      rw [show ((a + 2 : Nat) : Int) = (a : Int) + 2 by omega] at hrun
      have hs := pairs_step m j ks hlt
      rw [← ha] at hs
      have HS := Lib.hid hs
      have HPART := Lib.hid hpart
      clear ha hs hpart
      have c := fun t => own_row (.slice ao' 2 c') (.slice (some ⟨wr.heap.size, 0, none⟩) 2 2) ((ks.drop a).take 2) [exprK, blockP] (wr.alloc (.cells #[.func (.func 27) #[] #[], .func (.func f) #[] caps] t)) (HPART.out.below ((Below.refl _ _).alloc (Nat.le_refl _) _)) (fs_lit wr t _ [exprK, blockP] _ _ (by decide) rfl rfl (by intro j hj; match j, hj with | 0, _ => exact ⟨_, rfl, fn_expr _⟩ | 1, _ => exact ⟨_, rfl, HFr.out⟩))
      generalize rowL ((ks.drop a).take 2) [exprK, blockP] = RR at *
      cases RR with
      | false =>
        go_wp2_with fail
        refine (c _).mono ?_
        rintro e w3 ⟨rfl, b3⟩
        have HB3 := Lib.hid (below_lit HB2.out b3)
        clear b3 c
        go_wp2_with fail
        go_ret
        refine ⟨ret_bool ?_, HB3.out⟩
        rw [HR.out, HGO.out, ← HA.out, HS.out]
        rfl
      | true =>
        go_wp2_with fail
        refine (c _).mono ?_
        rintro e w3 ⟨rfl, b3⟩
        have HB3 := Lib.hid (below_lit HBr.out b3)
        clear b3 c
        go_wp2_with fail
        go_roundg (m - (j + 1))
        case measure => omega
        case rel => exact ⟨j + 1, a + 2, rfl, by have := HA.out; omega, by go_num, by omega, HB3.out, by rw [HGO.out, ← HA.out, HS.out]; rfl⟩
    · obtain rfl : j = m := by omega
      have hlt' : ¬ (a : Int) < (j : Int) * 2 := by omega
      have hgo1 : pairsGo j ks = true := by rw [HGO.out, Nat.sub_self]; rfl
      have HG1 := Lib.hid hgo1
      clear hgo1
      by_cases h0 : 0 < j
      · have h0' : (0 : Int) < (j : Int) * 2 := by omega
        have d := own_are _ _ ks ((j : Int) * 2) n blockP _ (HK.out.below HB2.out) HFr.out
        have ed : areB ks (j * 2 : Nat) n blockP = areB ks ((j : Int) * 2) n blockP := by rw [show ((j * 2 : Nat) : Int) = (j : Int) * 2 by omega]
        have HED := Lib.hid ed
        clear ed
        generalize areB ks ((j : Int) * 2) n blockP = RA at *
        go_wp2_with fail
        refine d.mono ?_
        rintro e w3 ⟨rfl, b3⟩
        have HB3 := Lib.hid (HB2.out.trans (b3.mono HB2.out.size))
        clear b3
        go_wp2_with fail
        go_ret
        refine ⟨ret_bool ?_, HB3.out⟩
        rw [HR.out, HG1.out, HED.out, decide_eq_true (by omega), Bool.true_and, Bool.true_and]
      · have h0' : ¬ (0 : Int) < (j : Int) * 2 := by omega
        go_wp2_with fail
        go_ret
        refine ⟨ret_bool ?_, HB2.out⟩
        rw [HR.out, decide_eq_false (by omega), Bool.false_and, Bool.and_false]

end Go.Proofs.Ytmddffacjkkeiaa.Nd
