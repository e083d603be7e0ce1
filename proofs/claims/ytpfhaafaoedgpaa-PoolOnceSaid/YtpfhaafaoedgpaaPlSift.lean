/-
  Layer 12: a row of numbers sifted by whatever function it is handed (written by takes.py out of pl-sift.src).
-/
import Derived.Test.YtpfhaafaoedgpaaPlPa
namespace Go.Proofs.Ytpfhaafaoedgpaa.Pl
open Go Go.RowKit

def Enters (f : Nat) : Prop := ∀ args w, (callFunc f args).run Try.prog w = .ok (.enter f args) w
def NextSays (x : Nat) (w : World) (e : Ending) (w' : World) : Prop := e = .returned (.int .i64 (x : Int)) ∧ Below w.heap.size w w'
theorem drew_below (w : World) : Below w.heap.size w w.drew := ⟨rfl, rfl, rfl, Nat.le_refl _, fun _ _ => rfl⟩
/-- What is kept where a row of n numbers is sifted from place to place. -/
structure Sifts (n : Nat) (I : List Int → Nat → Prop) (nx : List Int → Nat → Nat) (mu : Nat → Nat) : Prop where
  step : ∀ h k, h.length = n → I h k → nx h k ≠ k → k < n ∧ nx h k < n ∧ I (swapL h k (nx h k)) (nx h k) ∧ mu (nx h k) < mu k
def SiftSays (I : List Int → Nat → Prop) (nx : List Int → Nat → Nat) (g n cap : Nat) (w : World) (e : Ending) (w' : World) : Prop :=
  e = .returned (.tuple #[]) ∧ ∃ h k, h.length = n ∧ I h k ∧ nx h k = k ∧ Row w' (.slice (some ⟨g, 0, none⟩) n cap) h ∧ Turns [g] w w'

set_option maxHeartbeats 2000000 in
set_option maxRecDepth 100000 in
theorem sift_fn (g n cap : Nat) (h0 : List Int) (k0 : Nat) (w : World) (f : Nat) (bound caps : Array Value) (I : List Int → Nat → Prop) (nx : List Int → Nat → Nat) (mu : Nat → Nat)
    (hn : h0.length = n) (hI : I h0 k0) (hS : Sifts n I nx mu) (hr : Row w (.slice (some ⟨g, 0, none⟩) n cap) h0) (he : Enters f)
    (hc : ∀ h k w', h.length = n → I h k → Row w' (.slice (some ⟨g, 0, none⟩) n cap) h → Turns [g] w w' → Calls Try.prog f (bound.push (.int .i64 (k : Int)) ++ caps) w' (NextSays (nx h k) w')) :
    Calls Try.prog 33 #[.slice (some ⟨g, 0, none⟩) n cap, .int .i64 (k0 : Int), .func (.func f) bound caps] w (SiftSays I nx g n cap w) := by
  have HC := Lib.hid hc
  have HS := Lib.hid hS
  have HI := Lib.hid hI
  have HR := Lib.hid hr
  have HN := Lib.hid hn
  clear hc hS hI hr hn
  unfold Enters at he
  have c := HC.out h0 k0 w HN.out HI.out HR.out (Turns.refl _ _)
  go_enter Try.func33, Try.ntmps33
  go_wp2_with fail
  refine c.mono ?_
  rintro e w1 ⟨rfl, b1⟩
  have HR1 := Lib.hid (row_below HR.out b1)
  have HT1 := Lib.hid (Turns.of_below (F := [g]) b1)
  clear b1 c
  go_wp2_with fail
  go_loopg [1, 6] (mu k0) (fun r x y wr => ∃ (h : List Int) (k : Nat), r = mu k ∧ x = .int .i64 (k : Int) ∧ y = .int .i64 (nx h k : Int) ∧ h.length = n ∧ I h k ∧ Row wr (.slice (some ⟨g, 0, none⟩) n cap) h ∧ Turns [g] w wr)
  case atStart => exact ⟨h0, k0, rfl, rfl, rfl, HN.out, HI.out, HR1.out, HT1.out⟩
  case round =>
    obtain ⟨h, k, rfl, rfl, rfl, hlen, hIk, hrow, hT⟩ := hrel
    have HLN := Lib.hid hlen
    have HIK := Lib.hid hIk
    have HRK := Lib.hid hrow
    have HTK := Lib.hid hT
    clear hlen hIk hrow hT
    by_cases hne : nx h k = k
    · have hz : (nx h k : Int) = k := by rw [hne]
      have HNE := Lib.hid hne
      clear hne
      rw [hz]
      go_wp2_with fail
      refine bodyPost_end (v := .tuple #[]) (by simp [results, Try.results33, go_sem]) rfl ?_
      exact ⟨rfl, h, k, HLN.out, HIK.out, HNE.out, HRK.out, HTK.out⟩
    · obtain ⟨h1, h2, h3, h4⟩ := HS.out.step h k HLN.out HIK.out hne
      have hz : ((nx h k : Int) == (k : Int)) = false := by rw [beq_eq_false_iff_ne]; omega
      have H3 := Lib.hid h3
      have H4 := Lib.hid h4
      clear h3 h4
      generalize nx h k = t at *
      obtain ⟨_, _, e1, hcl, hcm, hg, hk1, hk2⟩ := row_item HRK.out k (by rw [HLN.out]; exact h1)
      obtain ⟨_, _, e2, _, _, _, ht1, ht2⟩ := row_item HRK.out t (by rw [HLN.out]; exact h2)
      injection e1 with e11 e12 e13
      injection e11 with e11
      injection e11 with e11
      subst e11
      subst e13
      injection e2 with e21 e22 e23
      injection e21 with e21
      injection e21 with e21
      subst e21
      subst e23
      have hrd := row_below HRK.out (drew_below wr)
      have htd : Turns [g] w wr.drew := HTK.out.trans (Turns.of_below (F := []) (drew_below wr)) (fun _ h => absurd h (List.not_mem_nil))
      have c := HC.out _ t ((wr.drew.setCell ⟨g, k, none⟩ (.int .i64 (gt h t))).setCell ⟨g, t, none⟩ (.int .i64 (gt h k))) (by rw [swap_len]; exact HLN.out) H3.out (row_set (row_set hrd k _) t _) (turns_set (turns_set htd (List.mem_singleton.2 rfl)) (List.mem_singleton.2 rfl))
      have HRS := Lib.hid (show Row ((wr.drew.setCell ⟨g, k, none⟩ (.int .i64 (gt h t))).setCell ⟨g, t, none⟩ (.int .i64 (gt h k))) (.slice (some ⟨g, 0, none⟩) n cap) (swapL h k t) from row_set (row_set hrd k _) t _)
      have HTS := Lib.hid (turns_set (v := .int .i64 (gt h k)) (i := t) (turns_set (v := .int .i64 (gt h t)) (i := k) htd (List.mem_singleton.2 rfl)) (List.mem_singleton.2 rfl))
      have HLS := Lib.hid (show (swapL h k t).length = n by rw [swap_len]; exact HLN.out)
      clear hcl hcm e12 e22 hg hrd htd
      generalize gt h t = X at *
      generalize gt h k = Y at *
      have hk' : (k : Int) < n := by omega
      have ht' : (t : Int) < n := by omega
      have hne' : ¬ (t : Int) = k := by omega
      go_upto_region 3 with fail
      refine wp_region_held_drew (S := fun _ => True) mixed trivial (fun hS => ?_)
      refine wpAnyH_take (i := 0) (v := ?va0) rfl (by kernel_rfl) (by kernel_rfl) (by kernel_rfl) (fun _ _ _ h => h) (.inl ⟨by rfl, ?ha0⟩) hS ?ra0
      case ha0 =>
        intro w' hs
        (try dsimp only at hs)
        go_split_ands
        go_simp
        try with_reducible rfl
      simp only [List.getElem_toArray, List.getElem_cons_zero, Act.put, List.setIfInBounds_toArray, List.set_cons_zero, List.set_cons_succ]
      refine wpAnyH_take (i := 1) (v := ?va1) rfl (by kernel_rfl) (by kernel_rfl) (by kernel_rfl) (fun _ _ _ h => h) (.inl ⟨by rfl, ?ha1⟩) hS ?ra1
      case ha1 =>
        intro w' hs
        (try dsimp only at hs)
        go_split_ands
        go_simp
        try with_reducible rfl
      simp only [List.getElem_toArray, List.getElem_cons_succ, List.getElem_cons_zero, Act.put, List.setIfInBounds_toArray, List.set_cons_zero, List.set_cons_succ]
      refine wpAnyH_take (i := 2) (v := ?va2) rfl (by kernel_rfl) (by kernel_rfl) (by kernel_rfl) (fun _ _ _ h => h) (.inl ⟨by rfl, ?ha2⟩) hS ?ra2
      case ha2 =>
        intro w' hs
        (try dsimp only at hs)
        go_split_ands
        go_simp
        try with_reducible rfl
      simp only [List.getElem_toArray, List.getElem_cons_succ, List.getElem_cons_zero, Act.put, List.setIfInBounds_toArray, List.set_cons_zero, List.set_cons_succ]
      refine wpAnyH_take (i := 3) (v := ?va3) rfl (by kernel_rfl) (by kernel_rfl) (by kernel_rfl) (fun _ _ _ h => h) (.inl ⟨by rfl, ?ha3⟩) hS ?ra3
      case ha3 =>
        intro w' hs
        (try dsimp only at hs)
        go_split_ands
        go_simp
        try with_reducible rfl
      simp only [List.getElem_toArray, List.getElem_cons_succ, List.getElem_cons_zero, Act.put, List.setIfInBounds_toArray, List.set_cons_zero, List.set_cons_succ]
      refine wpAnyH_take (i := 4) (v := ?va4) rfl (by kernel_rfl) (by kernel_rfl) (by kernel_rfl) (fun _ _ _ h => h) (.inl ⟨by rfl, ?ha4⟩) hS ?ra4
      case ha4 =>
        intro w' hs
        (try dsimp only at hs)
        go_split_ands
        go_simp
        try with_reducible rfl
      simp only [List.getElem_toArray, List.getElem_cons_succ, List.getElem_cons_zero, Act.put, List.setIfInBounds_toArray, List.set_cons_zero, List.set_cons_succ]
      refine wpAnyH_take (i := 5) (v := ?va5) rfl (by kernel_rfl) (by kernel_rfl) (by kernel_rfl) (fun _ _ _ h => h) (.inl ⟨by rfl, ?ha5⟩) hS ?ra5
      case ha5 =>
        intro w' hs
        (try dsimp only at hs)
        go_split_ands
        go_simp
        try with_reducible rfl
      simp only [List.getElem_toArray, List.getElem_cons_succ, List.getElem_cons_zero, Act.put, List.setIfInBounds_toArray, List.set_cons_zero, List.set_cons_succ]
      refine wpAnyH_take (i := 6) (v := ?va6) rfl (by kernel_rfl) (by kernel_rfl) (by kernel_rfl) (fun _ _ _ h => h) (.inl ⟨by rfl, ?ha6⟩) hS ?ra6
      case ha6 =>
        intro w' hs
        (try dsimp only at hs)
        go_split_ands
        go_simp
        try with_reducible rfl
      simp only [List.getElem_toArray, List.getElem_cons_succ, List.getElem_cons_zero, Act.put, List.setIfInBounds_toArray, List.set_cons_zero, List.set_cons_succ]
      refine wpAnyH_take (i := 8) (v := ?va8) rfl (by kernel_rfl) (by kernel_rfl) (by kernel_rfl) (fun _ _ _ h => h) (.inl ⟨by rfl, ?ha8⟩) hS ?ra8
      case ha8 =>
        intro w' hs
        (try dsimp only at hs)
        go_split_ands
        go_simp
        try with_reducible rfl
      simp only [List.getElem_toArray, List.getElem_cons_succ, List.getElem_cons_zero, Act.put, List.setIfInBounds_toArray, List.set_cons_zero, List.set_cons_succ]
      refine wpAnyH_take (i := 9) (v := ?va9) rfl (by kernel_rfl) (by kernel_rfl) (by kernel_rfl) (fun _ _ _ h => h) (.inl ⟨by rfl, ?ha9⟩) hS ?ra9
      case ha9 =>
        intro w' hs
        (try dsimp only at hs)
        go_split_ands
        go_simp
        try with_reducible rfl
      simp only [List.getElem_toArray, List.getElem_cons_succ, List.getElem_cons_zero, Act.put, List.setIfInBounds_toArray, List.set_cons_zero, List.set_cons_succ]
      refine wpAnyH_take (i := 10) (v := ?va10) rfl (by kernel_rfl) (by kernel_rfl) (by kernel_rfl) (fun _ _ _ h => h) (.inl ⟨by rfl, ?ha10⟩) hS ?ra10
      case ha10 =>
        intro w' hs
        (try dsimp only at hs)
        go_split_ands
        go_simp
        try with_reducible rfl
      simp only [List.getElem_toArray, List.getElem_cons_succ, List.getElem_cons_zero, Act.put, List.setIfInBounds_toArray, List.set_cons_zero, List.set_cons_succ]
      refine wpAnyH_ready (rs := [7, 11]) (by kernel_rfl) (by simp) (AllReadyH.cons rfl (fun K hK => ?_) (AllReadyH.cons rfl (fun K hK => ?_) AllReadyH.nil))
      · skip
        go_simp
        refine hK.out _ _ trivial (fun hS => ?_)
        clear hK
        refine wpAnyH_ready (rs := [11]) (by kernel_rfl) (by simp) (AllReadyH.cons rfl (fun K hK => ?_) AllReadyH.nil)
        go_simp
        refine hK.out _ _ trivial (fun hS => ?_)
        clear hK
        refine wpAnyH_take (i := 12) (v := ?vb112) rfl (by kernel_rfl) (by kernel_rfl) (by kernel_rfl) (fun _ _ _ h => h) (.inl ⟨by rfl, ?hb112⟩) hS ?rb112
        case hb112 =>
          intro w' hs
          (try dsimp only at hs)
          go_split_ands
          go_simp
          try with_reducible rfl
        simp only [List.getElem_toArray, List.getElem_cons_succ, List.getElem_cons_zero, Act.put, List.setIfInBounds_toArray, List.set_cons_zero, List.set_cons_succ]

        refine wpAnyH_ready (rs := [13]) (by kernel_rfl) (by simp) (AllReadyH.cons rfl (fun K hK => ?_) AllReadyH.nil)
        go_simp
        refine hK.out _ _ trivial (fun hS => ?_)
        clear hK
        refine wpAnyH_take (i := 14) (v := ?vc114) rfl (by kernel_rfl) (by kernel_rfl) (by kernel_rfl) (fun _ _ _ h => h) (.inl ⟨by rfl, ?hc114⟩) hS ?rc114
        case hc114 =>
          intro w' hs
          (try dsimp only at hs)
          go_split_ands
          go_simp
          try with_reducible rfl
        simp only [List.getElem_toArray, List.getElem_cons_succ, List.getElem_cons_zero, Act.put, List.setIfInBounds_toArray, List.set_cons_zero, List.set_cons_succ]
        refine wpAnyH_ready (rs := [15]) (by kernel_rfl) (by simp) (AllReadyH.cons rfl (fun K hK => ?_) AllReadyH.nil)
        go_simp
        refine hK.out _ _ trivial (fun hS => ?_)
        clear hK
        refine wpAnyH_done (by kernel_rfl) ?_ _
        go_wp2_with fail
        refine c.mono ?_
        rintro e w2 ⟨rfl, b2⟩
        have HR2 := Lib.hid (row_below HRS.out b2)
        have HT2 := Lib.hid (HTS.out.trans (Turns.of_below (F := []) b2) (fun _ h => absurd h (List.not_mem_nil)))
        clear b2 c
        go_wp2_with fail
        go_roundg (mu t)
        case rel => exact ⟨swapL h k t, t, rfl, rfl, rfl, HLS.out, H3.out, HR2.out, HT2.out⟩
        case measure => exact H4.out
      · skip
        go_simp
        refine hK.out _ _ trivial (fun hS => ?_)
        clear hK
        refine wpAnyH_ready (rs := [7]) (by kernel_rfl) (by simp) (AllReadyH.cons rfl (fun K hK => ?_) AllReadyH.nil)
        go_simp
        refine hK.out _ _ trivial (fun hS => ?_)
        clear hK
        refine wpAnyH_take (i := 12) (v := ?vb212) rfl (by kernel_rfl) (by kernel_rfl) (by kernel_rfl) (fun _ _ _ h => h) (.inl ⟨by rfl, ?hb212⟩) hS ?rb212
        case hb212 =>
          intro w' hs
          (try dsimp only at hs)
          go_split_ands
          go_simp
          try with_reducible rfl
        simp only [List.getElem_toArray, List.getElem_cons_succ, List.getElem_cons_zero, Act.put, List.setIfInBounds_toArray, List.set_cons_zero, List.set_cons_succ]

        refine wpAnyH_ready (rs := [13]) (by kernel_rfl) (by simp) (AllReadyH.cons rfl (fun K hK => ?_) AllReadyH.nil)
        go_simp
        refine hK.out _ _ trivial (fun hS => ?_)
        clear hK
        refine wpAnyH_take (i := 14) (v := ?vc214) rfl (by kernel_rfl) (by kernel_rfl) (by kernel_rfl) (fun _ _ _ h => h) (.inl ⟨by rfl, ?hc214⟩) hS ?rc214
        case hc214 =>
          intro w' hs
          (try dsimp only at hs)
          go_split_ands
          go_simp
          try with_reducible rfl
        simp only [List.getElem_toArray, List.getElem_cons_succ, List.getElem_cons_zero, Act.put, List.setIfInBounds_toArray, List.set_cons_zero, List.set_cons_succ]
        refine wpAnyH_ready (rs := [15]) (by kernel_rfl) (by simp) (AllReadyH.cons rfl (fun K hK => ?_) AllReadyH.nil)
        go_simp
        refine hK.out _ _ trivial (fun hS => ?_)
        clear hK
        refine wpAnyH_done (by kernel_rfl) ?_ _
        go_wp2_with fail
        refine c.mono ?_
        rintro e w2 ⟨rfl, b2⟩
        have HR2 := Lib.hid (row_below HRS.out b2)
        have HT2 := Lib.hid (HTS.out.trans (Turns.of_below (F := []) b2) (fun _ h => absurd h (List.not_mem_nil)))
        clear b2 c
        go_wp2_with fail
        go_roundg (mu t)
        case rel => exact ⟨swapL h k t, t, rfl, rfl, rfl, HLS.out, H3.out, HR2.out, HT2.out⟩
        case measure => exact H4.out
end Go.Proofs.Ytpfhaafaoedgpaa.Pl
