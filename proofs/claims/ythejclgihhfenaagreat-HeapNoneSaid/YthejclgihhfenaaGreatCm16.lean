import Derived.Test.YthejclgihhfenaaGreatCm15
import Derived.Deep.RegionHeld3
/-
  Layer 12: a row of numbers sifted by whatever function it is handed (written by takes.py out of pl-sift.src).
-/
namespace Go.Proofs.YthejclgihhfenaaGreat.Pl
open Go Go.RowKit

def Enters (f : Nat) : Prop := ∀ args w, (callFunc f args).run Tryz.prog w = .ok (.enter f args) w
def NextSays (x : Nat) (w : World) (e : Ending) (w' : World) : Prop := e = .returned (.int .i64 (x : Int)) ∧ Below w.heap.size w w'
theorem drew_below (w : World) : Below w.heap.size w w.drew := ⟨rfl, rfl, rfl, Nat.le_refl _, fun _ _ => rfl⟩
/-- What is kept where a row of n numbers is sifted from place to place. -/
structure Sifts (n : Nat) (I : List Int → Nat → Prop) (nx : List Int → Nat → Nat) (mu : Nat → Nat) : Prop where
  step : ∀ h k, h.length = n → I h k → nx h k ≠ k → k < n ∧ nx h k < n ∧ I (swapL h k (nx h k)) (nx h k) ∧ mu (nx h k) < mu k
def SiftSays (I : List Int → Nat → Prop) (nx : List Int → Nat → Nat) (g n cap : Nat) (w : World) (e : Ending) (w' : World) : Prop :=
  e = .returned (.tuple #[]) ∧ ∃ h k, h.length = n ∧ I h k ∧ nx h k = k ∧ Row w' (.slice (some ⟨g, 0, none⟩) n cap) h ∧ Turns [g] w w'

set_option maxHeartbeats 2000000 in
set_option maxRecDepth 100000 in
theorem sift_fn (g n cap : Nat) (h0 : List Int) (k0 : Nat) (w : World) (f : Nat) (bound caps : Array Value) (I : List Int → Nat → Prop) (nx : List Int → Nat → Nat) (mu : Nat → Nat)
    (hn : h0.length = n) (hI : I h0 k0) (hS : Sifts n I nx mu) (hr : Row w (.slice (some ⟨g, 0, none⟩) n cap) h0) (he : Enters f)
    (hc : ∀ h k w', h.length = n → I h k → Row w' (.slice (some ⟨g, 0, none⟩) n cap) h → Turns [g] w w' → Calls Tryz.prog f (bound.push (.int .i64 (k : Int)) ++ caps) w' (NextSays (nx h k) w')) :
    Calls Tryz.prog 133 #[.slice (some ⟨g, 0, none⟩) n cap, .int .i64 (k0 : Int), .func (.func f) bound caps] w (SiftSays I nx g n cap w) := by
  have HC := Lib.hid hc
  have HS := Lib.hid hS
  have HI := Lib.hid hI
  have HR := Lib.hid hr
  have HN := Lib.hid hn
  clear hc hS hI hr hn
  unfold Enters at he
  have c := HC.out h0 k0 w HN.out HI.out HR.out (Turns.refl _ _)
  go_enter Tryz.func133, Tryz.ntmps133
  go_wp2_with fail
  refine c.mono ?_
  rintro e w1 ⟨rfl, b1⟩
  have HR1 := Lib.hid (row_below HR.out b1)
  have HT1 := Lib.hid (Turns.of_below (F := [g]) b1)
  clear b1 c
  go_wp2_with fail
  go_loopg [1, 6] (mu k0) (fun r x y wr => ∃ (h : List Int) (k : Nat), r = mu k ∧ x = .int .i64 (k : Int) ∧ y = .int .i64 (nx h k : Int) ∧ h.length = n ∧ I h k ∧ Row wr (.slice (some ⟨g, 0, none⟩) n cap) h ∧ Turns [g] w wr)
  case atStart => exact ⟨h0, k0, rfl, rfl, rfl, HN.out, HI.out, HR1.out, HT1.out⟩
  case round =>
    obtain ⟨h, k, rfl, rfl, rfl, hlen, hIk, hrow, hT⟩ := hrel
    have HLN := Lib.hid hlen
    have HIK := Lib.hid hIk
    have HRK := Lib.hid hrow
    have HTK := Lib.hid hT
    clear hlen hIk hrow hT
    by_cases hne : nx h k = k
    · have hz : (nx h k : Int) = k := by rw [hne]
      have HNE := Lib.hid hne
      clear hne
      rw [hz]
      go_wp2_with fail
      refine bodyPost_end (v := .tuple #[]) (by simp [results, Tryz.results133, go_sem]) rfl ?_
      exact ⟨rfl, h, k, HLN.out, HIK.out, HNE.out, HRK.out, HTK.out⟩
    · obtain ⟨h1, h2, h3, h4⟩ := HS.out.step h k HLN.out HIK.out hne
      have hz : ((nx h k : Int) == (k : Int)) = false := by rw [beq_eq_false_iff_ne]; omega
      have H3 := Lib.hid h3
      have H4 := Lib.hid h4
      clear h3 h4
      generalize nx h k = t at *
      obtain ⟨_, _, e1, hcl, hcm, hg, hk1, hk2⟩ := row_item HRK.out k (by rw [HLN.out]; exact h1)
      obtain ⟨_, _, e2, _, _, _, ht1, ht2⟩ := row_item HRK.out t (by rw [HLN.out]; exact h2)
      injection e1 with e11 e12 e13
      injection e11 with e11
      injection e11 with e11
      subst e11
      subst e13
      injection e2 with e21 e22 e23
      injection e21 with e21
      injection e21 with e21
      subst e21
      subst e23
      have hrd := row_below HRK.out (drew_below wr)
      have htd : Turns [g] w wr.drew := HTK.out.trans (Turns.of_below (F := []) (drew_below wr)) (fun _ h => absurd h (List.not_mem_nil))
      have c := HC.out _ t ((wr.drew.setCell ⟨g, k, none⟩ (.int .i64 (gt h t))).setCell ⟨g, t, none⟩ (.int .i64 (gt h k))) (by rw [swap_len]; exact HLN.out) H3.out (row_set (row_set hrd k _) t _) (turns_set (turns_set htd (List.mem_singleton.2 rfl)) (List.mem_singleton.2 rfl))
      have HRS := Lib.hid (show Row ((wr.drew.setCell ⟨g, k, none⟩ (.int .i64 (gt h t))).setCell ⟨g, t, none⟩ (.int .i64 (gt h k))) (.slice (some ⟨g, 0, none⟩) n cap) (swapL h k t) from row_set (row_set hrd k _) t _)
      have HTS := Lib.hid (turns_set (v := .int .i64 (gt h k)) (i := t) (turns_set (v := .int .i64 (gt h t)) (i := k) htd (List.mem_singleton.2 rfl)) (List.mem_singleton.2 rfl))
      have HLS := Lib.hid (show (swapL h k t).length = n by rw [swap_len]; exact HLN.out)
      clear hcl hcm e12 e22 hg hrd htd
      generalize gt h t = X at *
      generalize gt h k = Y at *
      have hk' : (k : Int) < n := by omega
      have ht' : (t : Int) < n := by omega
      have hne' : ¬ (t : Int) = k := by omega
      go_upto_region 3 with fail
      refine wp_region_held_drew (S := fun _ => True) mixed trivial (fun hS => ?_)
      refine wpAnyH_take (i := 0) (v := ?va0) rfl (by kernel_rfl) (by kernel_rfl) (by kernel_rfl) (fun _ _ _ h => h) (.inl ⟨by rfl, ?ha0⟩) hS ?ra0
      case ha0 =>
        intro w' hs
        (try dsimp only at hs)
        go_split_ands
        go_simp
        try with_reducible rfl
      simp only [List.getElem_toArray, List.getElem_cons_zero, Act.put, List.setIfInBounds_toArray, List.set_cons_zero, List.set_cons_succ]
      refine wpAnyH_take (i := 1) (v := ?va1) rfl (by kernel_rfl) (by kernel_rfl) (by kernel_rfl) (fun _ _ _ h => h) (.inl ⟨by rfl, ?ha1⟩) hS ?ra1
      case ha1 =>
        intro w' hs
        (try dsimp only at hs)
        go_split_ands
        go_simp
        try with_reducible rfl
      simp only [List.getElem_toArray, List.getElem_cons_succ, List.getElem_cons_zero, Act.put, List.setIfInBounds_toArray, List.set_cons_zero, List.set_cons_succ]
      refine wpAnyH_take (i := 2) (v := ?va2) rfl (by kernel_rfl) (by kernel_rfl) (by kernel_rfl) (fun _ _ _ h => h) (.inl ⟨by rfl, ?ha2⟩) hS ?ra2
      case ha2 =>
        intro w' hs
        (try dsimp only at hs)
        go_split_ands
        go_simp
        try with_reducible rfl
      simp only [List.getElem_toArray, List.getElem_cons_succ, List.getElem_cons_zero, Act.put, List.setIfInBounds_toArray, List.set_cons_zero, List.set_cons_succ]
      refine wpAnyH_take (i := 3) (v := ?va3) rfl (by kernel_rfl) (by kernel_rfl) (by kernel_rfl) (fun _ _ _ h => h) (.inl ⟨by rfl, ?ha3⟩) hS ?ra3
      case ha3 =>
        intro w' hs
        (try dsimp only at hs)
        go_split_ands
        go_simp
        try with_reducible rfl
      simp only [List.getElem_toArray, List.getElem_cons_succ, List.getElem_cons_zero, Act.put, List.setIfInBounds_toArray, List.set_cons_zero, List.set_cons_succ]
      refine wpAnyH_take (i := 4) (v := ?va4) rfl (by kernel_rfl) (by kernel_rfl) (by kernel_rfl) (fun _ _ _ h => h) (.inl ⟨by rfl, ?ha4⟩) hS ?ra4
      case ha4 =>
        intro w' hs
        (try dsimp only at hs)
        go_split_ands
        go_simp
        try with_reducible rfl
      simp only [List.getElem_toArray, List.getElem_cons_succ, List.getElem_cons_zero, Act.put, List.setIfInBounds_toArray, List.set_cons_zero, List.set_cons_succ]
      refine wpAnyH_take (i := 5) (v := ?va5) rfl (by kernel_rfl) (by kernel_rfl) (by kernel_rfl) (fun _ _ _ h => h) (.inl ⟨by rfl, ?ha5⟩) hS ?ra5
      case ha5 =>
        intro w' hs
        (try dsimp only at hs)
        go_split_ands
        go_simp
        try with_reducible rfl
      simp only [List.getElem_toArray, List.getElem_cons_succ, List.getElem_cons_zero, Act.put, List.setIfInBounds_toArray, List.set_cons_zero, List.set_cons_succ]
      refine wpAnyH_take (i := 6) (v := ?va6) rfl (by kernel_rfl) (by kernel_rfl) (by kernel_rfl) (fun _ _ _ h => h) (.inl ⟨by rfl, ?ha6⟩) hS ?ra6
      case ha6 =>
        intro w' hs
        (try dsimp only at hs)
        go_split_ands
        go_simp
        try with_reducible rfl
      simp only [List.getElem_toArray, List.getElem_cons_succ, List.getElem_cons_zero, Act.put, List.setIfInBounds_toArray, List.set_cons_zero, List.set_cons_succ]
      refine wpAnyH_take (i := 8) (v := ?va8) rfl (by kernel_rfl) (by kernel_rfl) (by kernel_rfl) (fun _ _ _ h => h) (.inl ⟨by rfl, ?ha8⟩) hS ?ra8
      case ha8 =>
        intro w' hs
        (try dsimp only at hs)
        go_split_ands
        go_simp
        try with_reducible rfl
      simp only [List.getElem_toArray, List.getElem_cons_succ, List.getElem_cons_zero, Act.put, List.setIfInBounds_toArray, List.set_cons_zero, List.set_cons_succ]
      refine wpAnyH_take (i := 9) (v := ?va9) rfl (by kernel_rfl) (by kernel_rfl) (by kernel_rfl) (fun _ _ _ h => h) (.inl ⟨by rfl, ?ha9⟩) hS ?ra9
      case ha9 =>
        intro w' hs
        (try dsimp only at hs)
        go_split_ands
        go_simp
        try with_reducible rfl
      simp only [List.getElem_toArray, List.getElem_cons_succ, List.getElem_cons_zero, Act.put, List.setIfInBounds_toArray, List.set_cons_zero, List.set_cons_succ]
      refine wpAnyH_take (i := 10) (v := ?va10) rfl (by kernel_rfl) (by kernel_rfl) (by kernel_rfl) (fun _ _ _ h => h) (.inl ⟨by rfl, ?ha10⟩) hS ?ra10
      case ha10 =>
        intro w' hs
        (try dsimp only at hs)
        go_split_ands
        go_simp
        try with_reducible rfl
      simp only [List.getElem_toArray, List.getElem_cons_succ, List.getElem_cons_zero, Act.put, List.setIfInBounds_toArray, List.set_cons_zero, List.set_cons_succ]
      refine wpAnyH_ready (rs := [7, 11]) (by kernel_rfl) (by simp) (AllReadyH.cons rfl (fun K hK => ?_) (AllReadyH.cons rfl (fun K hK => ?_) AllReadyH.nil))
      · skip
        go_simp
        refine hK.out _ _ trivial (fun hS => ?_)
        clear hK
        refine wpAnyH_ready (rs := [11]) (by kernel_rfl) (by simp) (AllReadyH.cons rfl (fun K hK => ?_) AllReadyH.nil)
        go_simp
        refine hK.out _ _ trivial (fun hS => ?_)
        clear hK
        refine wpAnyH_take (i := 12) (v := ?vb112) rfl (by kernel_rfl) (by kernel_rfl) (by kernel_rfl) (fun _ _ _ h => h) (.inl ⟨by rfl, ?hb112⟩) hS ?rb112
        case hb112 =>
          intro w' hs
          (try dsimp only at hs)
          go_split_ands
          go_simp
          try with_reducible rfl
        simp only [List.getElem_toArray, List.getElem_cons_succ, List.getElem_cons_zero, Act.put, List.setIfInBounds_toArray, List.set_cons_zero, List.set_cons_succ]

        refine wpAnyH_ready (rs := [13]) (by kernel_rfl) (by simp) (AllReadyH.cons rfl (fun K hK => ?_) AllReadyH.nil)
        go_simp
        refine hK.out _ _ trivial (fun hS => ?_)
        clear hK
        refine wpAnyH_take (i := 14) (v := ?vc114) rfl (by kernel_rfl) (by kernel_rfl) (by kernel_rfl) (fun _ _ _ h => h) (.inl ⟨by rfl, ?hc114⟩) hS ?rc114
        case hc114 =>
          intro w' hs
          (try dsimp only at hs)
          go_split_ands
          go_simp
          try with_reducible rfl
        simp only [List.getElem_toArray, List.getElem_cons_succ, List.getElem_cons_zero, Act.put, List.setIfInBounds_toArray, List.set_cons_zero, List.set_cons_succ]
        refine wpAnyH_ready (rs := [15]) (by kernel_rfl) (by simp) (AllReadyH.cons rfl (fun K hK => ?_) AllReadyH.nil)
        go_simp
        refine hK.out _ _ trivial (fun hS => ?_)
        clear hK
        refine wpAnyH_done (by kernel_rfl) ?_ _
        go_wp2_with fail
        refine c.mono ?_
        rintro e w2 ⟨rfl, b2⟩
        have HR2 := Lib.hid (row_below HRS.out b2)
        have HT2 := Lib.hid (HTS.out.trans (Turns.of_below (F := []) b2) (fun _ h => absurd h (List.not_mem_nil)))
        clear b2 c
        go_wp2_with fail
        go_roundg (mu t)
        case rel => exact ⟨swapL h k t, t, rfl, rfl, rfl, HLS.out, H3.out, HR2.out, HT2.out⟩
        case measure => exact H4.out
      · skip
        go_simp
        refine hK.out _ _ trivial (fun hS => ?_)
        clear hK
        refine wpAnyH_ready (rs := [7]) (by kernel_rfl) (by simp) (AllReadyH.cons rfl (fun K hK => ?_) AllReadyH.nil)
        go_simp
        refine hK.out _ _ trivial (fun hS => ?_)
        clear hK
        refine wpAnyH_take (i := 12) (v := ?vb212) rfl (by kernel_rfl) (by kernel_rfl) (by kernel_rfl) (fun _ _ _ h => h) (.inl ⟨by rfl, ?hb212⟩) hS ?rb212
        case hb212 =>
          intro w' hs
          (try dsimp only at hs)
          go_split_ands
          go_simp
          try with_reducible rfl
        simp only [List.getElem_toArray, List.getElem_cons_succ, List.getElem_cons_zero, Act.put, List.setIfInBounds_toArray, List.set_cons_zero, List.set_cons_succ]

        refine wpAnyH_ready (rs := [13]) (by kernel_rfl) (by simp) (AllReadyH.cons rfl (fun K hK => ?_) AllReadyH.nil)
        go_simp
        refine hK.out _ _ trivial (fun hS => ?_)
        clear hK
        refine wpAnyH_take (i := 14) (v := ?vc214) rfl (by kernel_rfl) (by kernel_rfl) (by kernel_rfl) (fun _ _ _ h => h) (.inl ⟨by rfl, ?hc214⟩) hS ?rc214
        case hc214 =>
          intro w' hs
          (try dsimp only at hs)
          go_split_ands
          go_simp
          try with_reducible rfl
        simp only [List.getElem_toArray, List.getElem_cons_succ, List.getElem_cons_zero, Act.put, List.setIfInBounds_toArray, List.set_cons_zero, List.set_cons_succ]
        refine wpAnyH_ready (rs := [15]) (by kernel_rfl) (by simp) (AllReadyH.cons rfl (fun K hK => ?_) AllReadyH.nil)
        go_simp
        refine hK.out _ _ trivial (fun hS => ?_)
        clear hK
        refine wpAnyH_done (by kernel_rfl) ?_ _
        go_wp2_with fail
        refine c.mono ?_
        rintro e w2 ⟨rfl, b2⟩
        have HR2 := Lib.hid (row_below HRS.out b2)
        have HT2 := Lib.hid (HTS.out.trans (Turns.of_below (F := []) b2) (fun _ h => absurd h (List.not_mem_nil)))
        clear b2 c
        go_wp2_with fail
        go_roundg (mu t)
        case rel => exact ⟨swapL h k t, t, rfl, rfl, rfl, HLS.out, H3.out, HR2.out, HT2.out⟩
        case measure => exact H4.out
end Go.Proofs.YthejclgihhfenaaGreat.Pl

/-
  Layer 12: the two functions by which the free numbers are sifted: up, and down.
-/
namespace Go.Proofs.YthejclgihhfenaaGreat.Pl
open Go Go.RowKit

def upN (h : List Int) (k : Nat) : Nat := if gt h k < gt h ((k - 1) / 2) then (k - 1) / 2 else k
def dnN (h : List Int) (k : Nat) : Nat → Nat
  | 0 => k
  | j + 1 => if 2 * k + 1 + j < h.length ∧ gt h (2 * k + 1 + j) < gt h (dnN h k j) then 2 * k + 1 + j else dnN h k j
theorem dn_le (h : List Int) (k : Nat) (hk : k < h.length) : ∀ j, dnN h k j < h.length
  | 0 => hk
  | j + 1 => by
    have := dn_le h k hk j
    unfold dnN
    split
    · rename_i h1; exact h1.1
    · exact this
theorem dn_stop (h : List Int) (k j : Nat) (hj : h.length ≤ 2 * k + 1 + j) : ∀ i, dnN h k (j + i) = dnN h k j
  | 0 => rfl
  | i + 1 => by
    rw [← dn_stop h k j hj i, ← Nat.add_assoc]
    show (if _ then _ else _) = _
    rw [if_neg (by omega)]
theorem ret_nx {a : Int} {b : Nat} (h : a = (b : Int)) : Ending.returned (Value.int .i64 a) = .returned (.int .i64 (b : Int)) := by rw [h]
set_option maxHeartbeats 1000000 in
theorem up_fn (x g n cap : Nat) (h : List Int) (k : Nat) (w : World) (hn : h.length = n) (h63 : n ≤ 65536) (hk : k < n) (hx : w.cell? ⟨x, 0, none⟩ = some (.slice (some ⟨g, 0, none⟩) n cap)) (hr : Row w (.slice (some ⟨g, 0, none⟩) n cap) h) :
    Calls Tryz.prog 134 #[.int .i64 (k : Int), .pointer (some ⟨x, 0, none⟩)] w (NextSays (upN h k) w) := by
  obtain ⟨_, _, e1, _, _, _, hk1, _⟩ := row_item hr k (by omega)
  obtain ⟨_, _, e2, _, _, _, ht1, _⟩ := row_item hr ((k - 1) / 2) (by omega)
  injection e1 with e11 e12 e13
  injection e11 with e11
  injection e11 with e11
  subst e11
  subst e13
  injection e2 with e21 e22 e23
  injection e21 with e21
  injection e21 with e21
  subst e21
  subst e23
  have q0 : ((k : Int) - 1).tdiv 2 = (((k - 1) / 2 : Nat) : Int) := by
    rcases Nat.eq_zero_or_pos k with h0 | h0
    · subst h0; rfl
    · rw [Int.tdiv_eq_ediv_of_nonneg (by omega)]
      omega
  have e0 := IntWalk.i64_in ((k : Int) - 1) (by omega)
  have e3 := IntWalk.i64_in (((k - 1) / 2 : Nat) : Int) (by omega)
  have HU := Lib.hid (show upN h k = if gt h k < gt h ((k - 1) / 2) then (k - 1) / 2 else k from rfl)
  clear e12 e22 hr
  have hp : (k - 1) / 2 < n := by omega
  generalize upN h k = u at *
  generalize gt h k = A at *
  generalize gt h ((k - 1) / 2) = B at *
  generalize (k - 1) / 2 = p at *
  have hk' : (k : Int) < n := by omega
  have hp' : (p : Int) < n := by omega
  by_cases hlt : A < B
  · go_enter Tryz.func134, Tryz.ntmps134
    go_upto_region 2 with fail
    go_region_held3 (fun w' => w'.cell? ⟨x, 0, none⟩ = some (.slice (some ⟨g, 0, none⟩) n cap) ∧ w'.cell? ⟨g, k, none⟩ = some (.int .i64 A) ∧ w'.cell? ⟨g, p, none⟩ = some (.int .i64 B))
      (go_keep)
      (fail)
    go_wp2_with fail
    go_ret
    exact ⟨ret_nx (by rw [HU.out, if_pos hlt]), drew_below _⟩
  · go_enter Tryz.func134, Tryz.ntmps134
    go_upto_region 2 with fail
    go_region_held3 (fun w' => w'.cell? ⟨x, 0, none⟩ = some (.slice (some ⟨g, 0, none⟩) n cap) ∧ w'.cell? ⟨g, k, none⟩ = some (.int .i64 A) ∧ w'.cell? ⟨g, p, none⟩ = some (.int .i64 B))
      (go_keep)
      (fail)
    go_wp2_with fail
    go_ret
    exact ⟨ret_nx (by rw [HU.out, if_neg (by omega)]), drew_below _⟩

set_option maxHeartbeats 2000000 in
set_option maxRecDepth 100000 in
theorem down_fn (x g n cap : Nat) (h : List Int) (k : Nat) (w : World) (hn : h.length = n) (h63 : n ≤ 65536) (hk : k ≤ n) (hx : w.cell? ⟨x, 0, none⟩ = some (.slice (some ⟨g, 0, none⟩) n cap)) (hr : Row w (.slice (some ⟨g, 0, none⟩) n cap) h) :
    Calls Tryz.prog 140 #[.int .i64 (k : Int), .pointer (some ⟨x, 0, none⟩)] w (NextSays (dnN h k 2) w) := by
  have HR := Lib.hid hr
  have HN := Lib.hid hn
  clear hr hn
  have HX := Lib.hid hx
  clear hx
  have e0 := IntWalk.i64_in (2 * (k : Int)) (by omega)
  have e1 := IntWalk.i64_in (2 * (k : Int) + 1) (by omega)
  have e2 := IntWalk.i64_in (2 * (k : Int) + 2) (by omega)
  go_enter Tryz.func140, Tryz.ntmps140
  go_wp2_with fail
  go_loopg [4, 5] 2 (fun r y z wr => ∃ j : Nat, r = 2 - j ∧ j ≤ 2 ∧ y = .int .i64 (dnN h k j : Int) ∧ z = .int .i64 (2 * (k : Int) + 1 + j) ∧ Below w.heap.size w wr)
  case atStart => exact ⟨0, rfl, by decide, rfl, by go_num, Below.refl _ _⟩
  case round =>
    obtain ⟨j, rfl, hj, rfl, rfl, hb⟩ := hrel
    have HB := Lib.hid hb
    have hx := (hb.cell (p := ⟨x, 0, none⟩) (World.block_lt_of_cell? _ _ HX.out)).trans HX.out
    have hrow := row_below HR.out hb
    have HRW := Lib.hid hrow
    clear hb hrow
    have e3 := IntWalk.i64_in (2 * (k : Int) + 1 + j + 1) (by omega)
    by_cases h2 : j = 2
    · have hgt : ¬ (2 * (k : Int) + 1 + j) ≤ 2 * (k : Int) + 2 := by omega
      have HJ := Lib.hid h2
      clear h2
      go_wp2_with fail
      go_ret
      exact ⟨ret_nx (by rw [HJ.out]), HB.out⟩
    · have hle : (2 * (k : Int) + 1 + j) ≤ 2 * (k : Int) + 2 := by omega
      by_cases hkn : 2 * k + 1 + j < n
      · have hkn' : 2 * (k : Int) + 1 + j < n := by omega
        have hdl := dn_le h k (by have := HN.out; omega) j
        obtain ⟨_, _, f1, _, _, _, hk1, _⟩ := row_item HRW.out (2 * k + 1 + j) (by have := HN.out; omega)
        obtain ⟨_, _, f2, _, _, _, ht1, _⟩ := row_item HRW.out (dnN h k j) hdl
        injection f1 with e11 e12 e13
        injection e11 with e11
        injection e11 with e11
        subst e11
        subst e13
        injection f2 with e21 e22 e23
        injection e21 with e21
        injection e21 with e21
        subst e21
        subst e23
        have hD : dnN h k (j + 1) = if 2 * k + 1 + j < h.length ∧ gt h (2 * k + 1 + j) < gt h (dnN h k j) then 2 * k + 1 + j else dnN h k j := rfl
        have HD := Lib.hid hD
        clear hD
        have hd' : (dnN h k j : Int) < n := by have := HN.out; omega
        have hc1 : h.length = n := HN.out
        have HLT := Lib.hid (show 2 * k + 1 + j < h.length by omega)
        rw [show ((⟨g, 2 * k + 1 + j, none⟩ : Addr)) = ⟨g, 2 * k + 1 + j, none⟩ from rfl] at hk1
        clear e12 e22 hdl hc1
        generalize gt h (2 * k + 1 + j) = A at *
        generalize gt h (dnN h k j) = B at *
        generalize dnN h k j = D at *
        obtain ⟨q, hq⟩ : ∃ q, q = 2 * k + 1 + j := ⟨_, rfl⟩
        have hqz : 2 * (k : Int) + 1 + j = q := by omega
        rw [← hq] at hk1 hkn HD HLT
        rw [hqz] at hkn' hle e3 ⊢
        have HQ := Lib.hid hq
        clear hq hqz
        go_upto_region 5 with fail
        go_region_held3 (fun w' => w'.cell? ⟨x, 0, none⟩ = some (.slice (some ⟨g, 0, none⟩) n cap) ∧ w'.cell? ⟨g, q, none⟩ = some (.int .i64 A) ∧ w'.cell? ⟨g, D, none⟩ = some (.int .i64 B))
          (go_keep)
          (fail)
        have HBD := Lib.hid (HB.out.trans ((drew_below wr).mono HB.out.size))
        by_cases hlt : A < B
        · go_wp2_with fail
          go_roundg (2 - (j + 1))
          case measure => omega
          case rel => exact ⟨j + 1, rfl, by omega, by rw [HD.out, if_pos ⟨HLT.out, hlt⟩], congrArg (Value.int .i64) (by have := HQ.out; omega), HBD.out⟩
        · go_wp2_with fail
          go_roundg (2 - (j + 1))
          case measure => omega
          case rel => exact ⟨j + 1, rfl, by omega, by rw [HD.out, if_neg (fun h => by have := h.2; omega)], congrArg (Value.int .i64) (by have := HQ.out; omega), HBD.out⟩
      · have hkn' : ¬ 2 * (k : Int) + 1 + j < n := by omega
        go_wp2_with fail
        go_ret
        exact ⟨ret_nx (by rw [← dn_stop h k j (by have := HN.out; omega) (2 - j), show j + (2 - j) = 2 by omega]), HB.out⟩
end Go.Proofs.YthejclgihhfenaaGreat.Pl
