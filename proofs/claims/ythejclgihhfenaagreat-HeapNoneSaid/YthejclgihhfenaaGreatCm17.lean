import Derived.Test.YthejclgihhfenaaGreatCm16
import Derived.Shelf.Abstract
import Derived.LaidEqlPtr
import Derived.Test.YthejclgihhfenaaGreatCm2
import Derived.Test.YthejclgihhfenaaGreatCm7
import Derived.Deep.QuietTactic
import Derived.BigQuiet
import Derived.Deep.LoopGhost
import Derived.WalkSmall
/-
  Layer 12: a number put into the heap of free ones.
-/
namespace Go.Proofs.YthejclgihhfenaaGreat.Pl
open Go Go.RowKit

theorem infoIntP : (Tryz.prog.info? 3).map (fun i => (i.zero, i.size, i.bytes)) = some (some (.int .i64 0), 1, 8) := by kernel_rfl
def own (v : Value) : List Nat := v.ownBlock.toList
def PushSays (b : Nat) (c0 c1 c2 c3 vf : Value) (fr : List Int) (x : Int) (w : World) (e : Ending) (w' : World) : Prop :=
  e = .returned (.tuple #[]) ∧ ∃ vf' fr', w'.heap[b]? = some (.cells #[c0, c1, c2, c3, vf'] 134 (0, 0)) ∧ Row w' vf' fr' ∧ Heap fr' ∧ fr'.Perm (x :: fr) ∧ (vf'.ownBlock = vf.ownBlock ∨ ∃ g, vf'.ownBlock = some g ∧ w.heap.size ≤ g) ∧ Turns (b :: own vf) w w'

theorem up_sifts (n : Nat) (l : List Int) : Sifts n (fun h k => UpAt h k ∧ h.Perm l) upN id := by
  refine ⟨fun h k hn hI hne => ?_⟩
  obtain ⟨hu, hp⟩ := hI
  have hk : k < n := by have := hu.1; omega
  unfold upN at hne ⊢
  by_cases hlt : gt h k < gt h ((k - 1) / 2)
  · rw [if_pos hlt] at hne ⊢
    have h0 : 0 < k := by omega
    exact ⟨hk, by omega, ⟨up_step hu h0 hlt, (swap_perm h k _ (by omega) (by omega)).trans hp⟩, by show (k - 1) / 2 < k; omega⟩
  · rw [if_neg hlt] at hne
    exact absurd rfl hne
theorem up_stop {h : List Int} {k : Nat} (hu : UpAt h k) (he : upN h k = k) : Heap h := by
  unfold upN at he
  by_cases hlt : gt h k < gt h ((k - 1) / 2)
  · rw [if_pos hlt] at he
    exact up_end hu (.inl (by omega))
  · exact up_end hu (.inr (by omega))
theorem setCell_at {w : World} {b i : Nat} {cs : Array Value} {T : TypeId} {v : Value} (h : w.heap[b]? = some (.cells cs T (0, 0))) : (w.setCell ⟨b, i, none⟩ v).heap[b]? = some (.cells (cs.setIfInBounds i v) T (0, 0)) := heap_setCell_same w b i cs T v h

set_option maxHeartbeats 2000000 in
set_option maxRecDepth 100000 in
theorem push_fn (b : Nat) (c0 c1 c2 c3 vf : Value) (fr : List Int) (x : Int) (w : World) (hb : w.heap[b]? = some (.cells #[c0, c1, c2, c3, vf] 134 (0, 0))) (hr : Row w vf fr) (hh : Heap fr) (h63 : fr.length < 65536) :
    Calls Tryz.prog 112 #[.pointer (some ⟨b, 4, none⟩), .int .i64 x] w (PushSays b c0 c1 c2 c3 vf fr x w) := by
  have hne := row_ne hr hb
  obtain ⟨aa, mm, cc, rfl⟩ := own_some hr
  have x4 := cell_of hb 4 _ rfl
  have HB := Lib.hid hb
  have HNE := Lib.hid hne
  have HR := Lib.hid hr
  have HH := Lib.hid hh
  have HBL := Lib.hid (lt_of_get hb)
  clear hb hne hr hh
  obtain ⟨n, hn⟩ : ∃ n, n = fr.length := ⟨_, rfl⟩
  have HN := Lib.hid hn
  rw [← hn] at h63
  go_enter Tryz.func112, Tryz.ntmps112
  go_wp2_with (at_builtin; go_loud (refine wpList_append_at rfl (.tmp 7) (.tmp 9) 132 rfl 0 3 (.int .i64 0) 8 Tryz.underlying132 infoIntP rfl (.slice aa mm cc) fr.length (ints fr) rfl HR.out (.int .i64 x) rfl rfl ?l1 ?m1 ?n1 ?_))
  case l1 => exact Nat.le_trans (m := 65536) (by omega) (by decide)
  case m1 => exact Nat.le_trans (Nat.mul_le_mul_right 8 (m := 65536) (by omega)) (by decide)
  case n1 => exact Nat.zero_le _
  intro v1 w1 h1 h2 h3
  have hr1 : Row w1 v1 (fr ++ [x]) := by
    unfold Row
    rw [List.length_append, List.length_singleton, show ints (fr ++ [x]) = ints fr ++ [.int .i64 x] from by unfold ints; rw [List.map_append]; rfl]
    exact h1
  obtain ⟨g, cap, rfl, hcl, hcm, hg, _, _⟩ := row_item hr1 fr.length (by simp)
  have hlen : (fr ++ [x]).length = n + 1 := by rw [List.length_append, List.length_singleton, hn]
  rw [hlen] at hr1 h3 hcl ⊢
  have hb1 : w1.heap[b]? = some (.cells #[c0, c1, c2, c3, .slice aa mm cc] 134 (0, 0)) := by
    rw [h2.block b (by have := HBL.out; simp; omega) (fun e => HNE.out e.symm), heap_alloc_old _ _ HBL.out]
    exact HB.out
  have hgb : g ≠ b := by
    intro e
    subst e
    exact row_ne hr1 hb1 rfl
  have hT1 : Turns (b :: own (.slice aa mm cc)) w w1 := by
    refine ⟨h2.os, h2.tape, h2.output, Nat.le_trans (by simp) h2.size, fun k hk hn => ?_⟩
    rw [h2.block k (by simp; omega) (fun e => hn (List.mem_cons_of_mem _ (by unfold own; rw [← e]; exact List.mem_singleton.2 rfl))), heap_alloc_old _ _ hk]
  have hbx := lt_of_get hb1
  have y4 := cell_of hb1 4 _ rfl
  have z4 := free_of hb1 4
  have hb2 : ((w1.setCell ⟨b, 4, none⟩ (.slice (some ⟨g, 0, none⟩) (n + 1) cap)).alloc (.cells #[.slice (some ⟨g, 0, none⟩) (n + 1) cap] 132)).heap[b]? = some (.cells #[c0, c1, c2, c3, .slice (some ⟨g, 0, none⟩) (n + 1) cap] 134 (0, 0)) :=
    by rw [heap_alloc_old _ _ (by simpa using hbx)]; exact setCell_at (cs := #[c0, c1, c2, c3, .slice aa mm cc]) hb1
  have hbox : ((w1.setCell ⟨b, 4, none⟩ (.slice (some ⟨g, 0, none⟩) (n + 1) cap)).alloc (.cells #[.slice (some ⟨g, 0, none⟩) (n + 1) cap] 132)).heap[w1.heap.size]? = some (.cells #[.slice (some ⟨g, 0, none⟩) (n + 1) cap] 132 (0, 0)) := by
    have := new_block (w1.setCell ⟨b, 4, none⟩ (.slice (some ⟨g, 0, none⟩) (n + 1) cap)) (.cells #[.slice (some ⟨g, 0, none⟩) (n + 1) cap] 132)
    rwa [show (w1.setCell ⟨b, 4, none⟩ (.slice (some ⟨g, 0, none⟩) (n + 1) cap)).heap.size = w1.heap.size from by simp] at this
  have hT2 : Turns [b] w1 ((w1.setCell ⟨b, 4, none⟩ (.slice (some ⟨g, 0, none⟩) (n + 1) cap)).alloc (.cells #[.slice (some ⟨g, 0, none⟩) (n + 1) cap] 132)) := turns_alloc (turns_set (Turns.refl _ _) (List.mem_singleton.2 rfl))
  have hr2 := row_turns hr1 hT2 (fun k hk hm => hgb (by injection hk with hk; exact hk.trans (List.mem_singleton.1 hm)))
  have HT1 := Lib.hid hT1
  have HT2 := Lib.hid hT2
  have HR2 := Lib.hid hr2
  have HB2 := Lib.hid hb2
  have HBX := Lib.hid hbox
  have HG3 := Lib.hid h3
  have HGB := Lib.hid hgb
  have HG := Lib.hid hg
  clear h1 h2 h3 hr1 hb1 hT1 hT2 hr2 hb2 hbox x4 hgb hg hcl hcm hn
  have e0 := IntWalk.i64_in (n : Int) (by omega)
  go_upto_region 2 with fail
  generalize hW : (w1.setCell ⟨b, 4, none⟩ (.slice (some ⟨g, 0, none⟩) (n + 1) cap)).alloc (.cells #[.slice (some ⟨g, 0, none⟩) (n + 1) cap] 132) = w2 at *
  clear hW y4 z4
  have q0 := cell_of HBX.out 0 _ rfl
  have hup := up_new HH.out x
  have c := sift_fn g (n + 1) cap (fr ++ [x]) n w2 134 #[] #[.pointer (some ⟨w1.heap.size, 0, none⟩)] (fun h k => UpAt h k ∧ h.Perm (fr ++ [x])) upN id hlen (by rw [HN.out]; exact ⟨hup, List.Perm.refl _⟩) (up_sifts _ _) HR2.out (enters_of Tryz.func134 (by kernel_rfl) rfl)
    (fun h k w' hn hI hrow ht => up_fn w1.heap.size g (n + 1) cap h k w' hn (by omega) (by have := hI.1.1; omega) (by
      rw [World.cell?_of_block (w := w2) (ht.block w1.heap.size (lt_of_get HBX.out) (fun hm => absurd (List.mem_singleton.1 hm) (Nat.ne_of_gt HG.out)))]
      exact q0) hrow)
  go_wp2_with fail
  refine c.mono ?_
  rintro e w3 ⟨rfl, h, k, hlh, ⟨hu, hp⟩, hst, hrow, ht⟩
  go_wp2_with fail
  refine bodyPost_end (v := .tuple #[]) (by simp [results, Tryz.results112, go_sem]) rfl ?_
  refine ⟨rfl, .slice (some ⟨g, 0, none⟩) (n + 1) cap, h, ?_, hrow, up_stop hu hst, hp.trans (List.perm_append_singleton _ _), ?_, ?_⟩
  · rw [ht.block b (lt_of_get HB2.out) (fun hm => HGB.out (List.mem_singleton.1 hm).symm)]
    exact HB2.out
  · rcases HG3.out with h | h
    · exact .inl h
    · exact .inr ⟨g, rfl, by injection h with h; dsimp only at h; omega⟩
  · refine (HT1.out.trans HT2.out (fun z hz => .inl (by rw [List.mem_singleton.1 hz]; exact List.mem_cons_self ..))).trans ht (fun z hz => ?_)
    rw [List.mem_singleton.1 hz]
    rcases HG3.out with h | h
    · exact .inl (List.mem_cons_of_mem _ (by unfold own; rw [← h]; exact List.mem_singleton.2 rfl))
    · exact .inr (by injection h with h; dsimp only at h; omega)
end Go.Proofs.YthejclgihhfenaaGreat.Pl

/-
  Layer 12: the least number taken out of the heap of free ones.
-/
namespace Go.Proofs.YthejclgihhfenaaGreat.Pl
open Go Go.RowKit

theorem dn_cases (h : List Int) (k : Nat) : (dnN h k 2 = k ∧ ∀ i, 0 < i → i < h.length → (i - 1) / 2 = k → gt h k ≤ gt h i) ∨
    (k < dnN h k 2 ∧ dnN h k 2 < h.length ∧ (dnN h k 2 - 1) / 2 = k ∧ gt h (dnN h k 2) < gt h k ∧ ∀ i, 0 < i → i < h.length → (i - 1) / 2 = k → gt h (dnN h k 2) ≤ gt h i) := by
  have e1 : dnN h k 1 = if 2 * k + 1 + 0 < h.length ∧ gt h (2 * k + 1 + 0) < gt h k then 2 * k + 1 + 0 else k := rfl
  have e2 : dnN h k 2 = if 2 * k + 1 + 1 < h.length ∧ gt h (2 * k + 1 + 1) < gt h (dnN h k 1) then 2 * k + 1 + 1 else dnN h k 1 := rfl
  have hi : ∀ i, 0 < i → (i - 1) / 2 = k → i = 2 * k + 1 + 0 ∨ i = 2 * k + 1 + 1 := fun i h0 h1 => by omega
  by_cases h1 : 2 * k + 1 + 0 < h.length ∧ gt h (2 * k + 1 + 0) < gt h k
  · rw [if_pos h1] at e1
    rw [e1] at e2
    by_cases h2 : 2 * k + 1 + 1 < h.length ∧ gt h (2 * k + 1 + 1) < gt h (2 * k + 1 + 0)
    · rw [if_pos h2] at e2
      rw [e2]
      refine .inr ⟨by omega, h2.1, by omega, by omega, fun i i0 il ip => ?_⟩
      rcases hi i i0 ip with e | e <;> subst e <;> omega
    · rw [if_neg h2] at e2
      rw [e2]
      refine .inr ⟨by omega, h1.1, by omega, h1.2, fun i i0 il ip => ?_⟩
      rcases hi i i0 ip with e | e <;> subst e
      · omega
      · have : ¬ gt h (2 * k + 1 + 1) < gt h (2 * k + 1 + 0) := fun x => h2 ⟨il, x⟩
        omega
  · rw [if_neg h1] at e1
    rw [e1] at e2
    have g0 : ∀ i, i = 2 * k + 1 + 0 → i < h.length → gt h k ≤ gt h i := fun i e il => by
      subst e
      have : ¬ gt h (2 * k + 1 + 0) < gt h k := fun x => h1 ⟨il, x⟩
      omega
    by_cases h2 : 2 * k + 1 + 1 < h.length ∧ gt h (2 * k + 1 + 1) < gt h k
    · rw [if_pos h2] at e2
      rw [e2]
      refine .inr ⟨by omega, h2.1, by omega, h2.2, fun i i0 il ip => ?_⟩
      rcases hi i i0 ip with e | e
      · have := g0 i e il; omega
      · subst e; omega
    · rw [if_neg h2] at e2
      rw [e2]
      refine .inl ⟨rfl, fun i i0 il ip => ?_⟩
      rcases hi i i0 ip with e | e
      · exact g0 i e il
      · subst e
        have : ¬ gt h (2 * k + 1 + 1) < gt h k := fun x => h2 ⟨il, x⟩
        omega
theorem down_sifts (n : Nat) (l : List Int) : Sifts n (fun h k => (DownAt h k ∧ h.Perm l) ∧ k ≤ n) (fun h k => dnN h k 2) (fun k => n - k) := by
  refine ⟨fun h k hn hI hne => ?_⟩
  obtain ⟨⟨hd, hp⟩, hk⟩ := hI
  rcases dn_cases h k with ⟨h1, _⟩ | ⟨h1, h2, h3, h4, h5⟩
  · exact absurd h1 hne
  · show _ ∧ dnN h k 2 < n ∧ ((DownAt (swapL h k (dnN h k 2)) (dnN h k 2) ∧ _) ∧ dnN h k 2 ≤ n) ∧ n - dnN h k 2 < n - k
    generalize dnN h k 2 = c at *
    have hkn : k < h.length := by omega
    exact ⟨by omega, by omega, ⟨⟨down_step hd hkn (by omega) h2 h3 h4 h5, (swap_perm h k c hkn h2).trans hp⟩, by omega⟩, by omega⟩
theorem down_stop {h : List Int} {k : Nat} (hd : DownAt h k) (he : dnN h k 2 = k) : Heap h := by
  rcases dn_cases h k with ⟨_, h2⟩ | ⟨h1, _⟩
  · exact down_end hd h2
  · omega
theorem slice_to (g n cap k : Nat) (hk : k ≤ n) (hc : n ≤ cap) (w' : World) :
    (Instr.slice 132 (.slice (some ⟨g, 0, none⟩) n cap) none (some (.int .i64 (k : Int))) none).run Tryz.prog w' = .ok (.slice (some ⟨g, 0, none⟩) k cap) w' := by
  have ht : Tryz.prog.underlying 132 = some (.slice (Tryz.prog.elem 132)) := by kernel_rfl
  have hrun := run_slice_h (P := Tryz.prog) w' 132 (some ⟨g, 0, none⟩) n cap ht .i64 (k : Int) (by omega) (by omega)
  have he : Tryz.prog.elem 132 = 3 := by kernel_rfl
  rw [he, sizeInt] at hrun
  rw [hrun]
  simp [Result.andThen, sliced, Addr.add]
theorem row_take {w : World} {g n cap : Nat} {h : List Int} (hr : Row w (.slice (some ⟨g, 0, none⟩) n cap) h) (k : Nat) (hk : k ≤ h.length) : Row w (.slice (some ⟨g, 0, none⟩) k cap) (h.take k) := by
  have hl : (h.take k).length = k := by rw [List.length_take]; omega
  rcases hr.2 with ⟨e, _⟩ | ⟨g', cap', cur, e, hb, hg, hc, hm, hs, ht⟩
  · cases e
  · injection e with e1 e2 e3
    injection e1 with e1
    injection e1 with e1
    subst e1
    subst e2
    subst e3
    refine ⟨by rw [ints_len, hl]; omega, .inr ⟨g, cap, cur, by rw [hl], hb, hg, by rw [hl]; omega, hm, hs, ?_⟩⟩
    rw [hl, Nat.mul_one]
    rw [Nat.mul_one] at ht
    unfold ints at ht ⊢
    rw [List.map_take, ← ht, List.take_take, Nat.min_eq_left hk]
def PopSays (b : Nat) (c0 c1 c2 c3 vf : Value) (fr : List Int) (w : World) (e : Ending) (w' : World) : Prop :=
  e = .returned (.int .i64 (gt fr 0)) ∧ ∃ vf' fr', w'.heap[b]? = some (.cells #[c0, c1, c2, c3, vf'] 134 (0, 0)) ∧ Row w' vf' fr' ∧ Heap fr' ∧ fr.Perm (gt fr 0 :: fr') ∧ vf'.ownBlock = vf.ownBlock ∧ Turns (b :: own vf) w w'

set_option maxHeartbeats 2000000 in
set_option maxRecDepth 100000 in
theorem pop_fn (b : Nat) (c0 c1 c2 c3 vf : Value) (fr : List Int) (w : World) (hb : w.heap[b]? = some (.cells #[c0, c1, c2, c3, vf] 134 (0, 0))) (hr : Row w vf fr) (hh : Heap fr) (h63 : fr.length ≤ 65536) (hpos : 0 < fr.length) :
    Calls Tryz.prog 128 #[.pointer (some ⟨b, 4, none⟩)] w (PopSays b c0 c1 c2 c3 vf fr w) := by
  obtain ⟨n, hn⟩ : ∃ n, n + 1 = fr.length := ⟨fr.length - 1, by omega⟩
  have hne := row_ne hr hb
  obtain ⟨g, cap, rfl, hcl, hcm, hg, y0, _⟩ := row_item hr 0 hpos
  obtain ⟨_, _, e1, _, _, _, yn, _⟩ := row_item hr n (by omega)
  injection e1 with e11 e12 e13
  injection e11 with e11
  injection e11 with e11
  subst e11
  subst e13
  have HN := Lib.hid hn
  rw [← hn] at h63 hcl hr hb hne hpos ⊢
  have x4 := cell_of hb 4 _ rfl
  have HB := Lib.hid hb
  have HNE := Lib.hid hne
  have HR := Lib.hid hr
  have HH := Lib.hid hh
  have HBL := Lib.hid (lt_of_get hb)
  clear hne hh hn e12 hpos
  have HP := Lib.hid (pop_perm (h := fr) (by have := HN.out; omega))
  have HD := Lib.hid (down_new HH.out (gt fr (fr.length - 1)))
  rw [show fr.length - 1 = n by have := HN.out; omega] at HP HD
  obtain ⟨X0, hX0⟩ : ∃ X, gt fr 0 = X := ⟨_, rfl⟩
  obtain ⟨Xn, hXn⟩ : ∃ X, gt fr n = X := ⟨_, rfl⟩
  rw [hX0] at y0 HP
  rw [hXn] at yn HP HD
  have e0 := IntWalk.i64_in (n : Int) (by omega)
  have hgb : g ≠ b := fun e => HNE.out (by rw [← e]; rfl)
  have hT1 : Turns (b :: own (.slice (some ⟨g, 0, none⟩) (n + 1) cap)) w (w.alloc (.cells #[.slice (some ⟨g, 0, none⟩) (n + 1) cap] 132)).drew := (turns_alloc (Turns.refl _ _)).trans (Turns.of_below (F := []) (drew_below _)) (fun _ h => absurd h (List.not_mem_nil))
  have hb1 : (w.alloc (.cells #[.slice (some ⟨g, 0, none⟩) (n + 1) cap] 132)).drew.heap[b]? = some (.cells #[c0, c1, c2, c3, .slice (some ⟨g, 0, none⟩) (n + 1) cap] 134 (0, 0)) := (heap_alloc_old _ _ HBL.out).trans hb
  have hx1 : (w.alloc (.cells #[.slice (some ⟨g, 0, none⟩) (n + 1) cap] 132)).drew.heap[w.heap.size]? = some (.cells #[.slice (some ⟨g, 0, none⟩) (n + 1) cap] 132 (0, 0)) := new_block _ _
  have hr1 := row_turns (h := fr) (v := .slice (some ⟨g, 0, none⟩) (n + 1) cap) (G := []) hr ((turns_alloc (o := .cells #[.slice (some ⟨g, 0, none⟩) (n + 1) cap] 132) (Turns.refl _ _)).trans (Turns.of_below (F := []) (drew_below _)) (fun _ h => absurd h (List.not_mem_nil))) (fun _ _ h => absurd h (List.not_mem_nil))
  have HT1 := Lib.hid hT1
  have HB1 := Lib.hid hb1
  have HX1 := Lib.hid hx1
  have HR1 := Lib.hid hr1
  clear hT1 hb1 hx1 hr1 hb hr
  go_enter Tryz.func128, Tryz.ntmps128
  go_upto_region 1 with fail
  go_region_held3 (fun w' => w'.cell? ⟨b, 4, none⟩ = some (.slice (some ⟨g, 0, none⟩) (n + 1) cap) ∧ w'.cell? ⟨g, 0, none⟩ = some (.int .i64 X0) ∧ w'.cell? ⟨g, n, none⟩ = some (.int .i64 Xn))
    (go_keep)
    (fail)
  generalize (w.alloc (.cells #[.slice (some ⟨g, 0, none⟩) (n + 1) cap] 132)).drew = w1 at *
  have hbl := lt_of_get HB1.out
  have q0 := cell_of HX1.out 0 _ rfl
  have z0 := free_of HX1.out 0
  have y4 := cell_of HB1.out 4 _ rfl
  have z4 := free_of HB1.out 4
  have hgx : g ≠ w.heap.size := by omega
  have hbx : b ≠ w.heap.size := by have := HBL.out; omega
  obtain ⟨_, _, e1, _, _, hg1, u0, v0⟩ := row_item HR1.out 0 (by have := HN.out; omega)
  injection e1 with e11 e12 e13
  injection e11 with e11
  injection e11 with e11
  subst e11
  subst e13
  clear e12
  obtain ⟨_, _, e1, _, _, _, un, _⟩ := row_item HR1.out n (by have := HN.out; omega)
  injection e1 with e11 e12 e13
  injection e11 with e11
  injection e11 with e11
  subst e11
  subst e13
  rw [hX0] at u0
  rw [hXn] at un
  have HX0 := Lib.hid hX0
  have HXn := Lib.hid hXn
  clear hX0 hXn e12 x4 y0 yn
  have l0 : (0 : Int) < (n : Int) + 1 := by omega
  have l1 : (n : Int) < (n : Int) + 1 := by omega
  have hAft : (w1.setCell ⟨g, 0, none⟩ (.int .i64 Xn)).drew.cell? ⟨g, n, none⟩ = some (.int .i64 Xn) := by
    have hrs := row_below (row_set HR1.out 0 Xn) (drew_below _)
    obtain ⟨_, _, e1, _, _, _, un2, _⟩ := row_item hrs n (by rw [List.length_set]; have := HN.out; omega)
    injection e1 with e11 e12 e13
    injection e11 with e11
    injection e11 with e11
    subst e11
    rw [un2, gt_set _ _ _ _ (by have := HN.out; omega)]
    by_cases h0 : n = 0
    · rw [if_pos h0]
    · rw [if_neg h0, HXn.out]
  go_upto_region 3 with fail
  go_region_held3 (fun w' => w'.cell? ⟨w.heap.size, 0, none⟩ = some (.slice (some ⟨g, 0, none⟩) (n + 1) cap) ∧ w'.cell? ⟨g, n, none⟩ = some (.int .i64 Xn))
    (first | go_keep | exact ⟨by go_keep, hAft⟩)
    (fail)
  have hr2 := row_take (row_below (row_set HR1.out 0 Xn) (drew_below _)) n (by rw [List.length_set]; have := HN.out; omega)
  have hsl := slice_to g (n + 1) cap n (by omega) hcl
  have hT2 : Turns [g] w1 (w1.setCell ⟨g, 0, none⟩ (.int .i64 Xn)).drew := (turns_set (Turns.refl _ _) (List.mem_singleton.2 rfl)).trans (Turns.of_below (F := []) (drew_below _)) (fun _ h => absurd h (List.not_mem_nil))
  have hb2 := (hT2.block b hbl (fun h => hgb (List.mem_singleton.1 h).symm)).trans HB1.out
  have hx2 := (hT2.block w.heap.size (lt_of_get HX1.out) (fun h => hgx (List.mem_singleton.1 h).symm)).trans HX1.out
  have HT2 := Lib.hid hT2
  have HB2 := Lib.hid hb2
  have HX2 := Lib.hid hx2
  have HR2 := Lib.hid hr2
  clear hT2 hb2 hx2 hr2 hAft u0 v0 un q0 z0 y4 z4
  generalize (w1.setCell ⟨g, 0, none⟩ (.int .i64 Xn)).drew = w2 at *
  have q0 := cell_of HX2.out 0 _ rfl
  have z0 := free_of HX2.out 0
  have y4 := cell_of HB2.out 4 _ rfl
  have z4 := free_of HB2.out 4
  go_upto_region 6 with fail
  have hb3 : ((w2.setCell ⟨w.heap.size, 0, none⟩ (.slice (some ⟨g, 0, none⟩) n cap)).setCell ⟨b, 4, none⟩ (.slice (some ⟨g, 0, none⟩) n cap)).heap[b]? = some (.cells #[c0, c1, c2, c3, .slice (some ⟨g, 0, none⟩) n cap] 134 (0, 0)) :=
    setCell_at (cs := #[c0, c1, c2, c3, .slice (some ⟨g, 0, none⟩) (n + 1) cap]) (by rw [heap_setCell_other _ _ _ _ (show b ≠ w.heap.size from hbx)]; exact HB2.out)
  have hx3 : ((w2.setCell ⟨w.heap.size, 0, none⟩ (.slice (some ⟨g, 0, none⟩) n cap)).setCell ⟨b, 4, none⟩ (.slice (some ⟨g, 0, none⟩) n cap)).heap[w.heap.size]? = some (.cells #[.slice (some ⟨g, 0, none⟩) n cap] 132 (0, 0)) := by
    rw [heap_setCell_other _ _ _ _ (show w.heap.size ≠ b from hbx.symm)]
    exact setCell_at (cs := #[.slice (some ⟨g, 0, none⟩) (n + 1) cap]) HX2.out
  have hT3 : Turns [b, w.heap.size] w2 ((w2.setCell ⟨w.heap.size, 0, none⟩ (.slice (some ⟨g, 0, none⟩) n cap)).setCell ⟨b, 4, none⟩ (.slice (some ⟨g, 0, none⟩) n cap)) := turns_set (turns_set (Turns.refl _ _) (List.mem_cons_of_mem _ (List.mem_singleton.2 rfl))) (List.mem_cons_self ..)
  have hr3 := row_turns HR2.out hT3 (fun k hk hm => by
    injection hk with hk
    dsimp only at hk
    subst hk
    rcases List.mem_cons.1 hm with h | h
    · exact hgb h
    · exact hgx (List.mem_singleton.1 h))
  have HT3 := Lib.hid hT3
  have HB3 := Lib.hid hb3
  have HX3 := Lib.hid hx3
  have HR3 := Lib.hid hr3
  clear hT3 hb3 hx3 hr3 q0 z0 y4 z4 hsl
  generalize ((w2.setCell ⟨w.heap.size, 0, none⟩ (.slice (some ⟨g, 0, none⟩) n cap)).setCell ⟨b, 4, none⟩ (.slice (some ⟨g, 0, none⟩) n cap)) = w3 at *
  have q0 := cell_of HX3.out 0 _ rfl
  have c := sift_fn g n cap ((fr.set 0 Xn).take n) 0 w3 140 #[] #[.pointer (some ⟨w.heap.size, 0, none⟩)] (fun h k => (DownAt h k ∧ h.Perm ((fr.set 0 Xn).take n)) ∧ k ≤ n) (fun h k => dnN h k 2) (fun k => n - k) (by rw [List.length_take, List.length_set]; have := HN.out; omega) ⟨⟨HD.out, List.Perm.refl _⟩, Nat.zero_le _⟩ (down_sifts _ _) HR3.out (enters_of Tryz.func140 (by kernel_rfl) rfl)
    (fun h k w' hn hI hrow ht => down_fn w.heap.size g n cap h k w' hn (by omega) hI.2 (by
      rw [World.cell?_of_block (w := w3) (ht.block w.heap.size (lt_of_get HX3.out) (fun hm => hgx (List.mem_singleton.1 hm).symm))]
      exact q0) hrow)
  rw [show ((0 : Nat) : Int) = 0 from rfl] at c
  go_wp2_with fail
  refine c.mono ?_
  rintro e w4 ⟨rfl, h, k, hlh, ⟨⟨hu, hp⟩, _⟩, hst, hrow, ht⟩
  have HDS := Lib.hid (down_stop hu hst)
  have HPP := Lib.hid hp
  have HRW := Lib.hid hrow
  have HTT := Lib.hid ht
  clear c hu hst hp hrow ht
  go_wp2_with fail
  go_ret
  refine ⟨ret_int HX0.out.symm, .slice (some ⟨g, 0, none⟩) n cap, h, ?_, HRW.out, HDS.out, ?_, rfl, ?_⟩
  · rw [HTT.out.block b (lt_of_get HB3.out) (fun hm => hgb (List.mem_singleton.1 hm).symm)]
    exact HB3.out
  · rw [HX0.out]
    exact HP.out.symm.trans ((List.perm_append_singleton _ _).trans (HPP.out.symm.cons _))
  · refine ((HT1.out.trans HT2.out (fun z hz => .inl (by rw [List.mem_singleton.1 hz]; exact List.mem_cons_of_mem _ (List.mem_singleton.2 rfl)))).trans HT3.out (fun z hz => ?_)).trans HTT.out (fun z hz => .inl (by rw [List.mem_singleton.1 hz]; exact List.mem_cons_of_mem _ (List.mem_singleton.2 rfl)))
    rcases List.mem_cons.1 hz with h | h
    · exact .inl (by rw [h]; exact List.mem_cons_self ..)
    · exact .inr (by rw [List.mem_singleton.1 h]; exact Nat.le_refl _)
end Go.Proofs.YthejclgihhfenaaGreat.Pl

/-
  Layer 12: the developers' pool: was it made; what is left; what it tells.
-/
namespace Go.Proofs.YthejclgihhfenaaGreat.Pl
open Go Go.RowKit

theorem same_ptr (b : Nat) (w : World) : (binOp .eql 64 (.pointer (some ⟨b, 0, none⟩)) (.pointer (some ⟨b, 0, none⟩))).run Tryz.prog w = .ok (.bool true) w := by
  obtain ⟨j, hj⟩ : ∃ j, Tryz.prog.info? 134 = some j := Option.isSome_iff_exists.1 (show (Tryz.prog.info? 134).isSome = true by kernel_rfl)
  exact run_eql_ptr_same w _ Tryz.underlying64 hj
theorem nil_ptr (b : Nat) (w : World) : (binOp .eql 64 (.pointer none) (.pointer (some ⟨b, 0, none⟩))).run Tryz.prog w = .ok (.bool false) w := by
  have h : ∀ d : Nat, (Op.equalIn (d + 1) 64 (.pointer none) (.pointer (some ⟨b, 0, none⟩))).run Tryz.prog w = .ok false w := fun d => by
    simp [Op.equalIn, run_underlying Tryz.underlying64]
  simp only [binOp]
  simp [Op.equal, Op.maxDepth, h 9999]
theorem made_fn (b : Nat) (w : World) (hb : w.cell? ⟨b, 0, none⟩ = some (.pointer (some ⟨b, 0, none⟩))) :
    Calls Tryz.prog 106 #[.pointer (some ⟨b, 0, none⟩)] w fun e w' => e = .returned (.bool true) ∧ w' = w := by
  have hq := same_ptr b w
  go_enter Tryz.func106, Tryz.ntmps106
  go_wp2_with fail
  go_ret
  exact ⟨rfl, rfl⟩
/-- A pool that is none: nil, or a struct whose pointer to itself is nil. -/
def Dead (w : World) (p : Value) : Prop := p = .pointer none ∨ ∃ b, p = .pointer (some ⟨b, 0, none⟩) ∧ w.cell? ⟨b, 0, none⟩ = some (.pointer none)
theorem Dead.below {w w' : World} {p : Value} (h : Dead w p) (hb : Below w.heap.size w w') : Dead w' p := by
  rcases h with h | ⟨b, h, hc⟩
  · exact .inl h
  · exact .inr ⟨b, h, (hb.cell (p := ⟨b, 0, none⟩) (World.block_lt_of_cell? _ _ hc)).trans hc⟩
theorem made_dead (p : Value) (w : World) (hp : Dead w p) :
    Calls Tryz.prog 106 #[p] w fun e w' => e = .returned (.bool false) ∧ w' = w := by
  rcases hp with rfl | ⟨b, rfl, hc⟩
  · go_enter Tryz.func106, Tryz.ntmps106
    go_wp2_with fail
    go_ret
    exact ⟨rfl, rfl⟩
  · have hq := nil_ptr b w
    go_enter Tryz.func106, Tryz.ntmps106
    go_wp2_with fail
    go_ret
    exact ⟨rfl, rfl⟩
end Go.Proofs.YthejclgihhfenaaGreat.Pl

/-
  Layer 12: the document's pool: what it is asked.
-/
namespace Go.Proofs.YthejclgihhfenaaGreat.Pl
open Go Go.RowKit

/-- The document's pool as a value; its lists lie in blocks of the kind P. -/
def RpV (P : Nat → Prop) (w : World) (v : Value) (p : Rp) : Prop :=
  ∃ vi vs, v = .agg #[.int .i64 p.bound, vi, vs] ∧ LstP P w vi (ints p.ids) ∧ LstP P w vs (ints p.sizes)
theorem RpV.below {P : Nat → Prop} {w w' : World} {v : Value} {p : Rp} (h : RpV P w v p) (hb : Below w.heap.size w w') : RpV P w' v p := by
  obtain ⟨vi, vs, rfl, h1, h2⟩ := h
  exact ⟨vi, vs, rfl, h1.below hb, h2.below hb⟩
theorem RpV.mono {P P' : Nat → Prop} {w : World} {v : Value} {p : Rp} (h : RpV P w v p) (hP : ∀ k, k < w.heap.size → P k → P' k) : RpV P' w v p := by
  obtain ⟨vi, vs, rfl, h1, h2⟩ := h
  exact ⟨vi, vs, rfl, h1.mono hP, h2.mono hP⟩
theorem RpV.turns {F G : List Nat} {w w' : World} {v : Value} {p : Rp} (h : RpV (· ∉ F) w v p) (hb : Turns F w w') (hG : ∀ x ∈ G, x ∈ F ∨ w.heap.size ≤ x) : RpV (· ∉ G) w' v p := by
  obtain ⟨vi, vs, rfl, h1, h2⟩ := h
  exact ⟨vi, vs, rfl, h1.turns hb hG, h2.turns hb hG⟩

end Go.Proofs.YthejclgihhfenaaGreat.Pl

/-
  Layer 12: the document's pool: sizes, how much they are together, a new one.
-/
namespace Go.Proofs.YthejclgihhfenaaGreat.Pl
open Go Go.RowKit

theorem ret_ib {a b : Int} {c d : Bool} (h : a = b) (h' : c = d) : Ending.returned (.tuple #[.int .i64 a, .bool c]) = .returned (.tuple #[.int .i64 b, .bool d]) := by rw [h, h']
end Go.Proofs.YthejclgihhfenaaGreat.Pl
