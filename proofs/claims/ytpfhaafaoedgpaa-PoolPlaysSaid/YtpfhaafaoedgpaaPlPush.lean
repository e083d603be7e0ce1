/-
  Layer 12: a number put into the heap of free ones.
-/
import Derived.Test.YtpfhaafaoedgpaaPlUp
import Derived.Shelf.Abstract
namespace Go.Proofs.Ytpfhaafaoedgpaa.Pl
open Go Go.RowKit

theorem infoIntP : (Try.prog.info? 3).map (fun i => (i.zero, i.size, i.bytes)) = some (some (.int .i64 0), 1, 8) := by kernel_rfl
def own (v : Value) : List Nat := v.ownBlock.toList
def PushSays (b : Nat) (c0 c1 c2 c3 vf : Value) (fr : List Int) (x : Int) (w : World) (e : Ending) (w' : World) : Prop :=
  e = .returned (.tuple #[]) ∧ ∃ vf' fr', w'.heap[b]? = some (.cells #[c0, c1, c2, c3, vf'] 52 (0, 0)) ∧ Row w' vf' fr' ∧ Heap fr' ∧ fr'.Perm (x :: fr) ∧ (vf'.ownBlock = vf.ownBlock ∨ ∃ g, vf'.ownBlock = some g ∧ w.heap.size ≤ g) ∧ Turns (b :: own vf) w w'

theorem up_sifts (n : Nat) (l : List Int) : Sifts n (fun h k => UpAt h k ∧ h.Perm l) upN id := by
  refine ⟨fun h k hn hI hne => ?_⟩
  obtain ⟨hu, hp⟩ := hI
  have hk : k < n := by have := hu.1; omega
  unfold upN at hne ⊢
  by_cases hlt : gt h k < gt h ((k - 1) / 2)
  · rw [if_pos hlt] at hne ⊢
    have h0 : 0 < k := by omega
    exact ⟨hk, by omega, ⟨up_step hu h0 hlt, (swap_perm h k _ (by omega) (by omega)).trans hp⟩, by show (k - 1) / 2 < k; omega⟩
  · rw [if_neg hlt] at hne
    exact absurd rfl hne
theorem up_stop {h : List Int} {k : Nat} (hu : UpAt h k) (he : upN h k = k) : Heap h := by
  unfold upN at he
  by_cases hlt : gt h k < gt h ((k - 1) / 2)
  · rw [if_pos hlt] at he
    exact up_end hu (.inl (by omega))
  · exact up_end hu (.inr (by omega))
theorem setCell_at {w : World} {b i : Nat} {cs : Array Value} {T : TypeId} {v : Value} (h : w.heap[b]? = some (.cells cs T (0, 0))) : (w.setCell ⟨b, i, none⟩ v).heap[b]? = some (.cells (cs.setIfInBounds i v) T (0, 0)) := heap_setCell_same w b i cs T v h

set_option maxHeartbeats 2000000 in
set_option maxRecDepth 100000 in
theorem push_fn (b : Nat) (c0 c1 c2 c3 vf : Value) (fr : List Int) (x : Int) (w : World) (hb : w.heap[b]? = some (.cells #[c0, c1, c2, c3, vf] 52 (0, 0))) (hr : Row w vf fr) (hh : Heap fr) (h63 : fr.length < 65536) :
    Calls Try.prog 29 #[.pointer (some ⟨b, 4, none⟩), .int .i64 x] w (PushSays b c0 c1 c2 c3 vf fr x w) := by
  have hne := row_ne hr hb
  obtain ⟨aa, mm, cc, rfl⟩ := own_some hr
  have x4 := cell_of hb 4 _ rfl
  have HB := Lib.hid hb
  have HNE := Lib.hid hne
  have HR := Lib.hid hr
  have HH := Lib.hid hh
  have HBL := Lib.hid (lt_of_get hb)
  clear hb hne hr hh
  obtain ⟨n, hn⟩ : ∃ n, n = fr.length := ⟨_, rfl⟩
  have HN := Lib.hid hn
  rw [← hn] at h63
  go_enter Try.func29, Try.ntmps29
  go_wp2_with (at_builtin; go_loud (refine wpList_append_at rfl (.tmp 7) (.tmp 9) 50 rfl 0 3 (.int .i64 0) 8 Try.underlying50 infoIntP rfl (.slice aa mm cc) fr.length (ints fr) rfl HR.out (.int .i64 x) rfl rfl ?l1 ?m1 ?n1 ?_))
  case l1 => exact Nat.le_trans (m := 65536) (by omega) (by decide)
  case m1 => exact Nat.le_trans (Nat.mul_le_mul_right 8 (m := 65536) (by omega)) (by decide)
  case n1 => exact Nat.zero_le _
  intro v1 w1 h1 h2 h3
  have hr1 : Row w1 v1 (fr ++ [x]) := by
    unfold Row
    rw [List.length_append, List.length_singleton, show ints (fr ++ [x]) = ints fr ++ [.int .i64 x] from by unfold ints; rw [List.map_append]; rfl]
    exact h1
  obtain ⟨g, cap, rfl, hcl, hcm, hg, _, _⟩ := row_item hr1 fr.length (by simp)
  have hlen : (fr ++ [x]).length = n + 1 := by rw [List.length_append, List.length_singleton, hn]
  rw [hlen] at hr1 h3 hcl ⊢
  have hb1 : w1.heap[b]? = some (.cells #[c0, c1, c2, c3, .slice aa mm cc] 52 (0, 0)) := by
    rw [h2.block b (by have := HBL.out; simp; omega) (fun e => HNE.out e.symm), heap_alloc_old _ _ HBL.out]
    exact HB.out
  have hgb : g ≠ b := by
    intro e
    subst e
    exact row_ne hr1 hb1 rfl
  have hT1 : Turns (b :: own (.slice aa mm cc)) w w1 := by
    refine ⟨h2.os, h2.tape, h2.output, Nat.le_trans (by simp) h2.size, fun k hk hn => ?_⟩
    rw [h2.block k (by simp; omega) (fun e => hn (List.mem_cons_of_mem _ (by unfold own; rw [← e]; exact List.mem_singleton.2 rfl))), heap_alloc_old _ _ hk]
  have hbx := lt_of_get hb1
  have y4 := cell_of hb1 4 _ rfl
  have z4 := free_of hb1 4
  have hb2 : ((w1.setCell ⟨b, 4, none⟩ (.slice (some ⟨g, 0, none⟩) (n + 1) cap)).alloc (.cells #[.slice (some ⟨g, 0, none⟩) (n + 1) cap] 50)).heap[b]? = some (.cells #[c0, c1, c2, c3, .slice (some ⟨g, 0, none⟩) (n + 1) cap] 52 (0, 0)) :=
    by rw [heap_alloc_old _ _ (by simpa using hbx)]; exact setCell_at (cs := #[c0, c1, c2, c3, .slice aa mm cc]) hb1
  have hbox : ((w1.setCell ⟨b, 4, none⟩ (.slice (some ⟨g, 0, none⟩) (n + 1) cap)).alloc (.cells #[.slice (some ⟨g, 0, none⟩) (n + 1) cap] 50)).heap[w1.heap.size]? = some (.cells #[.slice (some ⟨g, 0, none⟩) (n + 1) cap] 50 (0, 0)) := by
    have := new_block (w1.setCell ⟨b, 4, none⟩ (.slice (some ⟨g, 0, none⟩) (n + 1) cap)) (.cells #[.slice (some ⟨g, 0, none⟩) (n + 1) cap] 50)
    rwa [show (w1.setCell ⟨b, 4, none⟩ (.slice (some ⟨g, 0, none⟩) (n + 1) cap)).heap.size = w1.heap.size from by simp] at this
  have hT2 : Turns [b] w1 ((w1.setCell ⟨b, 4, none⟩ (.slice (some ⟨g, 0, none⟩) (n + 1) cap)).alloc (.cells #[.slice (some ⟨g, 0, none⟩) (n + 1) cap] 50)) := turns_alloc (turns_set (Turns.refl _ _) (List.mem_singleton.2 rfl))
  have hr2 := row_turns hr1 hT2 (fun k hk hm => hgb (by injection hk with hk; exact hk.trans (List.mem_singleton.1 hm)))
  have HT1 := Lib.hid hT1
  have HT2 := Lib.hid hT2
  have HR2 := Lib.hid hr2
  have HB2 := Lib.hid hb2
  have HBX := Lib.hid hbox
  have HG3 := Lib.hid h3
  have HGB := Lib.hid hgb
  have HG := Lib.hid hg
  clear h1 h2 h3 hr1 hb1 hT1 hT2 hr2 hb2 hbox x4 hgb hg hcl hcm hn
  have e0 := IntWalk.i64_in (n : Int) (by omega)
  go_upto_region 2 with fail
  generalize hW : (w1.setCell ⟨b, 4, none⟩ (.slice (some ⟨g, 0, none⟩) (n + 1) cap)).alloc (.cells #[.slice (some ⟨g, 0, none⟩) (n + 1) cap] 50) = w2 at *
  clear hW y4 z4
  have q0 := cell_of HBX.out 0 _ rfl
  have hup := up_new HH.out x
  have c := sift_fn g (n + 1) cap (fr ++ [x]) n w2 35 #[] #[.pointer (some ⟨w1.heap.size, 0, none⟩)] (fun h k => UpAt h k ∧ h.Perm (fr ++ [x])) upN id hlen (by rw [HN.out]; exact ⟨hup, List.Perm.refl _⟩) (up_sifts _ _) HR2.out (enters_of Try.func35 (by kernel_rfl) rfl)
    (fun h k w' hn hI hrow ht => up_fn w1.heap.size g (n + 1) cap h k w' hn (by omega) (by have := hI.1.1; omega) (by
      rw [World.cell?_of_block (w := w2) (ht.block w1.heap.size (lt_of_get HBX.out) (fun hm => absurd (List.mem_singleton.1 hm) (Nat.ne_of_gt HG.out)))]
      exact q0) hrow)
  go_wp2_with fail
  refine c.mono ?_
  rintro e w3 ⟨rfl, h, k, hlh, ⟨hu, hp⟩, hst, hrow, ht⟩
  go_wp2_with fail
  refine bodyPost_end (v := .tuple #[]) (by simp [results, Try.results29, go_sem]) rfl ?_
  refine ⟨rfl, .slice (some ⟨g, 0, none⟩) (n + 1) cap, h, ?_, hrow, up_stop hu hst, hp.trans (List.perm_append_singleton _ _), ?_, ?_⟩
  · rw [ht.block b (lt_of_get HB2.out) (fun hm => HGB.out (List.mem_singleton.1 hm).symm)]
    exact HB2.out
  · rcases HG3.out with h | h
    · exact .inl h
    · exact .inr ⟨g, rfl, by injection h with h; dsimp only at h; omega⟩
  · refine (HT1.out.trans HT2.out (fun z hz => .inl (by rw [List.mem_singleton.1 hz]; exact List.mem_cons_self ..))).trans ht (fun z hz => ?_)
    rw [List.mem_singleton.1 hz]
    rcases HG3.out with h | h
    · exact .inl (List.mem_cons_of_mem _ (by unfold own; rw [← h]; exact List.mem_singleton.2 rfl))
    · exact .inr (by injection h with h; dsimp only at h; omega)
end Go.Proofs.Ytpfhaafaoedgpaa.Pl
