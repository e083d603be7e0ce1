/-
  Layer 9: slices.Repeat of one number.
-/
import Derived.Test.YtnnjkejejlhkdaaDoorRtHang2
import Derived.Test.YtnnjkejejlhkdaaDoorShelf
import Derived.Laws.CopyOwn
import Derived.Deep.RegionHeld3
namespace Go.Proofs.YtnnjkejejlhkdaaDoor.Rt
open Go Go.RowKit

/-- N cells, k of them filled. -/
def rowR (N k : Nat) : List Value := List.replicate k (.int .i64 (-1)) ++ List.replicate (N - k) (.int .i64 0)
theorem rowR_len {N k : Nat} (h : k ≤ N) : (rowR N k).length = N := by unfold rowR; simp; omega
theorem rowR_splice {N k m : Nat} (h : k + m ≤ N) : splice (rowR N k) k (List.replicate m (.int .i64 (-1))) = rowR N (k + m) := by
  unfold splice rowR
  rw [List.take_append_of_le_length (by simp), List.take_of_length_le (by simp), List.length_replicate, List.drop_append, List.length_replicate, List.drop_of_length_le (by simp), List.nil_append, List.drop_replicate, ← List.append_assoc, List.replicate_append_replicate]
  congr 2
  omega

theorem infoInt : (Tryd.prog.info? 3).map (fun i => (i.zero, i.size, i.bytes)) = some (some (.int .i64 0), 1, 8) := by kernel_rfl
theorem made_ints (n : Nat) : madeCells #[Value.int .i64 0] n = (rowR n 0).toArray := by
  unfold madeCells rowR
  apply Array.ext
  · simp
  · intro i h1 h2
    simp [Nat.mod_one]
theorem make_ints (N : Nat) (hN : N ≤ 1000000) (W : World) : (Instr.makeSlice 39 (.int .i64 (N : Int)) (.int .i64 (N : Int))).run Tryd.prog W = .ok (.slice (some ⟨W.heap.size, 0, none⟩) N N) (W.alloc (.cells (rowR N 0).toArray 3)) := by
  obtain ⟨iB, hiB, hzB, hsB, hbB⟩ := info_parts infoInt
  have := run_make (P := Tryd.prog) W 39 3 iB (.int .i64 0) Tryd.underlying39 hiB hzB .i64 .i64 (N : Int) (N : Int) (by omega) (by omega) (by rw [hbB]; omega) (by omega)
  rw [hsB] at this
  simp only [Int.toNat_natCast, Nat.mul_one] at this
  rw [this, ← made_ints]
  rfl

theorem copy_fill {w : World} (g k N dl dc : Nat) (ad : Addr) (sl sc m : Nat) (hg : w.heap[g]? = some (.cells (rowR N k).toArray 3 (0, 0))) (hm : m = Nat.min sl dl) (hk : k + m ≤ N) (hsrc : ∀ j, j < m → w.cell? (ad.add j) = some (.int .i64 (-1))) :
    (Builtin.copy_ #[39, 39] 3 #[.slice (some ⟨g, k, none⟩) dl dc, .slice (some ad) sl sc]).run Tryd.prog w = .ok (.int .i64 (m : Int)) (w.setRow g (rowR N (k + m)).toArray) := by
  have h := run_copy_row (P := Tryd.prog) w 39 39 3 3 g k dl dc ad sl sc (rowR N k).toArray 3 (List.replicate m (.int .i64 (-1))) Tryd.underlying39 (by kernel_rfl) hg (by rw [List.length_replicate]; exact hm) (fun j v hv => by
    rw [List.getElem?_replicate] at hv
    split at hv
    · rename_i hj
      injection hv with hv; rw [← hv]; exact hsrc j hj
    · cases hv) (by rw [List.length_replicate, List.size_toArray, rowR_len (by omega)]; exact hk) (fun v hv => by rw [(List.mem_replicate.1 hv).2]; rfl)
  rw [h, List.length_replicate]
  have e := rowR_splice hk
  unfold splice at e
  rw [List.length_replicate] at e
  rw [← e, List.append_assoc]
  rfl

set_option maxHeartbeats 4000000 in
set_option maxRecDepth 100000 in
theorem repeat_fn (g0 N : Nat) (hN : N ≤ 1000) (w : World) (h0 : w.cell? ⟨g0, 0, none⟩ = some (.int .i64 (-1))) :
    Calls Tryd.prog 30 #[.slice (some ⟨g0, 0, none⟩) 1 1, .int .i64 (N : Int)] w fun e w' => ∃ g, w.heap.size ≤ g ∧ e = .returned (.slice (some ⟨g, 0, none⟩) N N) ∧ w'.heap[g]? = some (.cells (rowR N N).toArray 3 (0, 0)) ∧ Below w.heap.size w w' := by
  have hmul := fun w => Tryd.bits_Mul 1 N (by omega) (by omega) w
  have e1 : 1 * N / 18446744073709551616 = 0 := by omega
  have e2 : 1 * N % 18446744073709551616 = N := by omega
  rw [e1, e2] at hmul
  clear e1 e2
  have hmul : ∀ w, Calls Tryd.prog 50 #[.int .u64 1, .int .u64 (N : Int)] w fun e w' => e = .returned (.tuple #[.int .u64 0, .int .u64 (N : Int)]) ∧ w' = w := hmul
  have hmk := make_ints N (by omega) w
  have hw1 : IntKind.u64.wrap (N : Int) = N := by show ((N : Int)).emod 18446744073709551616 = N; exact Int.emod_eq_of_lt (by omega) (by omega)
  have hw2 : IntKind.i64.wrap (N : Int) = N := Go.IntWalk.i64_in _ (by omega)
  obtain ⟨w1, hw1d⟩ : ∃ w1, w1 = w.alloc (.cells (rowR N 0).toArray 3) := ⟨_, rfl⟩
  rw [← hw1d] at hmk
  have hb0 : Below w.heap.size w w1 := by rw [hw1d]; exact (Below.refl w.heap.size w).alloc (Nat.le_refl _) _
  have hg0 : w1.heap[w.heap.size]? = some (.cells (rowR N 0).toArray 3 (0, 0)) := by rw [hw1d]; exact new_block _ _
  have hs0 : w1.cell? ⟨g0, 0, none⟩ = some (.int .i64 (-1)) := by
    rw [hb0.cell (p := ⟨g0, 0, none⟩) (World.block_lt_of_cell? w _ h0)]; exact h0
  obtain ⟨m, hm⟩ : ∃ m, m = min 1 N := ⟨_, rfl⟩
  have hc1 := copy_fill (w := w1) w.heap.size 0 N N N ⟨g0, 0, none⟩ 1 1 m hg0 hm (by omega) (fun j hj => by
    obtain rfl : j = 0 := by omega
    exact hs0)
  rw [Nat.zero_add] at hc1
  obtain ⟨w2, hw2d⟩ : ∃ w2, w2 = w1.setRow w.heap.size (rowR N m).toArray := ⟨_, rfl⟩
  rw [← hw2d] at hc1
  have hb2 : Below w.heap.size w w2 := by rw [hw2d]; exact below_setRow hb0 (Nat.le_refl _) _
  have hg2 : w2.heap[w.heap.size]? = some (.cells (rowR N m).toArray 3 (0, 0)) := by rw [hw2d]; exact setRow_heap w1 _ _ _ _ _ hg0
  have HB2 := Lib.hid hb2
  have HG2 := Lib.hid hg2
  have hmN : m ≤ N := by omega
  have hmp : 0 < N → 0 < m := by omega
  have HMP := Lib.hid hmp
  clear hb0 hg0 hs0 hb2 hg2 h0 hw1d hw2d hm hmp
  go_enter Tryd.func30, Tryd.ntmps30
  go_wp2_with fail
  refine (hmul _).mono ?_
  rintro e w' ⟨rfl, rfl⟩
  have hN63 : ¬ (9223372036854775807 : Int) < (N : Int) := by omega
  clear hmul
  go_wp2_with fail
  clear hc1 hmk
  go_loopg [8] (N - m) (fun r x wr => ∃ k : Nat, r = N - k ∧ x = .int .i64 (k : Int) ∧ k ≤ N ∧ (0 < N → 0 < k) ∧ wr.heap[w'.heap.size]? = some (.cells (rowR N k).toArray 3 (0, 0)) ∧ Below w'.heap.size w' wr)
  case atStart => exact ⟨m, rfl, rfl, hmN, HMP.out, HG2.out, HB2.out⟩
  case round =>
    obtain ⟨k, rfl, rfl, hk, hpos, hgk, hbk⟩ := hrel
    have HBK := Lib.hid hbk
    by_cases hlt : k < N
    · have hlt' : (k : Int) < N := by omega
      have hkp := hpos (by omega)
      have hNk : ¬ N = k := by omega
      obtain ⟨q, hq⟩ : ∃ q, q = Nat.min k (N - k) := ⟨_, rfl⟩
      have hq1 : 0 < q := by rw [hq]; show 0 < min k (N - k); omega
      have hq2 : k + q ≤ N := by rw [hq]; show k + min k (N - k) ≤ N; omega
      have hc := copy_fill (w := wr.drew) w'.heap.size k N (N - k) (N - k) ⟨w'.heap.size, 0, none⟩ k N q hgk hq hq2 (fun j hj => by
        have hqk : q ≤ k := by rw [hq]; exact Nat.min_le_left _ _
        rw [show (⟨w'.heap.size, 0, none⟩ : Addr).add j = ⟨w'.heap.size, j, none⟩ from by simp [Addr.add]; intro h; exact h.symm]
        refine cell_of (w := wr.drew) hgk j _ ?_
        unfold rowR
        rw [List.getElem?_toArray, List.getElem?_append_left (by simp; omega), List.getElem?_replicate, if_pos (by omega)])
      obtain ⟨w3, hw3⟩ : ∃ w3, w3 = wr.drew.setRow w'.heap.size (rowR N (k + q)).toArray := ⟨_, rfl⟩
      rw [← hw3] at hc
      have HB3 := Lib.hid (show Below w'.heap.size w' w3 by rw [hw3]; exact below_setRow hbk.drew (Nat.le_refl _) _)
      have HG3 := Lib.hid (show w3.heap[w'.heap.size]? = some (.cells (rowR N (k + q)).toArray 3 (0, 0)) by rw [hw3]; exact setRow_heap wr.drew _ _ _ _ _ hgk)
      have hwq : IntKind.i64.wrap ((k : Int) + q) = k + q := Go.IntWalk.i64_in _ (by omega)
      clear hgk hbk hpos hw3 hq
      go_wp2_with fail
      refine wp_region_held_drew (S := fun _ => True) (by kernel_rfl) trivial (fun hS => ?_)
      refine wpAnyH_take (i := 0) (v := ?v0) rfl (by kernel_rfl) (by kernel_rfl) (by kernel_rfl) (fun _ _ _ h => h) (.inl ⟨by rfl, ?h0⟩) hS ?r0
      case h0 =>
        intro w' hs
        go_simp
        try with_reducible rfl
      simp only [List.getElem_toArray, List.getElem_cons_zero, Act.put, List.setIfInBounds_toArray, List.set_cons_zero, List.set_cons_succ]
      refine wpAnyH_take (i := 1) (v := ?v1) rfl (by kernel_rfl) (by kernel_rfl) (by kernel_rfl) (fun _ _ _ h => h) (.inl ⟨by rfl, ?h1⟩) hS ?r1
      case h1 =>
        intro w' hs
        go_simp
        try with_reducible rfl
      simp only [List.getElem_toArray, List.getElem_cons_succ, List.getElem_cons_zero, Act.put, List.setIfInBounds_toArray, List.set_cons_zero, List.set_cons_succ]
      refine wpAnyH_take (i := 2) (v := ?v2) rfl (by kernel_rfl) (by kernel_rfl) (by kernel_rfl) (fun _ _ _ h => h) (.inl ⟨by rfl, ?h2⟩) hS ?r2
      case h2 =>
        intro w' hs
        go_simp
        try with_reducible rfl
      simp only [List.getElem_toArray, List.getElem_cons_succ, List.getElem_cons_zero, Act.put, List.setIfInBounds_toArray, List.set_cons_zero, List.set_cons_succ]
      refine wpAnyH_take (i := 3) (v := ?v3) rfl (by kernel_rfl) (by kernel_rfl) (by kernel_rfl) (fun _ _ _ h => h) (.inl ⟨by rfl, ?h3⟩) hS ?r3
      case h3 =>
        intro w' hs
        go_simp
        try with_reducible rfl
      simp only [List.getElem_toArray, List.getElem_cons_succ, List.getElem_cons_zero, Act.put, List.setIfInBounds_toArray, List.set_cons_zero, List.set_cons_succ]
      refine wpAnyH_take (i := 4) (v := ?v4) rfl (by kernel_rfl) (by kernel_rfl) (by kernel_rfl) (fun _ _ _ h => h) (.inl ⟨by rfl, ?h4⟩) hS ?r4
      case h4 =>
        intro w' hs
        go_simp
        try with_reducible rfl
      simp only [List.getElem_toArray, List.getElem_cons_succ, List.getElem_cons_zero, Act.put, List.setIfInBounds_toArray, List.set_cons_zero, List.set_cons_succ]
      refine wpAnyH_take (i := 5) (v := ?v5) rfl (by kernel_rfl) (by kernel_rfl) (by kernel_rfl) (fun _ _ _ h => h) (.inl ⟨by rfl, ?h5⟩) hS ?r5
      case h5 =>
        intro w' hs
        go_simp
        try with_reducible rfl
      simp only [List.getElem_toArray, List.getElem_cons_succ, List.getElem_cons_zero, Act.put, List.setIfInBounds_toArray, List.set_cons_zero, List.set_cons_succ]
      refine wpAnyH_take (i := 6) (v := ?v6) rfl (by kernel_rfl) (by kernel_rfl) (by kernel_rfl) (fun _ _ _ h => h) (.inl ⟨by rfl, ?h6⟩) hS ?r6
      case h6 =>
        intro w' hs
        go_simp
        try with_reducible rfl
      simp only [List.getElem_toArray, List.getElem_cons_succ, List.getElem_cons_zero, Act.put, List.setIfInBounds_toArray, List.set_cons_zero, List.set_cons_succ]
      refine wpAnyH_ready (rs := [7]) (by kernel_rfl) (by simp) (AllReadyH.cons rfl (fun K hK => ?_) AllReadyH.nil)
      go_simp
      refine hK.out _ _ trivial (fun hS => ?_)
      clear hK
      refine wpAnyH_take (i := 8) (v := ?v8) rfl (by kernel_rfl) (by kernel_rfl) (by kernel_rfl) (fun _ _ _ h => h) (.inl ⟨by rfl, ?h8⟩) hS ?r8
      case h8 =>
        intro w' hs
        go_simp
        try with_reducible rfl
      simp only [List.getElem_toArray, List.getElem_cons_succ, List.getElem_cons_zero, Act.put, List.setIfInBounds_toArray, List.set_cons_zero, List.set_cons_succ]
      refine wpAnyH_take (i := 9) (v := ?v9) rfl (by kernel_rfl) (by kernel_rfl) (by kernel_rfl) (fun _ _ _ h => h) (.inl ⟨by rfl, ?h9⟩) hS ?r9
      case h9 =>
        intro w' hs
        go_simp
        try with_reducible rfl
      simp only [List.getElem_toArray, List.getElem_cons_succ, List.getElem_cons_zero, Act.put, List.setIfInBounds_toArray, List.set_cons_zero, List.set_cons_succ]
      refine wpAnyH_done (by kernel_rfl) ?_ _
      go_wp2_with fail
      go_roundg (N - (k + q))
      case rel => exact ⟨k + q, rfl, congrArg (Value.int .i64) (by omega), hq2, fun _ => by omega, HG3.out, HB3.out⟩
      case measure => omega
    · obtain rfl : k = N := by omega
      clear hpos
      have HGK := Lib.hid hgk
      clear hgk hbk
      go_wp2_with fail
      go_ret
      exact ⟨_, Nat.le_refl _, rfl, HGK.out, HBK.out⟩

end Go.Proofs.YtnnjkejejlhkdaaDoor.Rt
