/-
  Layer 9: arounds.
-/
import Derived.Test.YtnnjkejejlhkdaaDoorRtUp
import Derived.Test.YtnnjkejejlhkdaaDoorRtAreJ
namespace Go.Proofs.YtnnjkejejlhkdaaDoor.Rt
open Go Go.RowKit

set_option maxHeartbeats 4000000 in
set_option maxRecDepth 100000 in
theorem arp_fn (B ba g N n : Nat) (ar : List Int) (ps : List Pr) (hn : n < ps.length) (cs : Array Value) (w : World) (h : ArAt ba g N ar w) (he : PrC B w cs ps[n]) (h7 : ∀ e ∈ ps[n].exprs, e.k = 7 → 0 ≤ e.n ∧ e.n < N) (hB : B ≤ g) (hBw : B ≤ w.heap.size) :
    Calls Tryd.prog 31 #[.int .i64 (n : Int), .agg cs, .pointer (some ⟨ba, 0, none⟩)] w (fun r w' => StepSays B (arProto ps n ar) (fun ar' w' => ArAt ba g N ar' w') w r w' ∧ Only g w w') := by
  have hmf := run_mf
  unfold arProto
  rw [List.getElem?_eq_getElem hn]
  dsimp only
  obtain ⟨vb, vu, vs, ve, rfl, q1, q2, q3, q4, _⟩ := he
  obtain ⟨ab, cb, rfl, _⟩ := q1.slice
  obtain ⟨au, cu, rfl, _⟩ := q2.slice
  obtain ⟨at5, ct5, rfl, _⟩ := q3.slice
  have HQ := Lib.hid q4
  obtain ⟨ae, ce, rfl, _⟩ := q4.slice
  generalize ps[n] = f at *
  obtain ⟨A, hA⟩ : ∃ A, A = Obj.cells #[.int .i64 (n : Int)] 3 (0, 0) := ⟨_, rfl⟩
  obtain ⟨F, hF⟩ : ∃ F, F = Obj.cells #[.int .i64 f.params, .bool f.more, .int .i64 f.slots, .slice ab (bools f.boxed).length cb, .slice au f.ups.length cu, .slice at5 f.stmts.length ct5, .slice ae f.exprs.length ce, .int .i64 f.start] 35 (0, 0) := ⟨_, rfl⟩
  obtain ⟨t0, t1, hb⟩ := two w A F
  have hbB := hb.mono hBw
  have hsz2 : ((w.alloc A).alloc F).heap.size = w.heap.size + 1 + 1 := by simp
  have hgw := lt_of_get h.2.2.2
  have hT : IntAt w.heap.size n ((w.alloc A).alloc F) := by unfold IntAt; rw [t0, hA]
  have c := allJ_ex B ((w.alloc A).alloc F) (.slice ae f.exprs.length ce) f.exprs 32 #[] #[.pointer (some ⟨w.heap.size, 0, none⟩), .pointer (some ⟨ba, 0, none⟩)] (arStep n f.exprs) (fun ar' w' => ArAt ba g N ar' w') ar (fun w' => IntAt w.heap.size n w' ∧ Only g w w') (HQ.out.below hbB (fun _ _ h => h.below hbB)) (Nat.le_trans hBw hb.size) (enters_of Tryd.func32 (by kernel_rfl) rfl)
    (fun _ _ _ h hb => h.below hb) (fun _ _ h hb => ⟨at_below h.1 hb, h.2.trans (Only.of_below hb)⟩)
    (fun i hi s w' cs _ hsz hI _ hJ he => (ar1_fn B ba g N w.heap.size n s f.exprs i hi cs w' hI hJ.1 he (h7 _ (List.getElem_mem hi)) hB (by omega)).mono fun _ _ q => ⟨q.1, q.2.at' hJ.1 (by omega), hJ.2.trans q.2⟩)
    (h.below hb) ⟨hT, Only.of_below hb⟩
  have HB := Lib.hid hbB
  generalize runN (arStep n f.exprs) f.exprs.length ar = R at *
  clear t0 t1 hb hbB hT h q1 q2 q3 q4 h7
  subst hA hF
  go_enter Tryd.func31, Tryd.ntmps31
  go_wp2_with fail
  refine c.mono ?_
  rintro e w1 ⟨hE, _, ho⟩
  obtain ⟨b1, hsz, rfl, hI⟩ := areSays_step hE
  have B1 := Lib.hid (HB.out.trans b1)
  have SZ := Lib.hid hsz
  have HI := Lib.hid hI
  have HO := Lib.hid ho
  clear b1 hsz hI hE c ho
  go_wp2_with fail
  go_ret
  exact ⟨⟨B1.out, by have := SZ.out; omega, rfl, HI.out⟩, HO.out⟩

theorem rowR_full (N : Nat) : rowR N N = ints (List.replicate N (-1)) := by
  unfold rowR ints
  rw [Nat.sub_self, List.replicate_zero, List.append_nil, List.map_replicate]

set_option maxHeartbeats 4000000 in
set_option maxRecDepth 100000 in
theorem arounds_fn (B : Nat) (v : Value) (ps : List Pr) (w : World) (hv : RowsB 8 (PrC B w) B w v ps) (hBw : B ≤ w.heap.size) (hN : ps.length ≤ 1000) (h7 : ∀ f ∈ ps, ∀ e ∈ f.exprs, e.k = 7 → 0 ≤ e.n ∧ e.n < ps.length) :
    Calls Tryd.prog 19 #[v] w fun e w' => ∃ g, e = .returned (.tuple #[.slice (some ⟨g, 0, none⟩) ps.length ps.length, .bool (aroundsO ps).isSome]) ∧ Below w.heap.size w w' ∧ ∀ ar, aroundsO ps = some ar → ar.length = ps.length ∧ w'.heap[g]? = some (.cells (ints ar).toArray 3 (0, 0)) := by
  have hmf := run_mf
  have HV := Lib.hid hv
  obtain ⟨a0, c0, rfl, hl⟩ := hv.slice
  have hb0 := (Below.refl w.heap.size w).alloc (Nat.le_refl _) (.cells #[.int .i64 (-1)] 3)
  have hnb := new_block w (.cells #[.int .i64 (-1)] 3)
  have cr := repeat_fn w.heap.size ps.length hN _ (cell_of hnb 0 _ rfl)
  have HB0 := Lib.hid hb0
  obtain ⟨N, hNN⟩ : ∃ N, N = ps.length := ⟨_, rfl⟩
  have hc : ∀ w2 g, Below w.heap.size w w2 → w.heap.size ≤ g → w2.heap[g]? = some (.cells (rowR ps.length ps.length).toArray 3 (0, 0)) → Below w.heap.size w (w2.alloc (.cells #[.slice (some ⟨g, 0, none⟩) ps.length ps.length] 39)) ∧ Calls Tryd.prog 20 #[.slice a0 ps.length c0, .func (.func 31) #[] #[.pointer (some ⟨w2.heap.size, 0, none⟩)]] (w2.alloc (.cells #[.slice (some ⟨g, 0, none⟩) ps.length ps.length] 39)) (fun r w4 => AreSays w.heap.size true (aroundsO ps) (fun ar w3 => ArAt w2.heap.size g ps.length ar w3) (w2.alloc (.cells #[.slice (some ⟨g, 0, none⟩) ps.length ps.length] 39)) r w4 ∧ w4.cell? ⟨w2.heap.size, 0, none⟩ = some (.slice (some ⟨g, 0, none⟩) ps.length ps.length)) := fun w2 g hb hg hgc => by
    have hb2 := hb.alloc hb.size (.cells #[.slice (some ⟨g, 0, none⟩) ps.length ps.length] 39)
    have hgl := lt_of_get hgc
    refine ⟨hb2, ?_⟩
    have hA : ArAt w2.heap.size g ps.length (List.replicate ps.length (-1)) (w2.alloc (.cells #[.slice (some ⟨g, 0, none⟩) ps.length ps.length] 39)) := ⟨List.length_replicate, by omega, new_block _ _, by rw [← rowR_full]; exact at_below hgc ((Below.refl _ _).alloc (Nat.le_refl _) _)⟩
    have hbB := hb2.mono hBw
    refine (allJ_pr w.heap.size _ (.slice a0 ps.length c0) ps 31 #[] #[.pointer (some ⟨w2.heap.size, 0, none⟩)] (arProto ps) (fun ar w3 => ArAt w2.heap.size g ps.length ar w3) _ (fun w3 => Only g (w2.alloc (.cells #[.slice (some ⟨g, 0, none⟩) ps.length ps.length] 39)) w3) ((HV.out.below hbB (fun _ _ h => h.below hbB)).mono hBw (fun _ _ h => h.mono hBw)) hb2.size (enters_of Tryd.func31 (by kernel_rfl) rfl) (fun _ _ _ h hb => h.below hb) (fun _ _ h hb => h.trans (Only.of_below hb))
      (fun i hi s w' cs _ hsz hI _ hJ he => (arp_fn w.heap.size w2.heap.size g ps.length i s ps hi cs w' hI he (h7 _ (List.getElem_mem hi)) hg (Nat.le_trans hb2.size hsz)).mono fun _ _ q => ⟨q.1, hJ.trans q.2⟩) hA (Only.refl _ _)).mono fun _ _ q => ⟨q.1, cell_of (q.2.at' (new_block w2 _) (by omega)) 0 _ rfl⟩
  have HC := Lib.hid hc
  unfold Len at hl
  generalize aroundsO ps = R at *
  clear hb0 hnb hc hv HV h7 hNN
  go_enter Tryd.func19, Tryd.ntmps19
  go_wp2_with fail
  refine cr.mono ?_
  rintro e w2 ⟨g, hg, rfl, hgc, b2⟩
  have B2 := Lib.hid (HB0.out.trans (b2.mono HB0.out.size))
  obtain ⟨b3, c3⟩ := HC.out w2 g B2.out (by simp at hg; omega) hgc
  have B3 := Lib.hid b3
  clear cr b2 b3 HC hgc
  go_wp2_with fail
  refine c3.mono ?_
  rintro e w4 ⟨hE, d4⟩
  obtain ⟨b4, hsz4, rfl, hI⟩ := areSays_step hE
  have B4 := Lib.hid (B3.out.trans b4)
  have HI := Lib.hid hI
  clear b4 c3 hI hE
  go_wp2_with fail
  go_ret2
  exact ⟨g, rfl, B4.out, fun ar h => ⟨(HI.out ar h).1, (HI.out ar h).2.2.2⟩⟩

end Go.Proofs.YtnnjkejejlhkdaaDoor.Rt
