/-
  Layer 9: Right, by contract.
-/
import Derived.Test.YtnnjkejejlhkdaaDoorRtNest2
import Derived.Test.YtnnjkejejlhkdaaDoorRtUn
namespace Go.Proofs.YtnnjkejejlhkdaaDoor.Rt
open Go Go.RowKit

set_option maxHeartbeats 4000000 in
set_option maxRecDepth 100000 in
theorem nested_fn (v : Value) (ps : List Pr) (strs : Nat) (w : World) (hv : RowsB 8 (PrC w.heap.size w) w.heap.size w v ps) (hN : ps.length ≤ 200) (hfit : ∀ f ∈ ps, fitsB f strs ps.length = true) :
    Calls Tryd.prog 13 #[v] w fun e w' => e = .returned (.bool (nestedB ps)) ∧ Below w.heap.size w w' := by
  have hmf := run_mf
  have HV := Lib.hid hv
  obtain ⟨a0, c0, rfl, hl⟩ := hv.slice
  obtain ⟨N, hNN⟩ : ∃ N, N = ps.length := ⟨_, rfl⟩
  obtain ⟨w1, hw1⟩ : ∃ w1, w1 = w.alloc (.cells #[.slice a0 ps.length c0] 24) := ⟨_, rfl⟩
  have hb1 : Below w.heap.size w w1 := by rw [hw1]; exact (Below.refl _ _).alloc (Nat.le_refl _) _
  have hnb : w1.heap[w.heap.size]? = some (.cells #[.slice a0 ps.length c0] 24 (0, 0)) := by rw [hw1]; exact new_block _ _
  have hsz1 : w1.heap.size = w.heap.size + 1 := by rw [hw1]; simp
  have d0 : w1.cell? ⟨w.heap.size, 0, none⟩ = some (.slice a0 ps.length c0) := cell_of hnb 0 _ rfl
  have ca := arounds_fn w.heap.size (.slice a0 ps.length c0) ps w1 (HV.out.below hb1 (fun _ _ h => h.below hb1)) hb1.size (by omega) (fun f hf e he hk => (fits_num (hfit f hf)).2.2.2 e he hk)
  have hc : ∀ ar w2 g, aroundsO ps = some ar → Below w1.heap.size w1 w2 → ar.length = ps.length → w2.heap[g]? = some (.cells (ints ar).toArray 3 (0, 0)) →
      Calls Tryd.prog 20 #[.slice a0 ps.length c0, .func (.func 21) #[] #[.pointer (some ⟨w2.heap.size, 0, none⟩), .pointer (some ⟨w.heap.size, 0, none⟩)]] (w2.alloc (.cells #[.slice (some ⟨g, 0, none⟩) ps.length ps.length] 39)) fun e w' => e = .returned (.bool (allB (nestB ps ar) ps)) ∧ Below w.heap.size w w' := fun ar w2 g har hb2 hlen hg => by
    obtain ⟨w3, hw3⟩ : ∃ w3, w3 = w2.alloc (.cells #[.slice (some ⟨g, 0, none⟩) ps.length ps.length] 39) := ⟨_, rfl⟩
    have hb3 : Below w2.heap.size w2 w3 := by rw [hw3]; exact (Below.refl _ _).alloc (Nat.le_refl _) _
    have hA : w3.heap[w2.heap.size]? = some (.cells #[.slice (some ⟨g, 0, none⟩) ps.length ps.length] 39 (0, 0)) := by rw [hw3]; exact new_block _ _
    have hG := at_below hg hb3
    have hP := at_below (at_below hnb hb2) hb3
    have hb23 : Below w.heap.size w w3 := hb1.trans ((hb2.trans (hb3.mono hb2.size)).mono (by omega))
    have hok := ar_ok har
    rw [← hw3]
    refine (all_pr w3.heap.size w3 (.slice a0 ps.length c0) ps 21 #[] #[.pointer (some ⟨w2.heap.size, 0, none⟩), .pointer (some ⟨w.heap.size, 0, none⟩)] (stepB (nestB ps ar) ps) (fun _ w' => Below w3.heap.size w3 w') () ((HV.out.below hb23 (fun _ _ h => h.below hb23)).mono hb23.size (fun _ _ h => h.mono hb23.size)) (Nat.le_refl _) (enters_of Tryd.func21 (by kernel_rfl) rfl) (fun _ _ _ h hb => h.trans (hb.mono h.size)) (fun i hi s w' cs hbw hsz hI _ he => ?_) (Below.refl _ _)).mono fun _ _ h => ⟨(all_is h).1, hb23.trans ((all_is h).2.mono hb23.size)⟩
    have he' := he.mono hsz
    have hA' := at_below hA hbw
    have hG' := at_below hG hbw
    have hP' := at_below hP hbw
    have hb4 := hb23.trans (hbw.mono hb23.size)
    have hV' := (HV.out.below hb4 (fun _ _ h => h.below hb4)).mono hb4.size (fun _ _ h => h.mono hb4.size)
    by_cases h0 : i = 0
    · refine (nest_0 w2.heap.size w.heap.size i ps[i] cs w' he' h0).mono fun r w'' h => step_says hi h.2 hsz ?_ (hbw.trans (h.2.mono hbw.size))
      rw [h.1]
      refine ret_bool ?_
      unfold nestB
      rw [if_pos h0]
    have hil : i < ar.length := by omega
    have hget : ar.getD i 0 = ar[i] := by rw [List.getD_eq_getElem?_getD, List.getElem?_eq_getElem hil]; rfl
    rcases hok ar[i] (List.getElem_mem hil) with hm1 | ⟨hm1, hm2⟩
    · refine (nest_no w2.heap.size w.heap.size g ps.length i ar ps[i] cs w' he' hA' hG' h0 hi hlen (hget.trans hm1)).mono fun r w'' h => step_says hi h.2 hsz ?_ (hbw.trans (h.2.mono hbw.size))
      rw [h.1]
      refine ret_bool ?_
      unfold nestB
      rw [if_neg h0, hget, hm1]
      rfl
    · have hml : ar[i].toNat < ps.length := by omega
      refine (nest_yes w2.heap.size w.heap.size g ps.length i ar ps (.slice a0 ps.length c0) ps[i] cs w' he' hA' hG' hP' hV' h0 hi hlen rfl ar[i].toNat hml (by rw [hget]; omega) (fits_num (hfit _ (List.getElem_mem hml))).1).mono fun r w'' h => step_says hi h.2 hsz ?_ (hbw.trans (h.2.mono hbw.size))
      rw [h.1]
      refine ret_bool ?_
      unfold nestB
      rw [if_neg h0, hget, decide_eq_true (by omega), Bool.true_and, show ps.getD ar[i].toNat default = ps[ar[i].toNat] from by rw [List.getD_eq_getElem?_getD, List.getElem?_eq_getElem hml]; rfl]
  have HC := Lib.hid hc
  have HB1 := Lib.hid hb1
  obtain ⟨Z, hZ⟩ : ∃ Z, nestedB ps = Z := ⟨_, rfl⟩
  rw [hZ]
  unfold nestedB at hZ
  have HZ := Lib.hid hZ
  have hNB := Lib.hid hnb
  clear hc hb1 hv HV hfit hZ hNN hnb
  go_enter Tryd.func13, Tryd.ntmps13
  go_wp2_with fail
  rw [← hw1]
  clear hw1
  refine ca.mono ?_
  rintro e w2 ⟨g, rfl, b2, hg⟩
  have B2 := Lib.hid (HB1.out.trans (b2.mono HB1.out.size))
  have d2 : w2.cell? ⟨w.heap.size, 0, none⟩ = some (.slice a0 ps.length c0) := cell_of (at_below hNB.out b2) 0 _ rfl
  have HG := Lib.hid hg
  have HB2 := Lib.hid b2
  have hsz2 : w.heap.size < w2.heap.size := by have := b2.size; omega
  clear ca hg b2
  cases hR : aroundsO ps with
  | none =>
    have e : Z = false := by rw [← HZ.out, hR]
    subst e
    rw [hR] at HZ
    clear hR HZ
    go_wp2_with fail
    go_ret
    exact ⟨rfl, B2.out.alloc B2.out.size _⟩
  | some ar =>
    have e : Z = allB (nestB ps ar) ps := by rw [← HZ.out, hR]
    obtain ⟨hlen, hgc⟩ := HG.out ar hR
    have c3 := HC.out ar w2 g hR HB2.out hlen hgc
    rw [← e] at c3
    clear HZ HC HG hR hgc e
    go_wp2_with fail
    refine c3.mono ?_
    rintro e w4 ⟨rfl, b4⟩
    have B4 := Lib.hid b4
    clear b4 c3
    go_wp2_with fail
    go_ret
    exact ⟨rfl, B4.out⟩

set_option maxHeartbeats 2000000 in
set_option maxRecDepth 100000 in
theorem right1_fn (b : Nat) (v : Value) (p : Pg) (n : Nat) (cs : Array Value) (f : Pr) (w : World) (hp : PgV w.heap.size w v p) (hR : RowsTab w) (hb : ∃ c1 c2, v = .agg #[c1, c2] ∧ w.heap[b]? = some (.cells #[c1, c2] 26 (0, 0))) (he : PrC w.heap.size w cs f) :
    Calls Tryd.prog 9 #[.int .i64 (n : Int), .agg cs, .pointer (some ⟨b, 0, none⟩)] w fun e w' => e = .returned (.bool (protoB p n)) ∧ Below w.heap.size w w' := by
  obtain ⟨c1, c2, rfl, hh⟩ := hb
  obtain ⟨vb, vu, vs, ve, rfl, q1, q2, q3, q4, _⟩ := he
  obtain ⟨ab, cb, rfl, _⟩ := q1.slice
  obtain ⟨au, cu, rfl, _⟩ := q2.slice
  obtain ⟨at5, ct5, rfl, _⟩ := q3.slice
  obtain ⟨ae, ce, rfl, _⟩ := q4.slice
  obtain ⟨O, hO⟩ : ∃ O, O = Obj.cells #[.int .i64 f.params, .bool f.more, .int .i64 f.slots, .slice ab (bools f.boxed).length cb, .slice au f.ups.length cu, .slice at5 f.stmts.length ct5, .slice ae f.exprs.length ce, .int .i64 f.start] 35 (0, 0) := ⟨_, rfl⟩
  have hb := (Below.refl w.heap.size w).alloc (Nat.le_refl _) O
  have c := proto_fn w.heap.size (.agg #[c1, c2]) p n _ (hp.below hb) hb.size (hR.below hb)
  obtain ⟨vs', vp', hv, h1, h2⟩ := hp
  injection hv with hv
  obtain ⟨rfl, rfl⟩ : c1 = vs' ∧ c2 = vp' := by simpa using hv
  obtain ⟨a1, d1, rfl, _⟩ := h1.slice
  obtain ⟨a2, d2, rfl, _⟩ := h2.slice
  have e0 := cell_of (at_below hh hb) 0 _ rfl
  have e1 := cell_of (at_below hh hb) 1 _ rfl
  have HB := Lib.hid hb
  generalize protoB p n = Z at *
  clear hb hh q1 q2 q3 q4 h1 h2 hv hR
  subst hO
  go_enter Tryd.func9, Tryd.ntmps9
  go_wp2_with fail
  refine c.mono ?_
  rintro r w1 ⟨rfl, b1⟩
  have B1 := Lib.hid (HB.out.trans (b1.mono HB.out.size))
  clear b1 c
  go_wp2_with fail
  go_ret
  exact ⟨rfl, B1.out⟩

theorem protos_fit {p : Pg} (h : protosB p = true) : p.protos.length ≤ 200 ∧ ∀ f ∈ p.protos, fitsB f p.strs.length p.protos.length = true := by
  unfold protosB areB spanB at h
  simp only [Bool.and_eq_true, decide_eq_true_eq] at h
  refine ⟨by omega, fun f hf => ?_⟩
  obtain ⟨i, hi, rfl⟩ := List.getElem_of_mem hf
  exact allB_iff.1 h.2 i hi

set_option maxHeartbeats 4000000 in
set_option maxRecDepth 100000 in
theorem right_fn (v : Value) (p : Pg) (w : World) (hp : PgV w.heap.size w v p) (hR : RowsTab w) :
    Calls Tryd.prog 4 #[v] w fun e w' => e = .returned (.bool (rightB p)) ∧ Below w.heap.size w w' := by
  have hmf := run_mf
  have HP := Lib.hid hp
  obtain ⟨vs, vp, rfl, h1, h2⟩ := hp
  have H1 := Lib.hid h1
  have H2 := Lib.hid h2
  obtain ⟨a1, c1, rfl, _⟩ := h1.slice
  obtain ⟨a2, c2, rfl, _⟩ := h2.slice
  obtain ⟨w1, hw1⟩ : ∃ w1, w1 = w.alloc (.cells #[.slice a1 (texts p.strs).length c1, .slice a2 p.protos.length c2] 26) := ⟨_, rfl⟩
  have hb1 : Below w.heap.size w w1 := by rw [hw1]; exact (Below.refl _ _).alloc (Nat.le_refl _) _
  have hnb : w1.heap[w.heap.size]? = some (.cells #[.slice a1 (texts p.strs).length c1, .slice a2 p.protos.length c2] 26 (0, 0)) := by rw [hw1]; exact new_block _ _
  have d0 : ∀ w', Below w1.heap.size w1 w' → w'.cell? ⟨w.heap.size, 0, none⟩ = some (.slice a1 (texts p.strs).length c1) ∧ w'.cell? ⟨w.heap.size, 1, none⟩ = some (.slice a2 p.protos.length c2) := fun w' h => ⟨cell_of (at_below hnb h) 0 _ rfl, cell_of (at_below hnb h) 1 _ rfl⟩
  have hup : ∀ w', Below w1.heap.size w1 w' → Below w.heap.size w w' := fun w' h => hb1.trans (h.mono hb1.size)
  have cA : Calls Tryd.prog 11 #[.slice a2 p.protos.length c2, .agg #[.int .i64 1, .int .i64 200], .func (.func 9) #[] #[.pointer (some ⟨w.heap.size, 0, none⟩)]] w1 fun r w' => r = .returned (.bool (protosB p)) ∧ Below w1.heap.size w1 w' := by
    refine (are_pr w1.heap.size w1 (.slice a2 p.protos.length c2) p.protos 1 200 9 #[] #[.pointer (some ⟨w.heap.size, 0, none⟩)] (stepB (fun _ f => fitsB f p.strs.length p.protos.length) p.protos) (fun _ w' => Below w1.heap.size w1 w') () ((H2.out.below hb1 (fun _ _ h => h.below hb1)).mono hb1.size (fun _ _ h => h.mono hb1.size)) (Nat.le_refl _) (enters_of Tryd.func9 (by kernel_rfl) rfl) (fun _ _ _ h hb => h.trans (hb.mono h.size)) (fun i hi s w' cs hbw hsz hI _ he => ?_) (Below.refl _ _)).mono fun _ _ h => are_is h
    have hb4 := hup w' hbw
    refine (right1_fn w.heap.size _ p i cs p.protos[i] w' (by obtain ⟨q1, q2, q3, q4, q5⟩ := HP.out.below hb4; exact ⟨q1, q2, q3, q4.mono hb4.size, q5.mono hb4.size (fun _ _ h => h.mono hb4.size)⟩) ((hR.below hb1).below hbw) ⟨_, _, rfl, at_below hnb hbw⟩ (he.mono hsz)).mono fun r w'' h => step_says hi h.2 hsz ?_ (hbw.trans (h.2.mono hbw.size))
    rw [h.1]
    refine ret_bool ?_
    unfold protoB
    rw [if_neg (by omega), Int.toNat_natCast, show p.protos.getD i default = p.protos[i] from by rw [List.getD_eq_getElem?_getD, List.getElem?_eq_getElem hi]; rfl]
  have cU : ∀ w', Below w1.heap.size w1 w' → Calls Tryd.prog 12 #[.slice a1 (texts p.strs).length c1] w' fun r w'' => r = .returned (.bool (unlikeB p.strs)) ∧ Below w1.heap.size w1 w'' := fun w' h =>
    (unlike_fn _ p.strs w' ((H1.out.below (hup w' h)).mono (hup w' h).size)).mono fun _ _ g => ⟨g.1, h.trans (g.2.mono h.size)⟩
  have cN : protosB p = true → ∀ w', Below w1.heap.size w1 w' → Calls Tryd.prog 13 #[.slice a2 p.protos.length c2] w' fun r w'' => r = .returned (.bool (nestedB p.protos)) ∧ Below w1.heap.size w1 w'' := fun hpb w' h =>
    (nested_fn _ p.protos p.strs.length w' ((H2.out.below (hup w' h) (fun _ _ q => q.below (hup w' h))).mono (hup w' h).size (fun _ _ q => q.mono (hup w' h).size)) (protos_fit hpb).1 (protos_fit hpb).2).mono fun _ _ g => ⟨g.1, h.trans (g.2.mono h.size)⟩
  have CU := Lib.hid cU
  have CN := Lib.hid cN
  have D0 := Lib.hid d0
  have HUP := Lib.hid hup
  unfold rightB
  clear hb1 hnb d0 hup cU cN H1 H2 HP h1 h2 hR
  obtain ⟨e0, e1⟩ := D0.out w1 (Below.refl _ _)
  obtain ⟨Z1, hZ1⟩ : ∃ Z, protosB p = Z := ⟨_, rfl⟩
  rw [hZ1] at cA CN ⊢
  clear hZ1
  generalize unlikeB p.strs = Z2 at *
  generalize nestedB p.protos = Z3 at *
  cases Z1 with
  | false =>
    rw [Bool.false_and, Bool.false_and]
    clear CU CN
    go_enter Tryd.func4, Tryd.ntmps4
    go_upto_region 2 with (fail)
    rw [← hw1]
    clear hw1
    go_wp2_with fail
    refine cA.mono ?_
    rintro r w2 ⟨rfl, b2⟩
    have B2 := Lib.hid (HUP.out w2 b2)
    clear b2 cA
    go_wp2_with fail
    go_ret
    exact ⟨rfl, B2.out⟩
  | true =>
    rw [Bool.true_and]
    have cn := CN.out rfl
    have CN2 := Lib.hid cn
    clear CN cn
    cases Z2 with
    | false =>
      rw [Bool.false_and]
      clear CN2
      go_enter Tryd.func4, Tryd.ntmps4
      go_upto_region 2 with (fail)
      rw [← hw1]
      clear hw1
      go_wp2_with fail
      refine cA.mono ?_
      rintro r w2 ⟨rfl, b2⟩
      obtain ⟨e2, e3⟩ := D0.out w2 b2
      have c2 := CU.out w2 b2
      clear b2 cA
      go_wp2_with fail
      refine c2.mono ?_
      rintro r w3 ⟨rfl, b3⟩
      have B3 := Lib.hid (HUP.out w3 b3)
      clear b3 c2
      go_wp2_with fail
      go_ret
      exact ⟨rfl, B3.out⟩
    | true =>
      rw [Bool.true_and]
      go_enter Tryd.func4, Tryd.ntmps4
      go_upto_region 2 with (fail)
      rw [← hw1]
      clear hw1
      go_wp2_with fail
      refine cA.mono ?_
      rintro r w2 ⟨rfl, b2⟩
      obtain ⟨e2, e3⟩ := D0.out w2 b2
      have c2 := CU.out w2 b2
      clear b2 cA
      go_wp2_with fail
      refine c2.mono ?_
      rintro r w3 ⟨rfl, b3⟩
      obtain ⟨e4, e5⟩ := D0.out w3 b3
      have c3 := CN2.out w3 b3
      clear b3 c2 e2 e3
      go_wp2_with fail
      refine c3.mono ?_
      rintro r w4 ⟨rfl, b4⟩
      have B4 := Lib.hid (HUP.out w4 b4)
      clear b4 c3
      go_wp2_with fail
      go_ret
      exact ⟨rfl, B4.out⟩

end Go.Proofs.YtnnjkejejlhkdaaDoor.Rt
