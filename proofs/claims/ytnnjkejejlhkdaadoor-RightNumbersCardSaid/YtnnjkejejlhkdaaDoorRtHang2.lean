/-
  Layer 9: hangs.
-/
import Derived.Test.YtnnjkejejlhkdaaDoorRtHang
import Derived.Laws.EntriesVeiled
namespace Go.Proofs.YtnnjkejejlhkdaaDoor.Rt
open Go Go.RowKit

set_option maxHeartbeats 4000000 in
set_option maxRecDepth 100000 in
theorem own_fn (B bs bf g n : Nat) (st : List Bool) (f : Pr) (i : Nat) (hi : i < f.stmts.length) (cs : Array Value) (w : World) (h : StandAt bs g n st w) (hf : FcAt bf bs w) (he : StC B w cs f.stmts[i]) (hn : f.exprs.length = n) (hB : B ≤ g) (hBw : B ≤ w.heap.size) (hfg : bf ≠ g) :
    Calls Tryd.prog 39 #[.int .i64 (i : Int), .agg cs, .pointer (some ⟨bf, 0, none⟩), .pointer (some ⟨bs, 0, none⟩)] w (StepSays B (ownStep f i st) (fun st' w' => StandAt bs g n st' w' ∧ Only g w w') w) := by
  obtain ⟨v1, v2, v3, rfl, hk1, hk2, hk3, _⟩ := he
  have HT := Lib.hid hk2
  have HE := Lib.hid hk3
  obtain ⟨a1, c1, rfl, _⟩ := hk1.slice
  obtain ⟨a2, c2, rfl, _⟩ := hk2.slice
  obtain ⟨a3, c3, rfl, _⟩ := hk3.slice
  unfold ownStep
  rw [List.getElem?_eq_getElem hi, hn]
  dsimp only
  generalize f.stmts[i] = s at *
  obtain ⟨O, hO⟩ : ∃ O, O = Obj.cells #[.int .u8 (s.k : Int), .slice a1 (ints s.slots).length c1, .slice a2 (ints s.targets).length c2, .slice a3 (ints s.exprs).length c3, .int .i64 s.next, .int .i64 s.els, .int .i64 s.line] 44 (0, 0) := ⟨_, rfl⟩
  have hb := (Below.refl w.heap.size w).alloc (Nat.le_refl _) O
  have hnb := (new_block w O).trans (congrArg some hO)
  have hfw := lt_of_get hf
  have hgw := lt_of_get h.2.2.2
  have hsw := lt_of_get h.2.2.1
  have cf := cell_of (at_below hf hb) 0 _ rfl
  have cb := cell_of (at_below h.2.2.1 hb) 0 _ rfl
  have ck := stand_fn B bs g n st (n : Int) (.slice a2 (ints s.targets).length c2) s.targets _ (h.below hb) (HT.out.below (hb.mono hBw)) (by omega) hB (Nat.le_trans hBw hb.size)
  have HB := Lib.hid (hb.mono hBw)
  have HOn := Lib.hid (Only.of_below (g := g) hb)
  have cE : ∀ w1 st1, StandAt bs g n st1 w1 → Below B (w.alloc O) w1 → Only g (w.alloc O) w1 → (w1.cell? ⟨bf, 0, none⟩ = some (.func (.func 35) #[] #[.pointer (some ⟨bs, 0, none⟩)]) ∧ w1.cell? ⟨bs, 0, none⟩ = some (.slice (some ⟨g, 0, none⟩) n n) ∧ w1.cell? ⟨w.heap.size, 3, none⟩ = some (.slice a3 (ints s.exprs).length c3)) ∧
      Calls Tryd.prog 35 #[.slice a3 (ints s.exprs).length c3, .int .i64 (n : Int), .pointer (some ⟨bs, 0, none⟩)] w1 (StepSays B (standN n s.exprs st1) (fun st' w' => StandAt bs g n st' w' ∧ Only g w1 w') w1) := fun w1 st1 hs hb1 ho => by
    refine ⟨⟨cell_of (ho.at' (at_below hf hb) hfg) 0 _ rfl, cell_of hs.2.2.1 0 _ rfl, cell_of (ho.at' hnb (by omega)) 3 _ rfl⟩, ?_⟩
    exact stand_fn B bs g n st1 (n : Int) _ s.exprs w1 hs (HE.out.below (HB.out.trans hb1)) (by omega) hB (Nat.le_trans hBw (Nat.le_trans hb.size ho.1))
  have CE := Lib.hid cE
  clear hb h hf hk1 hk2 hk3 cE hnb
  subst hO
  generalize standN n s.targets st = R at *
  cases R with
  | none =>
    dsimp only [Option.bind]
    go_enter Tryd.func39, Tryd.ntmps39
    go_wp2_with fail
    refine ck.mono ?_
    rintro r w1 ⟨b1, hsz, rfl, hI⟩
    have B1 := Lib.hid (HB.out.trans b1)
    have SZ := Lib.hid hsz
    clear b1 hsz hI ck
    go_wp2_with fail
    go_ret
    exact ⟨B1.out, Nat.le_trans (by simp) SZ.out, rfl, fun s h => by cases h⟩
  | some st1 =>
    show Calls _ _ _ _ (StepSays B (standN n s.exprs st1) _ w)
    go_enter Tryd.func39, Tryd.ntmps39
    go_wp2_with fail
    refine ck.mono ?_
    rintro r w1 ⟨b1, hsz, rfl, hI⟩
    obtain ⟨hs1, ho1⟩ := hI st1 rfl
    obtain ⟨⟨d1, d2, d3⟩, c⟩ := CE.out w1 st1 hs1 b1 ho1
    have B1 := Lib.hid (HB.out.trans b1)
    have SZ := Lib.hid hsz
    have O1 := Lib.hid (HOn.out.trans ho1)
    clear b1 hsz hI ck hs1 ho1 CE
    go_wp2_with fail
    refine c.mono ?_
    rintro r w2 ⟨b2, hsz2, rfl, hI2⟩
    have B2 := Lib.hid (B1.out.trans b2)
    have SZ2 := Lib.hid (Nat.le_trans SZ.out hsz2)
    have HI2 := Lib.hid hI2
    clear b2 hsz2 hI2 c
    go_wp2_with fail
    go_ret
    exact ⟨B2.out, Nat.le_trans (by simp) SZ2.out, rfl, fun s hs => ⟨(HI2.out s hs).1, O1.out.trans (HI2.out s hs).2⟩⟩

theorem infoBool : (Tryd.prog.info? 4).map (fun i => (i.zero, i.size, i.bytes)) = some (some (.bool false), 1, 1) := by kernel_rfl
theorem made_bools (n : Nat) : madeCells #[Value.bool false] n = (bools (List.replicate n false)).toArray := by
  unfold madeCells bools
  apply Array.ext
  · simp
  · intro i h1 h2
    simp [Nat.mod_one]
theorem make_bools (N : Nat) (hN : N ≤ 1000000) (W : World) : (Instr.makeSlice 30 (.int .i64 (N : Int)) (.int .i64 (N : Int))).run Tryd.prog W = .ok (.slice (some ⟨W.heap.size, 0, none⟩) N N) (W.alloc (.cells (bools (List.replicate N false)).toArray 4)) := by
  obtain ⟨iB, hiB, hzB, hsB, hbB⟩ := info_parts infoBool
  have := run_make (P := Tryd.prog) W 30 4 iB (.bool false) Tryd.underlying30 hiB hzB .i64 .i64 (N : Int) (N : Int) (by omega) (by omega) (by rw [hbB]; omega) (by omega)
  rw [hsB] at this
  simp only [Int.toNat_natCast, Nat.mul_one] at this
  rw [this, ← made_bools]
  rfl

set_option maxHeartbeats 4000000 in
set_option maxRecDepth 100000 in
theorem hangs_fn (F : Nat) (f : Pr) (strs protos : Nat) (w : World) (hF : FnAt F f strs protos w) (hlen : f.exprs.length ≤ 4096) :
    Calls Tryd.prog 25 #[.pointer (some ⟨F, 0, none⟩)] w fun e w' => e = .returned (.bool (hangsB f)) ∧ Below w.heap.size w w' := by
  have hmf := run_mf
  obtain ⟨vb, vu, vs, ve, hh, hvb, hvu, hvs, hve, hint⟩ := hF
  clear hint hvb hvu
  have HS := Lib.hid hvs
  have HE := Lib.hid hve
  obtain ⟨a6, c6, rfl, _⟩ := hve.slice
  obtain ⟨a5, c5, rfl, hl5⟩ := hvs.slice
  obtain ⟨n, hn⟩ : ∃ n, f.exprs.length = n := ⟨_, rfl⟩
  have hn9 : n ≤ 4096 := by omega
  obtain ⟨m, hm⟩ : ∃ m, f.stmts.length = m := ⟨_, rfl⟩
  rw [hm] at hl5
  have hmk := make_bools n (by omega)
  have hFw := lt_of_get hh
  obtain ⟨A, hA⟩ : ∃ A, A = Obj.cells (bools (List.replicate n false)).toArray 4 (0, 0) := ⟨_, rfl⟩
  obtain ⟨Bo, hBo⟩ : ∃ Bo, Bo = Obj.cells #[.slice (some ⟨w.heap.size, 0, none⟩) n n] 30 (0, 0) := ⟨_, rfl⟩
  obtain ⟨Co, hCo⟩ : ∃ Co, Co = Obj.cells #[.func (.func 35) #[] #[.pointer (some ⟨w.heap.size + 1, 0, none⟩)]] 78 (0, 0) := ⟨_, rfl⟩
  obtain ⟨p0, p1, p2, hb⟩ := three w A Bo Co
  obtain ⟨w3, hw3⟩ : ∃ w3, w3 = ((w.alloc A).alloc Bo).alloc Co := ⟨_, rfl⟩
  rw [← hw3] at p0 p1 p2 hb
  have hS0 : StandAt (w.heap.size + 1) w.heap.size n (List.replicate n false) w3 := ⟨List.length_replicate, by omega, by rw [p1, hBo], by rw [p0, hA]⟩
  have hF0 : FcAt (w.heap.size + 1 + 1) (w.heap.size + 1) w3 := by unfold FcAt; rw [p2, hCo]
  have f6 := cell_of hh 6 _ rfl
  have g5 : ∀ w', Below w.heap.size w w' → w'.cell? ⟨F, 5, none⟩ = some (.slice a5 m c5) ∧ w'.cell? ⟨F, 6, none⟩ = some (.slice a6 n c6) := fun w' hb' => ⟨cell_of (at_below hh hb') 5 _ (by rw [← hm]; rfl), cell_of (at_below hh hb') 6 _ (by rw [← hn]; rfl)⟩
  have c1 := all_ex w.heap.size w3 _ f.exprs 38 #[] #[.pointer (some ⟨w.heap.size + 1 + 1, 0, none⟩)] (kidStep f) (fun st' w' => StandAt (w.heap.size + 1) w.heap.size n st' w' ∧ Only w.heap.size w3 w') (List.replicate n false) (HE.out.below hb (fun _ _ h => h.below hb)) hb.size (enters_of Tryd.func38 (by kernel_rfl) rfl)
    (fun _ _ _ h hb => ⟨h.1.below hb, h.2.trans (Only.of_below hb)⟩)
    (fun i hi s w' cs _ hsz hI _ he => (kid_fn w.heap.size (w.heap.size + 1) (w.heap.size + 1 + 1) w.heap.size n s f i hi cs w' hI.1 (hI.2.at' hF0 (by omega)) he hn (Nat.le_refl _) (Nat.le_trans hb.size hsz)).mono fun _ _ q => ⟨q.1, q.2.1, q.2.2.1, fun s' hs => ⟨(q.2.2.2 s' hs).1, hI.2.trans (q.2.2.2 s' hs).2⟩⟩)
    ⟨hS0, Only.refl _ _⟩
  rw [hn] at c1
  have cS : ∀ st1 w4, StandAt (w.heap.size + 1) w.heap.size n st1 w4 → Only w.heap.size w3 w4 → Below w.heap.size w3 w4 → Calls Tryd.prog 28 #[.slice a5 m c5, .func (.func 39) #[] #[.pointer (some ⟨w.heap.size + 1 + 1, 0, none⟩), .pointer (some ⟨w.heap.size + 1, 0, none⟩)]] w4 (AreSays w.heap.size true (runN (ownStep f) m st1) (fun st' w' => StandAt (w.heap.size + 1) w.heap.size n st' w' ∧ Only w.heap.size w3 w') w4) := fun st1 w4 hs ho hb4 => by
    have hb5 := hb.trans hb4
    have c := all_st w.heap.size w4 _ f.stmts 39 #[] #[.pointer (some ⟨w.heap.size + 1 + 1, 0, none⟩), .pointer (some ⟨w.heap.size + 1, 0, none⟩)] (ownStep f) (fun st' w' => StandAt (w.heap.size + 1) w.heap.size n st' w' ∧ Only w.heap.size w3 w') st1 (HS.out.below hb5 (fun _ _ h => h.below hb5)) (Nat.le_trans hb.size ho.1) (enters_of Tryd.func39 (by kernel_rfl) rfl)
      (fun _ _ _ h hb => ⟨h.1.below hb, h.2.trans (Only.of_below hb)⟩)
      (fun i hi s w' cs _ hsz hI _ he => (own_fn w.heap.size (w.heap.size + 1) (w.heap.size + 1 + 1) w.heap.size n s f i hi cs w' hI.1 (hI.2.at' hF0 (by omega)) he hn (Nat.le_refl _) (Nat.le_trans (Nat.le_trans hb.size ho.1) hsz) (by omega)).mono fun _ _ q => ⟨q.1, q.2.1, q.2.2.1, fun s' hs => ⟨(q.2.2.2 s' hs).1, hI.2.trans (q.2.2.2 s' hs).2⟩⟩)
      ⟨hs, ho⟩
    rw [hm] at c
    exact c
  have hz : hangsB f = match (runN (kidStep f) n (List.replicate n false)).bind (runN (ownStep f) m) with
    | some st => !st.contains false
    | none => false := by unfold hangsB; rw [hn, hm]; rfl
  obtain ⟨Z, hZ⟩ : ∃ Z, hangsB f = Z := ⟨_, rfl⟩
  rw [hZ]
  rw [hz] at hZ
  have HZ := Lib.hid hZ
  clear hZ
  have CS := Lib.hid cS
  have G5 := Lib.hid g5
  have HB := Lib.hid hb
  rw [hn] at f6
  clear p0 p1 p2 hb hS0 hF0 hh hvs hve cS g5 hz HS HE
  subst hA hBo hCo
  obtain ⟨d5, d6⟩ := G5.out w3 HB.out
  go_enter Tryd.func25, Tryd.ntmps25
  go_upto_region 5 with (fail)
  rw [← hw3]
  clear hw3 hmk f6
  generalize runN (kidStep f) n (List.replicate n false) = R at *
  go_wp2_with fail
  refine c1.mono ?_
  rintro r w4 hE
  obtain ⟨b4, hsz4, rfl, hI4⟩ := areSays_step hE
  clear hE c1
  have B4 := Lib.hid (HB.out.trans b4)
  cases R with
  | none =>
    clear b4 hsz4 hI4
    go_wp2_with fail
    go_ret
    exact ⟨ret_bool (show false = Z from HZ.out), B4.out⟩
  | some st1 =>
    obtain ⟨hs4, ho4⟩ := hI4 st1 rfl
    have c2 := CS.out st1 w4 hs4 ho4 b4
    obtain ⟨d5, d6⟩ := G5.out w4 B4.out
    clear b4 hsz4 hI4 hs4 CS
    obtain ⟨R2, hR2⟩ : ∃ R2, runN (ownStep f) m st1 = R2 := ⟨_, rfl⟩
    rw [hR2] at c2
    have hz2 : (match (some st1).bind (runN (ownStep f) m) with | some st => !st.contains false | none => false) = Z := HZ.out
    rw [show (some st1).bind (runN (ownStep f) m) = R2 from hR2] at hz2
    have HZ2 := Lib.hid hz2
    clear hR2 hz2 HZ
    go_wp2_with fail
    refine c2.mono ?_
    rintro r w5 hE
    obtain ⟨b5, hsz5, rfl, hI5⟩ := areSays_step hE
    clear hE c2
    have B5 := Lib.hid (B4.out.trans b5)
    cases R2 with
    | none =>
      clear b5 hsz5 hI5
      go_wp2_with fail
      go_ret
      exact ⟨ret_bool (show false = Z from HZ2.out), B5.out⟩
    | some st2 =>
      obtain ⟨hs5, ho5⟩ := hI5 st2 rfl
      have cb := cell_of hs5.2.2.1 0 _ rfl
      have hst5 := hs5.1
      have c3 := contains_bools w5.heap.size w5 (.slice (some ⟨w.heap.size, 0, none⟩) n n) st2 false ⟨_, _, by rw [bools_len, hst5], by rw [bools_len, hst5]; unfold Len; omega, fun _ => ⟨_, 0, lt_of_get hs5.2.2.2, rfl, fun j hj => cell_of hs5.2.2.2 _ _ (by rw [Nat.zero_add, List.getElem?_toArray, List.getElem?_eq_getElem hj])⟩⟩
      clear b5 hsz5 hI5 hs5 ho5 hst5
      have hz3 : (!st2.contains false) = Z := HZ2.out
      have HZ3 := Lib.hid hz3
      clear HZ2 hz3
      generalize st2.contains false = Y at *
      go_wp2_with fail
      refine c3.mono ?_
      rintro r w6 ⟨rfl, rfl⟩
      go_wp2_with fail
      go_ret
      exact ⟨ret_bool HZ3.out, B5.out⟩

end Go.Proofs.YtnnjkejejlhkdaaDoor.Rt
