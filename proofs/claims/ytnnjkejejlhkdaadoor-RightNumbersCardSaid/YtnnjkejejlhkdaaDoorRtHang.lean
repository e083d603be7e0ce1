/-
  Layer 9: each expression stands just once.
-/
import Derived.Test.YtnnjkejejlhkdaaDoorRtStmt
import Derived.MakeChecks
import Derived.Laws.Rows
import Derived.Laws.MakeOwn
namespace Go.Proofs.YtnnjkejejlhkdaaDoor.Rt
open Go Go.RowKit

/-- Which expressions stand, as the closures have captured it. -/
def StandAt (bs g n : Nat) (st : List Bool) (w : World) : Prop :=
  st.length = n ∧ bs ≠ g ∧ w.heap[bs]? = some (.cells #[.slice (some ⟨g, 0, none⟩) n n] 30 (0, 0)) ∧ w.heap[g]? = some (.cells (bools st).toArray 4 (0, 0))
theorem StandAt.below {bs g n : Nat} {st : List Bool} {w w' : World} (h : StandAt bs g n st w) (hb : Below w.heap.size w w') : StandAt bs g n st w' :=
  ⟨h.1, h.2.1, at_below h.2.2.1 hb, at_below h.2.2.2 hb⟩
theorem StandAt.set {bs g n : Nat} {st : List Bool} {w : World} (h : StandAt bs g n st w) (i : Nat) : StandAt bs g n (st.set i true) (w.setCell ⟨g, i, none⟩ (.bool true)) := by
  obtain ⟨h1, h2, h3, h4⟩ := h
  refine ⟨by rw [List.length_set]; exact h1, h2, ?_, ?_⟩
  · rw [heap_setCell_other _ _ _ _ (by exact h2)]; exact h3
  · rw [heap_setCell_same _ _ _ _ _ _ h4]
    unfold bools
    rw [List.setIfInBounds_toArray, List.map_set]
/-- One block alone may have turned, of those that were there. -/
def Only (g : Nat) (w w' : World) : Prop := w.heap.size ≤ w'.heap.size ∧ ∀ b, b < w.heap.size → b ≠ g → w'.heap[b]? = w.heap[b]?
theorem Only.refl (g : Nat) (w : World) : Only g w w := ⟨Nat.le_refl _, fun _ _ _ => rfl⟩
theorem Only.trans {g : Nat} {a b c : World} (h : Only g a b) (k : Only g b c) : Only g a c := ⟨Nat.le_trans h.1 k.1, fun x hx hn => (k.2 x (Nat.lt_of_lt_of_le hx h.1) hn).trans (h.2 x hx hn)⟩
theorem Only.of_below {g : Nat} {a b : World} (h : Below a.heap.size a b) : Only g a b := ⟨h.size, fun x hx _ => h.block x hx⟩
theorem Only.at' {g b : Nat} {o : Obj} {w w' : World} (h : Only g w w') (hb : w.heap[b]? = some o) (hn : b ≠ g) : w'.heap[b]? = some o := (h.2 b (lt_of_get hb) hn).trans hb
theorem Only.set (w : World) (g i : Nat) (v : Value) : Only g w (w.setCell ⟨g, i, none⟩ v) := ⟨by simp, fun b _ hn => heap_setCell_other _ _ _ _ (by exact hn)⟩
def IntAt (b : Nat) (x : Int) (w : World) : Prop := w.heap[b]? = some (.cells #[.int .i64 x] 3 (0, 0))

set_option maxHeartbeats 4000000 in
set_option maxRecDepth 100000 in
theorem stand1_fn (B bs g n bb : Nat) (st : List Bool) (below c : Int) (l : List Int) (k : Nat) (hk : l[k]? = some c) (i : Int) (w : World) (h : StandAt bs g n st w) (hb : IntAt bb below w) (hn : below ≤ n) (hB : B ≤ g) :
    Calls Tryd.prog 37 #[.int .i64 i, .int .i64 c, .pointer (some ⟨bb, 0, none⟩), .pointer (some ⟨bs, 0, none⟩)] w (StepSays B (stand1 below l k st) (fun st' w' => StandAt bs g n st' w' ∧ Only g w w') w) := by
  obtain ⟨R, hR⟩ : ∃ R, stand1 below l k st = R := ⟨_, rfl⟩
  rw [hR]
  have hR2 : (if c < 0 ∨ below ≤ c ∨ st.getD c.toNat true = true then none else some (st.set c.toNat true)) = R := by rw [← hR]; unfold stand1; rw [hk]
  have H := Lib.hid h
  obtain ⟨h1, h2, h3, h4⟩ := h
  have c0 := cell_of hb 0 _ rfl
  have c1 := cell_of h3 0 _ rfl
  have hfz := frozen_of_row w g
  have HR := Lib.hid hR2
  clear hb h3 hR hR2 hk
  by_cases q1 : c < 0
  · have e : R = none := by rw [← HR.out, if_pos (.inl q1)]
    subst e
    clear hfz
    go_enter Tryd.func37, Tryd.ntmps37
    go_wp2_with fail
    go_ret
    exact ⟨Below.refl _ _, Nat.le_refl _, rfl, fun s h => by cases h⟩
  by_cases q2 : below ≤ c
  · have e : R = none := by rw [← HR.out, if_pos (.inr (.inl q2))]
    subst e
    clear hfz
    go_enter Tryd.func37, Tryd.ntmps37
    go_wp2_with fail
    go_ret
    exact ⟨Below.refl _ _, Nat.le_refl _, rfl, fun s h => by cases h⟩
  obtain ⟨m, rfl⟩ : ∃ m : Nat, c = m := ⟨c.toNat, by omega⟩
  have hm : m < st.length := by omega
  have hmn : (m : Int) < n := by omega
  rw [Int.toNat_natCast] at HR
  have hst : st.getD m true = st[m] := by rw [List.getD_eq_getElem?_getD, List.getElem?_eq_getElem hm]; rfl
  rw [hst] at HR
  have cm : w.cell? ⟨g, m, none⟩ = some (.bool st[m]) := by
    refine cell_of h4 _ _ ?_
    unfold bools
    rw [List.getElem?_toArray, List.getElem?_map, List.getElem?_eq_getElem hm]; rfl
  have fz := hfz m _ _ h4
  clear hfz h4 hst
  generalize st[m] = b at *
  cases b with
  | true =>
    have e : R = none := by rw [← HR.out, if_pos (.inr (.inr rfl))]
    subst e
    go_enter Tryd.func37, Tryd.ntmps37
    go_wp2_with fail
    go_ret
    exact ⟨Below.refl _ _, Nat.le_refl _, rfl, fun s h => by cases h⟩
  | false =>
    have e : R = some (st.set m true) := by rw [← HR.out, if_neg (by rintro (h | h | h); · exact q1 h
                                                                     · exact q2 h
                                                                     · cases h)]
    subst e
    go_enter Tryd.func37, Tryd.ntmps37
    go_wp2_with fail
    go_ret
    refine ⟨(Below.refl _ _).setCell hB _, by simp, rfl, fun s h => ?_⟩
    injection h with h
    subst h
    exact ⟨H.out.set m, Only.set _ _ _ _⟩

theorem areSays_step {S : Type} {B : Nat} {r : Option S} {I : S → World → Prop} {w w' : World} {e : Ending} (h : AreSays B true r I w e w') : StepSays B r I w e w' :=
  ⟨h.1, h.2.1, by rw [h.2.2.1, Bool.true_and], fun s hs => h.2.2.2 s rfl hs⟩

set_option maxHeartbeats 2000000 in
set_option maxRecDepth 100000 in
/-- Whether places stand, each once. -/
theorem stand_fn (B bs g n : Nat) (st : List Bool) (below : Int) (v : Value) (l : List Int) (w : World) (h : StandAt bs g n st w) (hv : LstB B w v (ints l)) (hn : below ≤ n) (hB : B ≤ g) (hBw : B ≤ w.heap.size) :
    Calls Tryd.prog 35 #[v, .int .i64 below, .pointer (some ⟨bs, 0, none⟩)] w (StepSays B (standN below l st) (fun st' w' => StandAt bs g n st' w' ∧ Only g w w') w) := by
  have hmf := run_mf
  have hg := lt_of_get h.2.2.2
  obtain ⟨a0, c0, rfl, _⟩ := hv.slice
  have hb := (Below.refl w.heap.size w).alloc (Nat.le_refl _) (.cells #[.int .i64 below] 3)
  have c := all_int B (w.alloc (.cells #[.int .i64 below] 3)) (.slice a0 (ints l).length c0) l 37 #[] #[.pointer (some ⟨w.heap.size, 0, none⟩), .pointer (some ⟨bs, 0, none⟩)] (stand1 below l) (fun st' w' => StandAt bs g n st' w' ∧ IntAt w.heap.size below w' ∧ Only g w w') st (hv.below (hb.mono hBw)) (Nat.le_trans hBw hb.size) (enters_of Tryd.func37 (by kernel_rfl) rfl)
    (fun _ _ _ h hb => ⟨h.1.below hb, at_below h.2.1 hb, h.2.2.trans (Only.of_below hb)⟩)
    (fun i hi s w' _ hsz hI _ => (stand1_fn B bs g n w.heap.size s below l[i] l i (List.getElem?_eq_getElem hi) i w' hI.1 hI.2.1 hn hB).mono fun _ _ q => ⟨q.1, q.2.1, q.2.2.1, fun s' hs => ⟨(q.2.2.2 s' hs).1, (q.2.2.2 s' hs).2.at' hI.2.1 (by omega), hI.2.2.trans (q.2.2.2 s' hs).2⟩⟩)
    ⟨h.below hb, new_block _ _, Only.of_below hb⟩
  have HB := Lib.hid (hb.mono hBw)
  unfold standN
  clear hb h hv
  generalize runN (stand1 below l) l.length st = R at *
  go_enter Tryd.func35, Tryd.ntmps35
  go_wp2_with fail
  refine c.mono ?_
  rintro e w1 hE
  obtain ⟨b1, hsz, rfl, hI⟩ := areSays_step hE
  have B1 := Lib.hid (HB.out.trans b1)
  have SZ := Lib.hid hsz
  have HI := Lib.hid hI
  clear b1 hsz hI hE c
  go_wp2_with fail
  go_ret
  exact ⟨B1.out, Nat.le_trans (by simp) SZ.out, rfl, fun s hs => ⟨(HI.out s hs).1, (HI.out s hs).2.2⟩⟩

/-- The standing closure, in a block of its own. -/
def FcAt (bf bs : Nat) (w : World) : Prop := w.heap[bf]? = some (.cells #[.func (.func 35) #[] #[.pointer (some ⟨bs, 0, none⟩)]] 78 (0, 0))

set_option maxHeartbeats 2000000 in
set_option maxRecDepth 100000 in
theorem kid_fn (B bs bf g n : Nat) (st : List Bool) (f : Pr) (i : Nat) (hi : i < f.exprs.length) (cs : Array Value) (w : World) (h : StandAt bs g n st w) (hf : FcAt bf bs w) (he : ExC B w cs f.exprs[i]) (hn : f.exprs.length = n) (hB : B ≤ g) (hBw : B ≤ w.heap.size) :
    Calls Tryd.prog 38 #[.int .i64 (i : Int), .agg cs, .pointer (some ⟨bf, 0, none⟩)] w (StepSays B (kidStep f i st) (fun st' w' => StandAt bs g n st' w' ∧ Only g w w') w) := by
  obtain ⟨vk, rfl, hk, _⟩ := he
  have HK := Lib.hid hk
  obtain ⟨a0, c0, rfl, _⟩ := hk.slice
  unfold kidStep
  rw [List.getElem?_eq_getElem hi]
  dsimp only
  generalize f.exprs[i] = e at *
  have hb := (Below.refl w.heap.size w).alloc (Nat.le_refl _) (.cells #[.int .u8 (e.k : Int), .int .i64 e.n, .slice a0 (ints e.kids).length c0] 41)
  have cf := cell_of (at_below hf hb) 0 _ rfl
  have c := stand_fn B bs g n st i (.slice a0 (ints e.kids).length c0) e.kids _ (h.below hb) (HK.out.below (hb.mono hBw)) (by omega) hB (Nat.le_trans hBw hb.size)
  have HB := Lib.hid (hb.mono hBw)
  have HO := Lib.hid (Only.of_below (g := g) hb)
  clear hb h hf hk
  generalize standN i e.kids st = R at *
  go_enter Tryd.func38, Tryd.ntmps38
  go_wp2_with fail
  refine c.mono ?_
  rintro r w1 ⟨b1, hsz, rfl, hI⟩
  have B1 := Lib.hid (HB.out.trans b1)
  have SZ := Lib.hid hsz
  have HI := Lib.hid hI
  clear b1 hsz hI c
  go_wp2_with fail
  go_ret
  exact ⟨B1.out, Nat.le_trans (by simp) SZ.out, rfl, fun s hs => ⟨(HI.out s hs).1, HO.out.trans (HI.out s hs).2⟩⟩

end Go.Proofs.YtnnjkejejlhkdaaDoor.Rt
