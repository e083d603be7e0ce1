/-
  Layer 9: which function is around which; what a function's Ups are.
-/
import Derived.Test.YtnnjkejejlhkdaaDoorRtProto
import Derived.Test.YtnnjkejejlhkdaaDoorRtRepeat
namespace Go.Proofs.YtnnjkejejlhkdaaDoor.Rt
open Go Go.RowKit

/-- What a right function's numbers are. -/
theorem fits_num {f : Pr} {strs protos : Nat} (h : fitsB f strs protos = true) : (f.boxed.length : Int) = f.slots ∧ 0 ≤ f.slots ∧ f.exprs.length ≤ 4096 ∧ ∀ e ∈ f.exprs, e.k = 7 → 0 ≤ e.n ∧ e.n < protos := by
  unfold fitsB at h
  by_cases h1 : f.slots < 0 ∨ 120 < f.slots ∨ f.params < 0 ∨ f.slots < f.params ∨ (f.boxed.length : Int) ≠ f.slots
  · rw [if_pos h1] at h; cases h
  rw [if_neg h1] at h
  by_cases h2 : 60 < f.ups.length ∨ 4096 < f.stmts.length ∨ 4096 < f.exprs.length
  · rw [if_pos h2] at h; cases h
  rw [if_neg h2] at h
  simp only [Bool.and_eq_true] at h
  refine ⟨by omega, by omega, by omega, fun e he hk => ?_⟩
  obtain ⟨i, hi, rfl⟩ := List.getElem_of_mem he
  have := allB_iff.1 h.1.2 i hi
  unfold exprB numberB at this
  rw [hk] at this
  simp [belowB] at this
  omega

def PrAt (b : Nat) (f : Pr) (w : World) : Prop := ∃ cs, w.heap[b]? = some (.cells cs 35 (0, 0)) ∧ PrC w.heap.size w cs f
theorem PrAt.below {b : Nat} {f : Pr} {w w' : World} (h : PrAt b f w) (hb : Below w.heap.size w w') : PrAt b f w' := by
  obtain ⟨cs, h1, h2⟩ := h
  exact ⟨cs, at_below h1 hb, (h2.below hb).mono hb.size⟩

set_option maxHeartbeats 4000000 in
set_option maxRecDepth 100000 in
theorem up_fn (b : Nat) (o : Pr) (u : Up) (cs : Array Value) (i : Int) (w : World) (hO : PrAt b o w) (hu : UpC cs u) (hs : (o.boxed.length : Int) = o.slots) :
    Calls Tryd.prog 34 #[.int .i64 i, .agg cs, .pointer (some ⟨b, 0, none⟩)] w fun e w' => e = .returned (.bool (upB o u)) ∧ Below w.heap.size w w' := by
  obtain ⟨rfl, hp⟩ := hu
  obtain ⟨cs, hh, vb, vu, vs, ve, rfl, hvb, hvu, _, _, _, hsl, _⟩ := hO
  have HVB := Lib.hid hvb
  obtain ⟨a3, c3, rfl, hl3⟩ := hvb.slice
  obtain ⟨a4, c4, rfl, hl4⟩ := hvu.slice
  have hb := (Below.refl w.heap.size w).alloc (Nat.le_refl _) (.cells #[.bool u.loc, .int .i64 u.pos] 37)
  have hbw := lt_of_get hh
  have d2 : (w.alloc (.cells #[.bool u.loc, .int .i64 u.pos] 37)).cell? ⟨b, 2, none⟩ = some (.int .i64 o.slots) := cell_of (at_below hh hb) 2 _ rfl
  have d3 : (w.alloc (.cells #[.bool u.loc, .int .i64 u.pos] 37)).cell? ⟨b, 3, none⟩ = some (.slice a3 (bools o.boxed).length c3) := cell_of (at_below hh hb) 3 _ rfl
  have d4 : (w.alloc (.cells #[.bool u.loc, .int .i64 u.pos] 37)).cell? ⟨b, 4, none⟩ = some (.slice a4 o.ups.length c4) := cell_of (at_below hh hb) 4 _ rfl
  have HB := Lib.hid hb
  rw [bools_len] at d3 hl3
  unfold Len at hl3 hl4
  unfold In64 at hsl hp
  obtain ⟨s1, s2⟩ := hsl
  obtain ⟨p1, p2⟩ := hp
  clear hh hvb hvu hb
  unfold upB
  obtain ⟨loc, x⟩ := u
  dsimp only at *
  cases loc with
  | false =>
    rw [if_neg (by decide)]
    by_cases h1 : x < 0
    · rw [decide_eq_false (by omega), Bool.false_and]
      go_enter Tryd.func34, Tryd.ntmps34
      go_wp2_with fail
      go_ret
      exact ⟨rfl, HB.out⟩
    · have h1' : 0 ≤ x := by omega
      rw [decide_eq_true h1', Bool.true_and]
      go_enter Tryd.func34, Tryd.ntmps34
      go_wp2_with fail
      go_ret
      exact ⟨rfl, HB.out⟩
  | true =>
    rw [if_pos rfl]
    by_cases h1 : x < 0
    · rw [decide_eq_false (by omega), Bool.false_and, Bool.false_and]
      go_enter Tryd.func34, Tryd.ntmps34
      go_wp2_with fail
      go_ret
      exact ⟨rfl, HB.out⟩
    have h1' : 0 ≤ x := by omega
    rw [decide_eq_true h1', Bool.true_and]
    by_cases h2 : x < o.slots
    · rw [decide_eq_true h2, Bool.true_and]
      obtain ⟨m, rfl⟩ : ∃ m : Nat, x = m := ⟨x.toNat, by omega⟩
      have hm : m < o.boxed.length := by omega
      have hm' : (m : Int) < o.boxed.length := by omega
      obtain ⟨g, off, cap, _, hv, _, cm⟩ := (HVB.out.below HB.out).item (i := m) (by rw [bools_len]; exact hm)
      injection hv with e1 e2 e3
      subst e1
      subst e3
      unfold bools at cm
      rw [List.getElem_map] at cm
      rw [Int.toNat_natCast, List.getD_eq_getElem?_getD, List.getElem?_eq_getElem hm, Option.getD_some]
      generalize o.boxed[m] = z at *
      clear e2
      go_enter Tryd.func34, Tryd.ntmps34
      go_wp2_with fail
      go_ret
      exact ⟨rfl, HB.out⟩
    · rw [decide_eq_false h2, Bool.false_and]
      go_enter Tryd.func34, Tryd.ntmps34
      go_wp2_with fail
      go_ret
      exact ⟨rfl, HB.out⟩

/-! ### Which function is around which -/
def ArAt (ba g n : Nat) (ar : List Int) (w : World) : Prop :=
  ar.length = n ∧ ba ≠ g ∧ w.heap[ba]? = some (.cells #[.slice (some ⟨g, 0, none⟩) n n] 39 (0, 0)) ∧ w.heap[g]? = some (.cells (ints ar).toArray 3 (0, 0))
theorem ArAt.below {ba g n : Nat} {ar : List Int} {w w' : World} (h : ArAt ba g n ar w) (hb : Below w.heap.size w w') : ArAt ba g n ar w' :=
  ⟨h.1, h.2.1, at_below h.2.2.1 hb, at_below h.2.2.2 hb⟩
theorem ArAt.set {ba g n : Nat} {ar : List Int} {w : World} (h : ArAt ba g n ar w) (i : Nat) (x : Int) : ArAt ba g n (ar.set i x) (w.setCell ⟨g, i, none⟩ (.int .i64 x)) := by
  obtain ⟨h1, h2, h3, h4⟩ := h
  refine ⟨by rw [List.length_set]; exact h1, h2, ?_, ?_⟩
  · rw [heap_setCell_other _ _ _ _ (by exact h2)]; exact h3
  · rw [heap_setCell_same _ _ _ _ _ _ h4]
    unfold ints
    rw [List.setIfInBounds_toArray, List.map_set]

set_option maxHeartbeats 4000000 in
set_option maxRecDepth 100000 in
theorem ar1_fn (B ba g N bn n : Nat) (ar : List Int) (es : List Ex) (i : Nat) (hi : i < es.length) (cs : Array Value) (w : World) (h : ArAt ba g N ar w) (hn : IntAt bn n w) (he : ExC B w cs es[i]) (h7 : es[i].k = 7 → 0 ≤ es[i].n ∧ es[i].n < N) (hB : B ≤ g) (hBw : B ≤ w.heap.size) :
    Calls Tryd.prog 32 #[.int .i64 (i : Int), .agg cs, .pointer (some ⟨bn, 0, none⟩), .pointer (some ⟨ba, 0, none⟩)] w (fun r w' => StepSays B (arStep n es i ar) (fun ar' w' => ArAt ba g N ar' w') w r w' ∧ Only g w w') := by
  obtain ⟨R, hR⟩ : ∃ R, arStep n es i ar = R := ⟨_, rfl⟩
  rw [hR]
  unfold arStep at hR
  rw [List.getElem?_eq_getElem hi] at hR
  have hR : (if es[i].k ≠ 7 then some ar else if es[i].n ≤ n ∨ ar.getD es[i].n.toNat 0 ≠ -1 then none else some (ar.set es[i].n.toNat n)) = R := hR
  have HR := Lib.hid hR
  clear hR
  obtain ⟨vk, rfl, hk, h256, _⟩ := he
  obtain ⟨a0, c0, rfl, _⟩ := hk.slice
  generalize es[i] = e at *
  obtain ⟨O, hO⟩ : ∃ O, O = Obj.cells #[.int .u8 (e.k : Int), .int .i64 e.n, .slice a0 (ints e.kids).length c0] 41 (0, 0) := ⟨_, rfl⟩
  have hb := (Below.refl w.heap.size w).alloc (Nat.le_refl _) O
  have hA := h.below hb
  have HA := Lib.hid hA
  have HW := Lib.hid h
  have HB := Lib.hid (hb.mono hBw)
  have HON := Lib.hid (Only.of_below (g := g) hb)
  have dn := cell_of (at_below hn hb) 0 _ rfl
  have da := cell_of hA.2.2.1 0 _ rfl
  have hgw := lt_of_get h.2.2.2
  have hbaw := lt_of_get h.2.2.1
  have hbnw := lt_of_get hn
  have hlen := h.1
  have h4 := hA.2.2.2
  have hfz := frozen_of_row (w.alloc O) g
  clear hb hA h hn hk
  subst hO
  by_cases q1 : e.k = 7
  · obtain ⟨m, hm⟩ : ∃ m : Nat, e.n = m := ⟨e.n.toNat, by have := h7 q1; omega⟩
    have hm7 := h7 q1
    obtain ⟨k, nn, kids⟩ := e
    dsimp only at *
    have q7 : (k : Int) = 7 := by omega
    subst hm
    have hmN : m < ar.length := by omega
    have hmN' : (m : Int) < N := by omega
    rw [if_neg (fun h => h q1), Int.toNat_natCast, show ar.getD m 0 = ar[m] from by rw [List.getD_eq_getElem?_getD, List.getElem?_eq_getElem hmN]; rfl] at HR
    have cm : (w.alloc (.cells #[.int .u8 (k : Int), .int .i64 (m : Int), .slice a0 (ints kids).length c0] 41)).cell? ⟨g, m, none⟩ = some (.int .i64 ar[m]) := by
      refine cell_of h4 _ _ ?_
      unfold ints
      rw [List.getElem?_toArray, List.getElem?_map, List.getElem?_eq_getElem hmN]; rfl
    have fz := hfz m _ _ h4
    clear hfz h4
    generalize ar[m] = y at *
    rw [q7] at dn da cm fz HA HB HON ⊢
    clear q7
    by_cases q2 : (m : Int) ≤ n
    · have e : R = none := by rw [← HR.out, if_pos (.inl q2)]
      subst e
      go_enter Tryd.func32, Tryd.ntmps32
      go_wp2_with fail
      go_ret
      exact ⟨⟨HB.out, by simp, rfl, fun s h => by cases h⟩, HON.out⟩
    by_cases q3 : y = -1
    · have e : R = some (ar.set m n) := by rw [← HR.out, if_neg (fun h => h.elim q2 (fun h => h q3))]
      subst e
      subst q3
      go_enter Tryd.func32, Tryd.ntmps32
      go_wp2_with fail
      go_ret
      have ha := (Below.refl (w.setCell ⟨g, m, none⟩ (.int .i64 (n : Int))).heap.size _).alloc (Nat.le_refl _) (.cells #[.int .u8 7, .int .i64 (m : Int), .slice a0 (ints kids).length c0] 41)
      refine ⟨⟨((Below.refl B w).setCell hB _).alloc (by simp; exact hBw) _, by simp, rfl, fun s h => ?_⟩, (Only.set _ _ _ _).trans (Only.of_below ha)⟩
      injection h with h
      subst h
      exact (HW.out.set m n).below ha
    · have e : R = none := by rw [← HR.out, if_pos (.inr q3)]
      subst e
      go_enter Tryd.func32, Tryd.ntmps32
      go_wp2_with fail
      go_ret
      exact ⟨⟨HB.out, by simp, rfl, fun s h => by cases h⟩, HON.out⟩
  · have e : R = some ar := by rw [← HR.out, if_pos q1]
    subst e
    have q1' : ¬ (e.k : Int) = 7 := by omega
    clear hfz h4
    go_enter Tryd.func32, Tryd.ntmps32
    go_wp2_with fail
    go_ret
    exact ⟨⟨HB.out, by simp, rfl, fun s h => by injection h with h; subst h; exact HA.out⟩, HON.out⟩

end Go.Proofs.YtnnjkejejlhkdaaDoor.Rt
