/-
  Layer 9: texts, none twice.
-/
import Derived.Test.YtnnjkejejlhkdaaDoorRtHang
import Derived.Maps.OwnSet
import Derived.Maps.Views
import Derived.StringKeys
namespace Go.Proofs.YtnnjkejejlhkdaaDoor.Rt
open Go Go.RowKit Go.Maps

theorem Tryd.keyText : Keyed Tryd.prog 9 := string_keyed Tryd.underlying9
theorem zero_unit (w : World) : (zeroValue 60).run Tryd.prog w = .ok (.agg #[]) w := by kernel_rfl
theorem key_text (s : ByteArray) (h : s.size ≤ maxLen) : keyOf Tryd.prog 9 (.string s) = some (.string s.data.toList) := Go.WideMaps.keyOf_string_mk Tryd.underlying9 h

/-- The texts that are known, as the closure has captured them. -/
def UnAt (b bm : Nat) (known : List (List UInt8)) (w : World) : Prop :=
  w.heap[b]? = some (.cells #[.map (some bm)] 58 (0, 0)) ∧ b ≠ bm ∧ ∃ D : DataW Unit, w.ownsMap Tryd.prog 9 unitElem bm known.length D ∧ IsMap D ∧ ∀ k, has D (.string k) = decide (k ∈ known)
theorem map_below {w w' : World} {b n : Nat} {D : DataW Unit} (h : w.ownsMap Tryd.prog 9 unitElem b n D) (hb : Below w.heap.size w w') : w'.ownsMap Tryd.prog 9 unitElem b n D := by
  have hlt := h.lt
  obtain ⟨es, clock, h1, r⟩ := h
  exact ⟨es, clock, by rw [hb.block b hlt]; exact h1, r⟩
theorem UnAt.below {b bm : Nat} {known : List (List UInt8)} {w w' : World} (h : UnAt b bm known w) (hb : Below w.heap.size w w') : UnAt b bm known w' := by
  obtain ⟨h1, h2, D, h3, h4⟩ := h
  exact ⟨at_below h1 hb, h2, D, map_below h3 hb, h4⟩
theorem un_len {strs : List ByteArray} : ∀ (i : Nat) (s : List (List UInt8)), runN (unStep strs) i [] = some s → s.length = i
  | 0, s, h => by injection h with h; rw [← h]; rfl
  | i + 1, s, h => by
    have h2 : (runN (unStep strs) i []).bind (unStep strs i) = some s := h
    cases h3 : runN (unStep strs) i [] with
    | none => rw [h3] at h2; cases h2
    | some a =>
      rw [h3] at h2
      have h4 : unStep strs i a = some s := h2
      have ih := un_len i a h3
      unfold unStep at h4
      split at h4
      · split at h4
        · cases h4
        · injection h4 with h4; rw [← h4, List.length_cons, ih]
      · cases h4

set_option maxHeartbeats 2000000 in
set_option maxRecDepth 100000 in
theorem un_fn (B b bm : Nat) (strs : List ByteArray) (known : List (List UInt8)) (i : Nat) (hi : i < strs.length) (w : World) (h : UnAt b bm known w) (hB : B ≤ bm) (hBw : B ≤ w.heap.size) (hk : known.length < maxLen) :
    Calls Tryd.prog 18 #[.int .i64 (i : Int), .string strs[i], .pointer (some ⟨b, 0, none⟩)] w (StepSays B (unStep strs i known) (UnAt b bm) w) := by
  obtain ⟨R, hR⟩ : ∃ R, unStep strs i known = R := ⟨_, rfl⟩
  rw [hR]
  unfold unStep at hR
  rw [List.getElem?_eq_getElem hi] at hR
  have hR : (if 65535 < strs[i].size ∨ strs[i].data.toList ∈ known then none else some (strs[i].data.toList :: known)) = R := hR
  have HR := Lib.hid hR
  clear hR
  generalize strs[i] = s at *
  by_cases h1 : 65535 < s.size
  · have e : R = none := by rw [← HR.out, if_pos (.inl h1)]
    subst e
    have h1' : (65535 : Int) < (s.size : Int) := by omega
    go_enter Tryd.func18, Tryd.ntmps18
    go_wp2_with fail
    go_ret
    exact ⟨Below.refl _ _, Nat.le_refl _, rfl, fun s h => by cases h⟩
  have h1' : ¬ (65535 : Int) < (s.size : Int) := by omega
  obtain ⟨hb, hne, D, hown, hmap, hhas⟩ := h
  have hkey := key_text s (by unfold maxLen; omega)
  obtain ⟨v, ps, hrun, hv⟩ := hown.look_ok Tryd.keyText Tryd.underlying58 (zero_unit w) unitElem_mk hkey
  obtain ⟨rfl, _⟩ := unitElem_inv hv
  rw [hhas] at hrun
  have c0 := cell_of hb 0 _ rfl
  have HB := Lib.hid hb
  have HW := Lib.hid hown
  have HM := Lib.hid hmap
  have HH := Lib.hid hhas
  have hlt := hown.lt
  have hbw := lt_of_get hb
  clear hb hown hmap hhas hv
  obtain ⟨W1, hW1⟩ : ∃ W1, W1 = w.alloc (.cells #[] 60) := ⟨_, rfl⟩
  have hal := (Below.refl w.heap.size w).alloc (Nat.le_refl _) (.cells #[] 60)
  have c1 := cell_of (at_below HB.out hal) 0 _ rfl
  have HAL := Lib.hid hal
  clear hal
  have hend : ∀ w2, w2.ownsMap Tryd.prog 9 unitElem bm (known.length + 1) (D.put (.string s.data.toList) (.agg [])) → W1.grownBy w2 (some bm) → Below B w w2 ∧ w.heap.size ≤ w2.heap.size ∧ UnAt b bm (s.data.toList :: known) w2 := fun w2 ho hg => by
    rw [hW1] at hg
    have hg0 := (HAL.out.mono hBw).grown hg (by simp; omega) (fun k hk => by cases hk; exact hB)
    refine ⟨hg0, hg0.size, ?_, hne, _, ho, ?_, ?_⟩
    · have := hg.block b (by simp; omega) (fun e => hne (by injection e))
      rw [this]
      exact at_below HB.out HAL.out
    · exact HM.out.put _ _
    · intro k
      by_cases e : k = s.data.toList
      · rw [e, has_put_same HM.out (by simp [WideAt.IsKeyLit])]
        exact (decide_eq_true (List.mem_cons_self ..)).symm
      · rw [has_put_other (fun h => e (by injection h)), HH.out]
        exact decide_eq_decide.2 ⟨fun h => List.mem_cons_of_mem _ h, fun h => (List.mem_cons.1 h).resolve_left e⟩
  have HEND := Lib.hid hend
  have hown1 : W1.ownsMap Tryd.prog 9 unitElem bm known.length D := by rw [hW1]; exact map_below HW.out HAL.out
  have HOW := Lib.hid hown1
  clear hend hown1
  by_cases hm : s.data.toList ∈ known
  · have e : R = none := by rw [← HR.out, if_pos (.inr hm)]
    subst e
    rw [decide_eq_true hm] at hrun
    clear hm HR HH HM HW
    go_enter Tryd.func18, Tryd.ntmps18
    go_wp2_with (at_mapUpdate; refine wpList_mapUpdate_own _ rfl _ _ _ 58 rfl 9 60 Tryd.keyText Tryd.underlying58 (unitElem (H := Unit)) bm known.length D rfl (hW1 ▸ HOW.out) hk _ _ _ rfl rfl hkey _ [] unitElem_mk ?_; intro w2 ho hg)
    rw [← hW1] at hg
    obtain ⟨q1, q2, _⟩ := HEND.out w2 ho hg
    have Q1 := Lib.hid q1
    have Q2 := Lib.hid q2
    clear q1 q2 ho hg
    go_wp2_with fail
    go_ret
    exact ⟨Q1.out, Q2.out, rfl, fun s h => by cases h⟩
  · have e : R = some (s.data.toList :: known) := by rw [← HR.out, if_neg (by rintro (h | h); · exact h1 h
                                                                              · exact hm h)]
    subst e
    rw [decide_eq_false hm] at hrun
    clear hm HR HH HM HW
    go_enter Tryd.func18, Tryd.ntmps18
    go_wp2_with (at_mapUpdate; refine wpList_mapUpdate_own _ rfl _ _ _ 58 rfl 9 60 Tryd.keyText Tryd.underlying58 (unitElem (H := Unit)) bm known.length D rfl (hW1 ▸ HOW.out) hk _ _ _ rfl rfl hkey _ [] unitElem_mk ?_; intro w2 ho hg)
    rw [← hW1] at hg
    obtain ⟨q1, q2, q3⟩ := HEND.out w2 ho hg
    have Q1 := Lib.hid q1
    have Q2 := Lib.hid q2
    have Q3 := Lib.hid q3
    clear q1 q2 q3 ho hg
    go_wp2_with fail
    go_ret
    exact ⟨Q1.out, Q2.out, rfl, fun s h => by injection h with h; subst h; exact Q3.out⟩

set_option maxHeartbeats 2000000 in
set_option maxRecDepth 100000 in
theorem unlike_fn (v : Value) (strs : List ByteArray) (w : World) (hv : LstB w.heap.size w v (texts strs)) :
    Calls Tryd.prog 12 #[v] w fun e w' => e = .returned (.bool (unlikeB strs)) ∧ Below w.heap.size w w' := by
  have hmf := run_mf
  have hmm := @run_makeMap Tryd.prog
  obtain ⟨a0, c0, rfl, hl⟩ := hv.slice
  rw [texts_len] at hl
  obtain ⟨h0, h1, hb⟩ := two w (.map #[] 0) (.cells #[.map (some w.heap.size)] 58)
  have ho := (World.ownsMap_made (H := Unit) w Tryd.prog 9 unitElem).alloc (.cells #[.map (some w.heap.size)] 58)
  obtain ⟨w2, hw2⟩ : ∃ w2, w2 = (w.alloc (.map #[] 0)).alloc (.cells #[.map (some w.heap.size)] 58) := ⟨_, rfl⟩
  rw [← hw2] at h0 h1 hb ho
  have hU : UnAt (w.heap.size + 1) w.heap.size [] w2 := ⟨h1, by omega, _, ho, isMap_empty, fun k => by simp [has]⟩
  have c := are_str w.heap.size w2 (.slice a0 (texts strs).length c0) strs 0 4096 18 #[] #[.pointer (some ⟨w.heap.size + 1, 0, none⟩)] (unStep strs) (UnAt (w.heap.size + 1) w.heap.size) [] (hv.below hb) hb.size (enters_of Tryd.func18 (by kernel_rfl) rfl) (fun _ _ _ h hb => h.below hb)
    (fun i hi s w' _ hsz hI hrn => un_fn w.heap.size (w.heap.size + 1) w.heap.size strs s i hi w' hI (Nat.le_refl _) (Nat.le_trans hb.size hsz) (by rw [un_len i s hrn]; unfold Len at hl; unfold maxLen; omega)) hU
  have HB := Lib.hid hb
  unfold unlikeB
  rw [texts_len] at c ⊢
  clear hb h0 h1 hU ho hv
  generalize runN (unStep strs) strs.length [] = R at *
  generalize spanB 0 4096 strs.length = S at *
  go_enter Tryd.func12, Tryd.ntmps12
  go_wp2_with fail
  rw [← hw2]
  refine c.mono ?_
  rintro e w3 ⟨b3, _, rfl, _⟩
  have B3 := Lib.hid (HB.out.trans b3)
  clear b3 c hw2
  go_wp2_with fail
  go_ret
  exact ⟨rfl, B3.out⟩

end Go.Proofs.YtnnjkejejlhkdaaDoor.Rt
