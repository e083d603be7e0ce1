/-
  Layer 12: the document's pool: an object of another size (written by takes.py out of pl-resize.src).
-/
import Derived.Test.YtpfhaafaoedgpaaPlRefF
namespace Go.Proofs.Ytpfhaafaoedgpaa.Pl
open Go Go.RowKit

def ResizePost (P : Nat → Prop) (p : Rp) (id size : Int) (w : World) (e : Ending) (w' : World) : Prop :=
  ∃ v', e = .returned (.tuple #[v', .int .i64 (p.resize id size).2]) ∧ RpV (fun k => P k ∨ w.heap.size ≤ k) w' v' (p.resize id size).1 ∧ Below w.heap.size w w'
theorem rz_neg (p : Rp) {id size : Int} (h : placeOf p.ids id < 0 ∨ size < 0) : p.resize id size = (p, 2) := by unfold Rp.resize; rw [if_pos h]
theorem rz_full (p : Rp) {id size : Int} {m : Nat} (h : placeOf p.ids id = m) (h0 : ¬ size < 0) (hf : size > p.bound ∨ p.sizes.sum - p.sizeAt m + size > p.bound) : p.resize id size = (p, 5) := by
  unfold Rp.resize; rw [h, Int.toNat_natCast, if_neg (by omega), if_pos hf]
theorem rz_ok (p : Rp) {id size : Int} {m : Nat} (h : placeOf p.ids id = m) (h0 : ¬ size < 0) (hf : ¬ (size > p.bound ∨ p.sizes.sum - p.sizeAt m + size > p.bound)) : p.resize id size = ({ p with sizes := p.sizes.set m size }, 0) := by
  unfold Rp.resize; rw [h, Int.toNat_natCast, if_neg (by omega), if_neg hf]
theorem own_set {w : World} {β n g cap j : Nat} {e : TypeId} {size : Nat} {xs : List Value} (h : w.ownsRow β e size (.slice (some ⟨g, 0, none⟩) n cap) n xs) (u : Value) : (w.setCell ⟨g, j, none⟩ u).ownsRow β e size (.slice (some ⟨g, 0, none⟩) n cap) n (xs.set j u) := by
  refine ⟨by rw [List.length_set]; exact h.1, ?_⟩
  rcases h.2 with ⟨h0, _⟩ | ⟨g', cap', cur, hv, hg, hh, hn, hc, hs, ht⟩
  · cases h0
  · injection hv with e1 _ e3
    injection e1 with e1
    injection e1 with e1 _ _
    subst e1
    subst e3
    refine .inr ⟨g, cap, cur.setIfInBounds j u, rfl, hg, heap_setCell_same w g j cur e u hh, hn, hc, by simp [hs], ?_⟩
    rw [Array.toList_setIfInBounds, List.take_set, ht]
theorem item_le : ∀ (l : List Int) (_ : ∀ s ∈ l, 0 ≤ s) (k : Nat) (h : k < l.length), l[k] ≤ l.sum
  | x :: xs, h, 0, _ => by
    have := (sum_take_le xs (fun s hs => h s (List.mem_cons_of_mem _ hs)) xs.length).1
    rw [List.take_length] at this
    rw [List.getElem_cons_zero, List.sum_cons]; omega
  | x :: xs, h, k + 1, hk => by
    have := item_le xs (fun s hs => h s (List.mem_cons_of_mem _ hs)) k (by simpa using hk)
    have h0 := h x (List.mem_cons_self ..)
    rw [List.getElem_cons_succ, List.sum_cons]; omega

set_option maxHeartbeats 8000000 in
set_option maxRecDepth 1000000 in
theorem resize_fn {P : Nat → Prop} (v : Value) (p : Rp) (id size : Int) (w : World) (hv : RpV P w v p) (hO : p.Ok) (hz : size ≤ 9223372036854775807) :
    Calls Try.prog 19 #[v, .int .i64 id, .int .i64 size] w (ResizePost P p id size w) := by
  obtain ⟨ai, ci, au, cu, n, rfl, hn1, hn2, hi, hs⟩ := hv.shape hO
  have hfew := hO.few
  have htop := hO.top
  have hpos := hO.pos
  have hsum := hO.sum
  rw [hn1] at hfew
  have HF := Lib.hid hfew
  have HI := Lib.hid hi
  have HS := Lib.hid hs
  have HN1 := Lib.hid hn1
  have HN2 := Lib.hid hn2
  have h5 : (n : Int) ≤ 65536 := by omega
  have hS0 : 0 ≤ p.sizes.sum := by have := (sum_take_le p.sizes hpos p.sizes.length).1; rwa [List.take_length] at this
  have hw : TkH w p.bound ai n ci au cu ((w.alloc (.cells #[.int .i64 p.bound, .slice ai n ci, .slice au n cu] 38)).alloc (.cells #[.int .i64 0, .slice none 0 0, .slice none 0 0] 38)) := by
    have h := two_below w (.cells #[.int .i64 p.bound, .slice ai n ci, .slice au n cu] 38) (.cells #[.int .i64 0, .slice none 0 0, .slice none 0 0] 38)
    exact ⟨h.2.1, h.2.2, h.1⟩
  have HPL := Lib.hid (place_fn (P := P) _ p id _ ⟨_, _, rfl, hi.below hw.2.2, hs.below hw.2.2⟩ hO)
  have HU := Lib.hid (show ∀ w1, TkH w p.bound ai n ci au cu w1 → Calls Try.prog 22 #[.agg #[.int .i64 p.bound, .slice ai n ci, .slice au n cu]] w1 (fun e w' => e = .returned (.int .i64 p.sizes.sum) ∧ TkH w p.bound ai n ci au cu w') from fun w1 h1 =>
    (used_fn (P := P) _ p w1 ⟨_, _, rfl, hi.below h1.2.2, hs.below h1.2.2⟩ hO).mono (fun _ _ h => ⟨h.1, h1.below h.2⟩))
  have HW0 := Lib.hid hw
  have HBD := Lib.hid (place_bounds p.ids id)
  have HPOS := Lib.hid hpos
  clear hi hs hO hv hn1 hn2 hfew hw hpos
  go_enter Try.func19, Try.ntmps19
  go_wp2_with fail
  refine HPL.out.mono ?_
  rintro e w1 ⟨rfl, b1⟩
  have hw1 := HW0.out.below b1
  have HW := Lib.hid hw1
  have y0 := cell_of hw1.2.1 0 _ rfl
  have y1 := cell_of hw1.2.1 1 _ rfl
  have y2 := cell_of hw1.2.1 2 _ rfl
  have f0 := free_of hw1.2.1 0
  have f1 := free_of hw1.2.1 1
  have f2 := free_of hw1.2.1 2
  obtain ⟨x0, x1, x2, -⟩ := hw1.cells
  clear hw1 b1
  by_cases hneg : placeOf p.ids id < 0
  · have HT := Lib.hid (rz_neg p (size := size) (.inl hneg))
    generalize placeOf p.ids id = q at *
    go_wp2_with fail
    refine bodyPost_ret (v := .tuple #[.agg #[.int .i64 p.bound, .slice ai n ci, .slice au n cu], .int .i64 2]) (by simp [results, Try.results19, go_sem, y0, y1, y2]) rfl ?_
    unfold ResizePost
    have hb : Below w.heap.size w (((w1.setCell ⟨w.heap.size + 1, 0, none⟩ (.int .i64 p.bound)).setCell ⟨w.heap.size + 1, 1, none⟩ (.slice ai n ci)).setCell ⟨w.heap.size + 1, 2, none⟩ (.slice au n cu)) :=
      ((HW.out.2.2.setCell (Nat.le_succ _) _).setCell (Nat.le_succ _) _).setCell (Nat.le_succ _) _
    exact ⟨_, ret_ae rfl (by rw [HT.out]), by rw [HT.out]; exact ⟨_, _, rfl, (HI.out.below hb).mono (fun _ _ h => .inl h), (HS.out.below hb).mono (fun _ _ h => .inl h)⟩, hb⟩
  · obtain ⟨m, hm⟩ : ∃ m : Nat, placeOf p.ids id = m := ⟨(placeOf p.ids id).toNat, by omega⟩
    have hmn : m < n := by have := HBD.out.2.1; rw [hm, HN1.out] at this; omega
    have HM := Lib.hid hm
    rw [hm]
    clear hm hneg
    have hmn' : (m : Int) < n := by omega
    by_cases hsz : size < 0
    · have HT := Lib.hid (rz_neg p (id := id) (.inr hsz))
      go_wp2_with fail
      refine bodyPost_ret (v := .tuple #[.agg #[.int .i64 p.bound, .slice ai n ci, .slice au n cu], .int .i64 2]) (by simp [results, Try.results19, go_sem, y0, y1, y2]) rfl ?_
      unfold ResizePost
      have hb : Below w.heap.size w (((w1.setCell ⟨w.heap.size + 1, 0, none⟩ (.int .i64 p.bound)).setCell ⟨w.heap.size + 1, 1, none⟩ (.slice ai n ci)).setCell ⟨w.heap.size + 1, 2, none⟩ (.slice au n cu)) :=
        ((HW.out.2.2.setCell (Nat.le_succ _) _).setCell (Nat.le_succ _) _).setCell (Nat.le_succ _) _
      exact ⟨_, ret_ae rfl (by rw [HT.out]), by rw [HT.out]; exact ⟨_, _, rfl, (HI.out.below hb).mono (fun _ _ h => .inl h), (HS.out.below hb).mono (fun _ _ h => .inl h)⟩, hb⟩
    · have hkb : m < p.sizes.length := by rw [HN2.out]; exact hmn
      obtain ⟨g, off, cap2, hPg, hg, hv, -, d0⟩ := HS.out.item (i := m) (by rw [ints_len]; exact hkb)
      rw [ints_get _ _ hkb] at d0
      injection hv with hv1 hv4 hv5
      subst hv1
      have hile := item_le p.sizes HPOS.out m hkb
      have hi0 := HPOS.out _ (List.getElem_mem hkb)
      have hat : p.sizeAt m = p.sizes[m] := by unfold Rp.sizeAt; rw [List.getD_eq_getElem?_getD, List.getElem?_eq_getElem hkb]; rfl
      have c1 : ∀ w', TkH w p.bound ai n ci (some ⟨g, off, none⟩) cu w' → w'.cell? ⟨g, off + m, none⟩ = some (.int .i64 p.sizes[m]) := fun w' h => by rw [h.2.2.cell (p := ⟨g, off + m, none⟩) hg]; exact d0
      have HSZ := Lib.hid hat
      generalize p.sizes[m] = s at *
      have HC := Lib.hid c1
      clear c1 d0 hg hPg hv4 hv5 hat HPL
      have hsz' : 0 ≤ size := by omega
      have KS := Lib.hid (show ∀ w1, TkH w p.bound ai n ci (some ⟨g, off, none⟩) cu w1 → _ from fun w1 h1 => And.intro (HC.out w1 h1) h1.cells)
      have hwd : TkH w p.bound ai n ci (some ⟨g, off, none⟩) cu w1.drew := ⟨HW.out.1, HW.out.2.1, HW.out.2.2.drew⟩
      by_cases h2 : p.bound < size
      · have HT := Lib.hid (rz_full p HM.out hsz (.inl h2))
        go_upto_region 4 with fail
        refine wp_region_held_drew (S := (fun w' => w'.cell? ⟨g, off + m, none⟩ = some (.int .i64 s) ∧ w'.cell? ⟨w.heap.size, 0, none⟩ = some (.int .i64 p.bound) ∧ w'.cell? ⟨w.heap.size, 1, none⟩ = some (.slice ai n ci) ∧ w'.cell? ⟨w.heap.size, 2, none⟩ = some (.slice (some ⟨g, off, none⟩) n cu) ∧ TkH w p.bound ai n ci (some ⟨g, off, none⟩) cu w')) mixed (KS.out _ hwd) (fun hS => ?_)
        refine wpAnyH_take (i := 0) (v := ?va0) rfl (by kernel_rfl) (by kernel_rfl) (by kernel_rfl) (fun _ _ _ h => h) (.inl ⟨by rfl, ?ha0⟩) hS ?ra0
        case ha0 =>
          intro w' hs
          (try dsimp only at hs)
          go_split_ands
          go_simp
          try with_reducible rfl
        simp only [List.getElem_toArray, List.getElem_cons_zero, Act.put, List.setIfInBounds_toArray, List.set_cons_zero, List.set_cons_succ]
        refine wpAnyH_take (i := 1) (v := ?va1) rfl (by kernel_rfl) (by kernel_rfl) (by kernel_rfl) (fun _ _ _ h => h) (.inl ⟨by rfl, ?ha1⟩) hS ?ra1
        case ha1 =>
          intro w' hs
          (try dsimp only at hs)
          go_split_ands
          go_simp
          try with_reducible rfl
        simp only [List.getElem_toArray, List.getElem_cons_succ, List.getElem_cons_zero, Act.put, List.setIfInBounds_toArray, List.set_cons_zero, List.set_cons_succ]
        refine wpAnyH_take (i := 2) (v := ?va2) rfl (by kernel_rfl) (by kernel_rfl) (by kernel_rfl) (fun _ _ _ h => h) (.inl ⟨by rfl, ?ha2⟩) hS ?ra2
        case ha2 =>
          intro w' hs
          (try dsimp only at hs)
          go_split_ands
          go_simp
          try with_reducible rfl
        simp only [List.getElem_toArray, List.getElem_cons_succ, List.getElem_cons_zero, Act.put, List.setIfInBounds_toArray, List.set_cons_zero, List.set_cons_succ]
        refine wpAnyH_take (i := 3) (v := ?va3) rfl (by kernel_rfl) (by kernel_rfl) (by kernel_rfl) (fun _ _ _ h => h) (.inl ⟨by rfl, ?ha3⟩) hS ?ra3
        case ha3 =>
          intro w' hs
          (try dsimp only at hs)
          go_split_ands
          go_simp
          try with_reducible rfl
        simp only [List.getElem_toArray, List.getElem_cons_succ, List.getElem_cons_zero, Act.put, List.setIfInBounds_toArray, List.set_cons_zero, List.set_cons_succ]
        refine wpAnyH_take (i := 4) (v := ?va4) rfl (by kernel_rfl) (by kernel_rfl) (by kernel_rfl) (fun _ _ _ h => h) (.inl ⟨by rfl, ?ha4⟩) hS ?ra4
        case ha4 =>
          intro w' hs
          (try dsimp only at hs)
          go_split_ands
          go_simp
          try with_reducible rfl
        simp only [List.getElem_toArray, List.getElem_cons_succ, List.getElem_cons_zero, Act.put, List.setIfInBounds_toArray, List.set_cons_zero, List.set_cons_succ]
        refine wpAnyH_take (i := 5) (v := undef) rfl (by kernel_rfl) (by kernel_rfl) (by kernel_rfl) (fun _ _ _ h => h) (.inr ⟨by rfl, rfl⟩) hS ?_
        simp only [List.getElem_toArray, List.getElem_cons_succ, List.getElem_cons_zero, Act.put, List.setIfInBounds_toArray, List.set_cons_zero, List.set_cons_succ]
        refine wpAnyH_take (i := 6) (v := undef) rfl (by kernel_rfl) (by kernel_rfl) (by kernel_rfl) (fun _ _ _ h => h) (.inr ⟨by rfl, rfl⟩) hS ?_
        simp only [List.getElem_toArray, List.getElem_cons_succ, List.getElem_cons_zero, Act.put, List.setIfInBounds_toArray, List.set_cons_zero, List.set_cons_succ]
        refine wpAnyH_take (i := 7) (v := undef) rfl (by kernel_rfl) (by kernel_rfl) (by kernel_rfl) (fun _ _ _ h => h) (.inr ⟨by rfl, rfl⟩) hS ?_
        simp only [List.getElem_toArray, List.getElem_cons_succ, List.getElem_cons_zero, Act.put, List.setIfInBounds_toArray, List.set_cons_zero, List.set_cons_succ]
        refine wpAnyH_take (i := 8) (v := undef) rfl (by kernel_rfl) (by kernel_rfl) (by kernel_rfl) (fun _ _ _ h => h) (.inr ⟨by rfl, rfl⟩) hS ?_
        simp only [List.getElem_toArray, List.getElem_cons_succ, List.getElem_cons_zero, Act.put, List.setIfInBounds_toArray, List.set_cons_zero, List.set_cons_succ]
        refine wpAnyH_take (i := 9) (v := undef) rfl (by kernel_rfl) (by kernel_rfl) (by kernel_rfl) (fun _ _ _ h => h) (.inr ⟨by rfl, rfl⟩) hS ?_
        simp only [List.getElem_toArray, List.getElem_cons_succ, List.getElem_cons_zero, Act.put, List.setIfInBounds_toArray, List.set_cons_zero, List.set_cons_succ]
        refine wpAnyH_take (i := 10) (v := undef) rfl (by kernel_rfl) (by kernel_rfl) (by kernel_rfl) (fun _ _ _ h => h) (.inr ⟨by rfl, rfl⟩) hS ?_
        simp only [List.getElem_toArray, List.getElem_cons_succ, List.getElem_cons_zero, Act.put, List.setIfInBounds_toArray, List.set_cons_zero, List.set_cons_succ]
        refine wpAnyH_take (i := 11) (v := undef) rfl (by kernel_rfl) (by kernel_rfl) (by kernel_rfl) (fun _ _ _ h => h) (.inr ⟨by rfl, rfl⟩) hS ?_
        simp only [List.getElem_toArray, List.getElem_cons_succ, List.getElem_cons_zero, Act.put, List.setIfInBounds_toArray, List.set_cons_zero, List.set_cons_succ]
        refine wpAnyH_take (i := 12) (v := undef) rfl (by kernel_rfl) (by kernel_rfl) (by kernel_rfl) (fun _ _ _ h => h) (.inr ⟨by rfl, rfl⟩) hS ?_
        simp only [List.getElem_toArray, List.getElem_cons_succ, List.getElem_cons_zero, Act.put, List.setIfInBounds_toArray, List.set_cons_zero, List.set_cons_succ]
        refine wpAnyH_take (i := 13) (v := undef) rfl (by kernel_rfl) (by kernel_rfl) (by kernel_rfl) (fun _ _ _ h => h) (.inr ⟨by rfl, rfl⟩) hS ?_
        simp only [List.getElem_toArray, List.getElem_cons_succ, List.getElem_cons_zero, Act.put, List.setIfInBounds_toArray, List.set_cons_zero, List.set_cons_succ]
        refine wpAnyH_take (i := 14) (v := undef) rfl (by kernel_rfl) (by kernel_rfl) (by kernel_rfl) (fun _ _ _ h => h) (.inr ⟨by rfl, rfl⟩) hS ?_
        simp only [List.getElem_toArray, List.getElem_cons_succ, List.getElem_cons_zero, Act.put, List.setIfInBounds_toArray, List.set_cons_zero, List.set_cons_succ]
        refine wpAnyH_take (i := 15) (v := undef) rfl (by kernel_rfl) (by kernel_rfl) (by kernel_rfl) (fun _ _ _ h => h) (.inr ⟨by rfl, rfl⟩) hS ?_
        simp only [List.getElem_toArray, List.getElem_cons_succ, List.getElem_cons_zero, Act.put, List.setIfInBounds_toArray, List.set_cons_zero, List.set_cons_succ]
        refine wpAnyH_take (i := 16) (v := undef) rfl (by kernel_rfl) (by kernel_rfl) (by kernel_rfl) (fun _ _ _ h => h) (.inr ⟨by rfl, rfl⟩) hS ?_
        simp only [List.getElem_toArray, List.getElem_cons_succ, List.getElem_cons_zero, Act.put, List.setIfInBounds_toArray, List.set_cons_zero, List.set_cons_succ]
        refine wpAnyH_take (i := 17) (v := undef) rfl (by kernel_rfl) (by kernel_rfl) (by kernel_rfl) (fun _ _ _ h => h) (.inr ⟨by rfl, rfl⟩) hS ?_
        simp only [List.getElem_toArray, List.getElem_cons_succ, List.getElem_cons_zero, Act.put, List.setIfInBounds_toArray, List.set_cons_zero, List.set_cons_succ]
        refine wpAnyH_take (i := 18) (v := ?va18) rfl (by kernel_rfl) (by kernel_rfl) (by kernel_rfl) (fun _ _ _ h => h) (.inl ⟨by rfl, ?ha18⟩) hS ?ra18
        case ha18 =>
          intro w' hs
          (try dsimp only at hs)
          go_split_ands
          go_simp
          try with_reducible rfl
        simp only [List.getElem_toArray, List.getElem_cons_succ, List.getElem_cons_zero, Act.put, List.setIfInBounds_toArray, List.set_cons_zero, List.set_cons_succ]
        refine wpAnyH_done (by kernel_rfl) ?_ _
        clear hS
        have HW := Lib.hid hwd
        have y0 : w1.drew.cell? _ = _ := y0
        have y1 : w1.drew.cell? _ = _ := y1
        have y2 : w1.drew.cell? _ = _ := y2
        have x0 : w1.drew.cell? _ = _ := x0
        have x1 : w1.drew.cell? _ = _ := x1
        have x2 : w1.drew.cell? _ = _ := x2
        have f0 : w1.drew.frozen? _ = _ := f0
        have f1 : w1.drew.frozen? _ = _ := f1
        have f2 : w1.drew.frozen? _ = _ := f2
        clear hwd HU
        generalize w1.drew = w1d at *
        go_wp2_with fail
        refine bodyPost_ret (v := .tuple #[.agg #[.int .i64 p.bound, .slice ai n ci, .slice (some ⟨g, off, none⟩) n cu], .int .i64 5]) (by simp [results, Try.results19, go_sem, y0, y1, y2]) rfl ?_
        unfold ResizePost
        have hb : Below w.heap.size w (((w1d.setCell ⟨w.heap.size + 1, 0, none⟩ (.int .i64 p.bound)).setCell ⟨w.heap.size + 1, 1, none⟩ (.slice ai n ci)).setCell ⟨w.heap.size + 1, 2, none⟩ (.slice (some ⟨g, off, none⟩) n cu)) :=
          ((HW.out.2.2.setCell (Nat.le_succ _) _).setCell (Nat.le_succ _) _).setCell (Nat.le_succ _) _
        exact ⟨_, ret_ae rfl (by rw [HT.out]), by rw [HT.out]; exact ⟨_, _, rfl, (HI.out.below hb).mono (fun _ _ h => .inl h), (HS.out.below hb).mono (fun _ _ h => .inl h)⟩, hb⟩
      · have e1 := IntWalk.i64_in (p.sizes.sum - s) (by omega)
        have e2 := IntWalk.i64_in (p.sizes.sum - s + size) (by omega)
        have hb0 : ∀ U, p.sizes.sum = U → (p.bound < U - s + size ↔ p.bound < p.sizes.sum - s + size) := fun U h => by rw [h]
        have HFULL := Lib.hid (fun h => rz_full p (id := id) (size := size) HM.out hsz (.inr h))
        have HOK := Lib.hid (fun h => rz_ok p (id := id) (size := size) HM.out hsz h)
        rw [HSZ.out] at HFULL HOK
        clear hb0
        have HD := Lib.hid (show decide (p.bound < size) = false from decide_eq_false h2)
        generalize p.sizes.sum = U at *
        obtain ⟨β, hβ⟩ : ∃ β, β = decide (p.bound < U - s + size) := ⟨_, rfl⟩
        have hβ' := hβ.symm
        have HB := Lib.hid hβ
        clear hβ
        go_upto_region 4 with fail
        refine wp_region_held_drew (S := (fun w' => w'.cell? ⟨g, off + m, none⟩ = some (.int .i64 s) ∧ w'.cell? ⟨w.heap.size, 0, none⟩ = some (.int .i64 p.bound) ∧ w'.cell? ⟨w.heap.size, 1, none⟩ = some (.slice ai n ci) ∧ w'.cell? ⟨w.heap.size, 2, none⟩ = some (.slice (some ⟨g, off, none⟩) n cu) ∧ TkH w p.bound ai n ci (some ⟨g, off, none⟩) cu w')) mixed (KS.out _ hwd) (fun hS => ?_)
        refine wpAnyH_take (i := 0) (v := ?vb0) rfl (by kernel_rfl) (by kernel_rfl) (by kernel_rfl) (fun _ _ _ h => h) (.inl ⟨by rfl, ?hb0⟩) hS ?rb0
        case hb0 =>
          intro w' hs
          (try dsimp only at hs)
          go_split_ands
          go_simp
          try with_reducible rfl
        simp only [List.getElem_toArray, List.getElem_cons_zero, Act.put, List.setIfInBounds_toArray, List.set_cons_zero, List.set_cons_succ]
        refine wpAnyH_take (i := 1) (v := ?vb1) rfl (by kernel_rfl) (by kernel_rfl) (by kernel_rfl) (fun _ _ _ h => h) (.inl ⟨by rfl, ?hb1⟩) hS ?rb1
        case hb1 =>
          intro w' hs
          (try dsimp only at hs)
          go_split_ands
          go_simp
          try with_reducible rfl
        simp only [List.getElem_toArray, List.getElem_cons_succ, List.getElem_cons_zero, Act.put, List.setIfInBounds_toArray, List.set_cons_zero, List.set_cons_succ]
        refine wpAnyH_take (i := 2) (v := ?vb2) rfl (by kernel_rfl) (by kernel_rfl) (by kernel_rfl) (fun _ _ _ h => h) (.inl ⟨by rfl, ?hb2⟩) hS ?rb2
        case hb2 =>
          intro w' hs
          (try dsimp only at hs)
          go_split_ands
          go_simp
          try with_reducible rfl
        simp only [List.getElem_toArray, List.getElem_cons_succ, List.getElem_cons_zero, Act.put, List.setIfInBounds_toArray, List.set_cons_zero, List.set_cons_succ]
        refine wpAnyH_take (i := 3) (v := ?vb3) rfl (by kernel_rfl) (by kernel_rfl) (by kernel_rfl) (fun _ _ _ h => h) (.inl ⟨by rfl, ?hb3⟩) hS ?rb3
        case hb3 =>
          intro w' hs
          (try dsimp only at hs)
          go_split_ands
          go_simp
          try with_reducible rfl
        simp only [List.getElem_toArray, List.getElem_cons_succ, List.getElem_cons_zero, Act.put, List.setIfInBounds_toArray, List.set_cons_zero, List.set_cons_succ]
        refine wpAnyH_take (i := 4) (v := ?vb4) rfl (by kernel_rfl) (by kernel_rfl) (by kernel_rfl) (fun _ _ _ h => h) (.inl ⟨by rfl, ?hb4⟩) hS ?rb4
        case hb4 =>
          intro w' hs
          (try dsimp only at hs)
          go_split_ands
          go_simp
          try with_reducible rfl
        simp only [List.getElem_toArray, List.getElem_cons_succ, List.getElem_cons_zero, Act.put, List.setIfInBounds_toArray, List.set_cons_zero, List.set_cons_succ]
        rw [HD.out]
        refine wpAnyH_take (i := 5) (v := ?vb5) rfl (by kernel_rfl) (by kernel_rfl) (by kernel_rfl) (fun _ _ _ h => h) (.inl ⟨by rfl, ?hb5⟩) hS ?rb5
        case hb5 =>
          intro w' hs
          (try dsimp only at hs)
          go_split_ands
          go_simp
          try with_reducible rfl
        simp only [List.getElem_toArray, List.getElem_cons_succ, List.getElem_cons_zero, Act.put, List.setIfInBounds_toArray, List.set_cons_zero, List.set_cons_succ]
        refine wpAnyH_take (i := 7) (v := ?vb7) rfl (by kernel_rfl) (by kernel_rfl) (by kernel_rfl) (fun _ _ _ h => h) (.inl ⟨by rfl, ?hb7⟩) hS ?rb7
        case hb7 =>
          intro w' hs
          (try dsimp only at hs)
          go_split_ands
          go_simp
          try with_reducible rfl
        simp only [List.getElem_toArray, List.getElem_cons_succ, List.getElem_cons_zero, Act.put, List.setIfInBounds_toArray, List.set_cons_zero, List.set_cons_succ]
        refine wpAnyH_take (i := 8) (v := ?vb8) rfl (by kernel_rfl) (by kernel_rfl) (by kernel_rfl) (fun _ _ _ h => h) (.inl ⟨by rfl, ?hb8⟩) hS ?rb8
        case hb8 =>
          intro w' hs
          (try dsimp only at hs)
          go_split_ands
          go_simp
          try with_reducible rfl
        simp only [List.getElem_toArray, List.getElem_cons_succ, List.getElem_cons_zero, Act.put, List.setIfInBounds_toArray, List.set_cons_zero, List.set_cons_succ]
        refine wpAnyH_take (i := 9) (v := ?vb9) rfl (by kernel_rfl) (by kernel_rfl) (by kernel_rfl) (fun _ _ _ h => h) (.inl ⟨by rfl, ?hb9⟩) hS ?rb9
        case hb9 =>
          intro w' hs
          (try dsimp only at hs)
          go_split_ands
          go_simp
          try with_reducible rfl
        simp only [List.getElem_toArray, List.getElem_cons_succ, List.getElem_cons_zero, Act.put, List.setIfInBounds_toArray, List.set_cons_zero, List.set_cons_succ]
        refine wpAnyH_take (i := 10) (v := ?vb10) rfl (by kernel_rfl) (by kernel_rfl) (by kernel_rfl) (fun _ _ _ h => h) (.inl ⟨by rfl, ?hb10⟩) hS ?rb10
        case hb10 =>
          intro w' hs
          (try dsimp only at hs)
          go_split_ands
          go_simp
          try with_reducible rfl
        simp only [List.getElem_toArray, List.getElem_cons_succ, List.getElem_cons_zero, Act.put, List.setIfInBounds_toArray, List.set_cons_zero, List.set_cons_succ]
        refine wpAnyH_take (i := 11) (v := ?vb11) rfl (by kernel_rfl) (by kernel_rfl) (by kernel_rfl) (fun _ _ _ h => h) (.inl ⟨by rfl, ?hb11⟩) hS ?rb11
        case hb11 =>
          intro w' hs
          (try dsimp only at hs)
          go_split_ands
          go_simp
          try with_reducible rfl
        simp only [List.getElem_toArray, List.getElem_cons_succ, List.getElem_cons_zero, Act.put, List.setIfInBounds_toArray, List.set_cons_zero, List.set_cons_succ]
        refine wpAnyH_take (i := 13) (v := ?vb13) rfl (by kernel_rfl) (by kernel_rfl) (by kernel_rfl) (fun _ _ _ h => h) (.inl ⟨by rfl, ?hb13⟩) hS ?rb13
        case hb13 =>
          intro w' hs
          (try dsimp only at hs)
          go_split_ands
          go_simp
          try with_reducible rfl
        simp only [List.getElem_toArray, List.getElem_cons_succ, List.getElem_cons_zero, Act.put, List.setIfInBounds_toArray, List.set_cons_zero, List.set_cons_succ]
        refine wpAnyH_take (i := 15) (v := ?vb15) rfl (by kernel_rfl) (by kernel_rfl) (by kernel_rfl) (fun _ _ _ h => h) (.inl ⟨by rfl, ?hb15⟩) hS ?rb15
        case hb15 =>
          intro w' hs
          (try dsimp only at hs)
          go_split_ands
          go_simp
          try with_reducible rfl
        simp only [List.getElem_toArray, List.getElem_cons_succ, List.getElem_cons_zero, Act.put, List.setIfInBounds_toArray, List.set_cons_zero, List.set_cons_succ]
        refine wpAnyH_take (i := 16) (v := ?vb16) rfl (by kernel_rfl) (by kernel_rfl) (by kernel_rfl) (fun _ _ _ h => h) (.inl ⟨by rfl, ?hb16⟩) hS ?rb16
        case hb16 =>
          intro w' hs
          (try dsimp only at hs)
          go_split_ands
          go_simp
          try with_reducible rfl
        simp only [List.getElem_toArray, List.getElem_cons_succ, List.getElem_cons_zero, Act.put, List.setIfInBounds_toArray, List.set_cons_zero, List.set_cons_succ]
        refine wpAnyH_ready (rs := [6]) (by kernel_rfl) (by simp) (AllReadyH.cons rfl (fun K hK => ?_) AllReadyH.nil)
        go_simp
        go_at_call 22
        refine (HU.out _ hwd).mono ?_
        rintro e w2 ⟨rfl, hw2⟩
        go_wp2_with fail
        refine hK.out _ _ (KS.out _ hw2) (fun hS => ?_)
        clear hK
        refine wpAnyH_take (i := 12) (v := ?vb12) rfl (by kernel_rfl) (by kernel_rfl) (by kernel_rfl) (fun _ _ _ h => h) (.inl ⟨by rfl, ?hb12⟩) hS ?rb12
        case hb12 =>
          intro w' hs
          (try dsimp only at hs)
          go_split_ands
          go_simp
          try with_reducible rfl
        simp only [List.getElem_toArray, List.getElem_cons_succ, List.getElem_cons_zero, Act.put, List.setIfInBounds_toArray, List.set_cons_zero, List.set_cons_succ]
        refine wpAnyH_take (i := 14) (v := ?vb14) rfl (by kernel_rfl) (by kernel_rfl) (by kernel_rfl) (fun _ _ _ h => h) (.inl ⟨by rfl, ?hb14⟩) hS ?rb14
        case hb14 =>
          intro w' hs
          (try dsimp only at hs)
          go_split_ands
          go_simp
          try with_reducible rfl
        simp only [List.getElem_toArray, List.getElem_cons_succ, List.getElem_cons_zero, Act.put, List.setIfInBounds_toArray, List.set_cons_zero, List.set_cons_succ]
        refine wpAnyH_take (i := 17) (v := ?vb17) rfl (by kernel_rfl) (by kernel_rfl) (by kernel_rfl) (fun _ _ _ h => h) (.inl ⟨by rfl, ?hb17⟩) hS ?rb17
        case hb17 =>
          intro w' hs
          (try dsimp only at hs)
          go_split_ands
          go_simp
          try with_reducible rfl
        simp only [List.getElem_toArray, List.getElem_cons_succ, List.getElem_cons_zero, Act.put, List.setIfInBounds_toArray, List.set_cons_zero, List.set_cons_succ]
        refine wpAnyH_take (i := 18) (v := ?vb18) rfl (by kernel_rfl) (by kernel_rfl) (by kernel_rfl) (fun _ _ _ h => h) (.inl ⟨by rfl, ?hb18⟩) hS ?rb18
        case hb18 =>
          intro w' hs
          (try dsimp only at hs)
          go_split_ands
          go_simp
          try with_reducible rfl
        simp only [List.getElem_toArray, List.getElem_cons_succ, List.getElem_cons_zero, Act.put, List.setIfInBounds_toArray, List.set_cons_zero, List.set_cons_succ]
        refine wpAnyH_done (by kernel_rfl) ?_ _
        have y0 := cell_of hw2.2.1 0 _ rfl
        have y1 := cell_of hw2.2.1 1 _ rfl
        have y2 := cell_of hw2.2.1 2 _ rfl
        have f0 := free_of hw2.2.1 0
        have f1 := free_of hw2.2.1 1
        have f2 := free_of hw2.2.1 2
        obtain ⟨x0, x1, x2, -⟩ := hw2.cells
        have HW := Lib.hid hw2
        clear hS HU KS hwd
        cases β with
        | true =>
          have HT := Lib.hid (HFULL.out (of_decide_eq_true hβ'))
          clear hw2 HFULL HOK
          go_wp2_with fail
          refine bodyPost_ret (v := .tuple #[.agg #[.int .i64 p.bound, .slice ai n ci, .slice (some ⟨g, off, none⟩) n cu], .int .i64 5]) (by simp [results, Try.results19, go_sem, y0, y1, y2]) rfl ?_
          unfold ResizePost
          have hb : Below w.heap.size w (((w2.setCell ⟨w.heap.size + 1, 0, none⟩ (.int .i64 p.bound)).setCell ⟨w.heap.size + 1, 1, none⟩ (.slice ai n ci)).setCell ⟨w.heap.size + 1, 2, none⟩ (.slice (some ⟨g, off, none⟩) n cu)) :=
            ((HW.out.2.2.setCell (Nat.le_succ _) _).setCell (Nat.le_succ _) _).setCell (Nat.le_succ _) _
          exact ⟨_, ret_ae rfl (by rw [HT.out]), by rw [HT.out]; exact ⟨_, _, rfl, (HI.out.below hb).mono (fun _ _ h => .inl h), (HS.out.below hb).mono (fun _ _ h => .inl h)⟩, hb⟩
        | false =>
          have HT := Lib.hid (HOK.out (by have := of_decide_eq_false hβ'; omega))
          clear hw2 HFULL HOK x0 x1 y0 y1 y2 f0 f1 f2
          have hsl : LstP P w2 (.slice (some ⟨g, off, none⟩) n cu) (ints p.sizes) := HS.out.below HW.out.2.2
          go_wp2_with (at_builtin; go_loud (refine wpList_append_part rfl (.tmp 40) (.tmp 42) 36 rfl w2.heap.size 3 (.int .i64 0) 8 Try.underlying36 infoInt rfl (.slice none 0 0) 0 [] rfl (World.ownsRow_nil _ _ _ _) _ (ints p.sizes) rfl hsl (oneInts _) ?la ?ma (Nat.le_refl _) ?_))
          case la => exact Nat.le_trans (m := 200000) (by have := HF.out; have := HN2.out; rw [ints_len]; omega) (by decide)
          case ma => exact Nat.le_trans (Nat.mul_le_mul_right 8 (m := 200000) (by have := HF.out; have := HN2.out; rw [ints_len]; omega)) (by decide)
          intro v2 w3 h1 h2 h3
          have h1 : w3.ownsRow w2.heap.size 3 1 v2 n (ints p.sizes) := by
            have h := h1
            rw [show n = (ints p.sizes).length by rw [ints_len, HN2.out]]
            simpa using h
          have hb3 : Below w2.heap.size w2 w3 := (Below.refl _ _).grown h2 (Nat.le_refl _) (fun k hk => by cases hk)
          obtain ⟨g2, c2, rfl, hg2, cur, hh⟩ : ∃ g2 c2, v2 = .slice (some ⟨g2, 0, none⟩) n c2 ∧ w2.heap.size ≤ g2 ∧ ∃ cur, w3.heap[g2]? = some (.cells cur 3 (0, 0)) := by
            rcases h1.2 with ⟨_, h0⟩ | ⟨g2, c2, cur, rfl, hg2, hh, _⟩
            · omega
            · exact ⟨g2, c2, rfl, hg2, cur, hh⟩
          obtain ⟨u, hu⟩ : ∃ u, w3.cell? ⟨g2, m, none⟩ = some u := ⟨_, by rw [h1.cellAt m (by omega)]; exact List.getElem?_eq_getElem (by rw [ints_len, HN2.out]; exact hmn)⟩
          have hfr := free_of hh m
          have hw3 := HW.out.below hb3
          have x0 := cell_of hw3.1 0 _ rfl
          have x1 := cell_of hw3.1 1 _ rfl
          have x2 := cell_of hw3.1 2 _ rfl
          have g0 := free_of hw3.1 2
          have y0 := cell_of hw3.2.1 0 _ rfl
          have y1 := cell_of hw3.2.1 1 _ rfl
          have y2 := cell_of hw3.2.1 2 _ rfl
          have f0 := free_of hw3.2.1 0
          have f1 := free_of hw3.2.1 1
          have f2 := free_of hw3.2.1 2
          have hlb := lt_of_get HW.out.2.1
          have n1 : ¬ g2 = w.heap.size := by omega
          have n2 : ¬ g2 = w.heap.size + 1 := by omega
          have n3 : ¬ w.heap.size = g2 := by omega
          have n4 : ¬ w.heap.size + 1 = g2 := by omega
          have ho4 := own_set (j := m) h1 (.int .i64 size)
          rw [show (ints p.sizes).set m (.int .i64 size) = ints (p.sizes.set m size) from by unfold ints; rw [List.map_set]] at ho4
          have HO4 := Lib.hid ho4
          have HW3 := Lib.hid hw3
          have HG2 := Lib.hid hg2
          have HLB := Lib.hid hlb
          clear h1 h2 h3 hb3 hh ho4 hw3 hsl hg2 hlb
          go_wp2_with fail
          refine bodyPost_ret (v := .tuple #[.agg #[.int .i64 p.bound, .slice ai n ci, .slice (some ⟨g2, 0, none⟩) n c2], .int .i64 0]) (by simp [results, Try.results19, go_sem, y0, y1, y2]) rfl ?_
          unfold ResizePost
          have hlb := HLB.out
          have hgg := HG2.out
          have hkeep : ∀ (k : Nat), w2.heap.size ≤ k → (((((w3.setCell ⟨g2, m, none⟩ (.int .i64 size)).setCell ⟨w.heap.size, 2, none⟩ (.slice (some ⟨g2, 0, none⟩) n c2)).setCell ⟨w.heap.size + 1, 0, none⟩ (.int .i64 p.bound)).setCell ⟨w.heap.size + 1, 1, none⟩ (.slice ai n ci)).setCell ⟨w.heap.size + 1, 2, none⟩ (.slice (some ⟨g2, 0, none⟩) n c2)).heap[k]? = (w3.setCell ⟨g2, m, none⟩ (.int .i64 size)).heap[k]? := fun k hk => by
            rw [heap_setCell_other _ _ _ _ (show k ≠ w.heap.size + 1 by omega), heap_setCell_other _ _ _ _ (show k ≠ w.heap.size + 1 by omega), heap_setCell_other _ _ _ _ (show k ≠ w.heap.size + 1 by omega), heap_setCell_other _ _ _ _ (show k ≠ w.heap.size by omega)]
          have hb : Below w.heap.size w (((((w3.setCell ⟨g2, m, none⟩ (.int .i64 size)).setCell ⟨w.heap.size, 2, none⟩ (.slice (some ⟨g2, 0, none⟩) n c2)).setCell ⟨w.heap.size + 1, 0, none⟩ (.int .i64 p.bound)).setCell ⟨w.heap.size + 1, 1, none⟩ (.slice ai n ci)).setCell ⟨w.heap.size + 1, 2, none⟩ (.slice (some ⟨g2, 0, none⟩) n c2)) :=
            ((((HW3.out.2.2.setCell (p := ⟨g2, m, none⟩) (by show w.heap.size ≤ g2; omega) _).setCell (p := ⟨w.heap.size, 2, none⟩) (Nat.le_refl _) _).setCell (Nat.le_succ _) _).setCell (Nat.le_succ _) _).setCell (Nat.le_succ _) _
          have k2 : LstP (w2.heap.size ≤ ·) (w3.setCell ⟨g2, m, none⟩ (.int .i64 size)) (.slice (some ⟨g2, 0, none⟩) n c2) (ints (p.sizes.set m size)) := LstP.own HO4.out (by have := HF.out; unfold Len; omega)
          have k4 := (k2.keep (fun k hk _ => hkeep k hk) (by simp)).mono (P' := fun k => P k ∨ w.heap.size ≤ k) (fun k _ h => .inr (by omega))
          exact ⟨_, ret_ae rfl (by rw [HT.out]), by rw [HT.out]; exact ⟨_, _, rfl, (HI.out.below hb).mono (fun _ _ h => .inl h), k4⟩, hb⟩
end Go.Proofs.Ytpfhaafaoedgpaa.Pl
