/-
  Layer 9: whether a statement has what its kind may have.
-/
import Derived.Test.YtnnjkejejlhkdaaDoorRtKids
namespace Go.Proofs.YtnnjkejejlhkdaaDoor.Rt
open Go Go.RowKit

def stCells (s : St) (vs vt ve : Value) : Array Value := #[.int .u8 (s.k : Int), vs, vt, ve, .int .i64 s.next, .int .i64 s.els, .int .i64 s.line]
def rowCells (r : Row) : Array Value := #[.int .i64 r.slo, .int .i64 r.shi, .int .i64 r.tlo, .int .i64 r.thi, .int .i64 r.elo, .int .i64 r.ehi, .bool r.hidden, .bool r.forks]
def rowV (r : Row) : Value := .agg (rowCells r)
def RowAt (b : Nat) (r : Row) (w : World) : Prop := w.heap[b]? = some (.cells (rowCells r) 84 (0, 0))
def PtrAt (b F : Nat) (w : World) : Prop := w.heap[b]? = some (.cells #[.pointer (some ⟨F, 0, none⟩)] 69 (0, 0))
theorem at_below {b : Nat} {o : Obj} {w w' : World} (h : w.heap[b]? = some o) (hb : Below w.heap.size w w') : w'.heap[b]? = some o := by rw [hb.block b (lt_of_get h)]; exact h
theorem FnAt.slots64 {F : Nat} {f : Pr} {strs protos : Nat} {w : World} (h : FnAt F f strs protos w) : In64 f.slots := by
  obtain ⟨_, _, _, _, _, _, _, _, _, _, h, _⟩ := h
  exact h

set_option maxHeartbeats 4000000 in
set_option maxRecDepth 100000 in
theorem slot_fn (F : Nat) (f : Pr) (strs protos : Nat) (bf br : Nat) (r : Row) (i : Nat) (c : Int) (w : World) (hF : FnAt F f strs protos w) (hbf : PtrAt bf F w) (hr : RowAt br r w) (h0 : 0 ≤ f.slots) :
    Calls Tryd.prog 58 #[.int .i64 (i : Int), .int .i64 c, .pointer (some ⟨bf, 0, none⟩), .pointer (some ⟨br, 0, none⟩)] w fun e w' => e = .returned (.bool (slotB f r i c)) ∧ Below w.heap.size w w' := by
  have h64 := hF.slots64
  unfold In64 at h64
  obtain ⟨h64a, h64b⟩ := h64
  obtain ⟨vb, vu, vs, ve, hh, _⟩ := hF
  have f2 := cell_of hh 2 _ rfl
  have c0 := cell_of hbf 0 _ rfl
  have r6 := cell_of hr 6 (.bool r.hidden) rfl
  unfold slotB
  clear hh hbf hr
  generalize f.slots = n at *
  generalize r.hidden = hid at *
  by_cases hc : c < 0
  · rw [decide_eq_false (p := 0 ≤ c) (by omega), Bool.false_and]
    cases hid with
    | false =>
      go_enter Tryd.func58, Tryd.ntmps58
      go_wp2_with fail
      go_ret
      exact ⟨rfl, Below.refl _ _⟩
    | true =>
      by_cases hi : i = 0
      · subst hi
        go_enter Tryd.func58, Tryd.ntmps58
        go_wp2_with fail
        go_ret
        exact ⟨rfl, Below.refl _ _⟩
      · have hi' : ¬ (i : Int) = 0 := by omega
        go_enter Tryd.func58, Tryd.ntmps58
        go_wp2_with fail
        go_ret
        exact ⟨rfl, Below.refl _ _⟩
  · have hc' : 0 ≤ c := by omega
    rw [decide_eq_true hc', Bool.true_and]
    cases hid with
    | false =>
      rw [Bool.false_and, if_neg (by decide)]
      go_enter Tryd.func58, Tryd.ntmps58
      go_wp2_with fail
      go_ret
      exact ⟨rfl, Below.refl _ _⟩
    | true =>
      by_cases hi : i = 0
      · subst hi
        rw [if_pos (by rfl)]
        go_enter Tryd.func58, Tryd.ntmps58
        go_wp2_with fail
        go_ret
        exact ⟨rfl, Below.refl _ _⟩
      · have hi' : ¬ (i : Int) = 0 := by omega
        rw [decide_eq_false hi, Bool.and_false, if_neg (by decide)]
        go_enter Tryd.func58, Tryd.ntmps58
        go_wp2_with fail
        go_ret
        exact ⟨rfl, Below.refl _ _⟩

set_option maxHeartbeats 2000000 in
set_option maxRecDepth 100000 in
theorem slots_fn (F : Nat) (f : Pr) (strs protos : Nat) (r : Row) (s : St) (vs vt ve : Value) (w : World) (hF : FnAt F f strs protos w) (h0 : 0 ≤ f.slots) (hs : LstB w.heap.size w vs (ints s.slots)) (ht : ∃ a n c, vt = .slice a n c) (hv : ∃ a n c, ve = .slice a n c) :
    Calls Tryd.prog 46 #[.pointer (some ⟨F, 0, none⟩), .agg (stCells s vs vt ve), rowV r] w fun e w' => e = .returned (.bool (slotsB f r s)) ∧ Below w.heap.size w w' := by
  have hmf := run_mf
  obtain ⟨a1, n1, c1, rfl⟩ := ht
  obtain ⟨a2, n2, c2, rfl⟩ := hv
  have HS := Lib.hid hs
  obtain ⟨a0, c0, rfl, hl0⟩ := hs.slice
  clear hs
  have hA := three w (.cells #[.pointer (some ⟨F, 0, none⟩)] 69) (.cells (stCells s (.slice a0 (ints s.slots).length c0) (.slice a1 n1 c1) (.slice a2 n2 c2)) 44) (.cells (rowCells r) 84)
  obtain ⟨p0, p1, p2, hb⟩ := hA
  have c := are_int _ _ (.slice a0 (ints s.slots).length c0) s.slots r.slo r.shi _ #[] #[.pointer (some ⟨w.heap.size, 0, none⟩), .pointer (some ⟨w.heap.size + 1 + 1, 0, none⟩)] (stepB (slotB f r) s.slots) (fun _ w' => FnAt F f strs protos w' ∧ PtrAt w.heap.size F w' ∧ RowAt (w.heap.size + 1 + 1) r w') () ((HS.out.below hb).mono hb.size) (Nat.le_refl _) (enters_of Tryd.func58 (by kernel_rfl) rfl)
    (fun _ _ _ h hb => ⟨h.1.below hb, at_below h.2.1 hb, at_below h.2.2 hb⟩)
    (fun i hi s' w' _ hsz hI _ => (slot_fn F f strs protos w.heap.size (w.heap.size + 1 + 1) r i s.slots[i] w' hI.1 hI.2.1 hI.2.2 h0).mono fun _ _ h => step_says hi h.2 hsz h.1 ⟨hI.1.below h.2, at_below hI.2.1 h.2, at_below hI.2.2 h.2⟩)
    ⟨hF.below hb, p0, p2⟩
  have HB := Lib.hid hb
  clear p0 p1 p2 hb hF
  unfold rowV stCells rowCells
  unfold rowCells stCells at HB
  unfold rowCells stCells at c
  rw [ints_len] at c HB hl0 ⊢
  go_enter Tryd.func46, Tryd.ntmps46
  go_wp2_with fail
  refine c.mono ?_
  rintro e w1 hE
  obtain ⟨rfl, b1⟩ := are_is hE
  have B1 := Lib.hid (HB.out.trans (b1.mono HB.out.size))
  clear b1 c hE
  go_wp2_with fail
  go_ret
  exact ⟨rfl, B1.out⟩

set_option maxHeartbeats 2000000 in
set_option maxRecDepth 100000 in
theorem on_fn (F : Nat) (f : Pr) (strs protos : Nat) (bf : Nat) (x : Int) (w : World) (hF : FnAt F f strs protos w) (hbf : PtrAt bf F w) :
    Calls Tryd.prog 59 #[.int .i64 x, .pointer (some ⟨bf, 0, none⟩)] w fun e w' => w' = w ∧ e = .returned (.bool (onB f x)) := by
  obtain ⟨vb, vu, vs, ve, hh, _, _, hvs, _⟩ := hF
  obtain ⟨a0, n0, rfl, hl⟩ := hvs.slice
  have f5 := cell_of hh 5 _ rfl
  have c0 := cell_of hbf 0 _ rfl
  unfold onB
  unfold Len at hl
  clear hh hbf hvs
  by_cases h1 : x < -1
  · rw [decide_eq_false (by omega), Bool.false_and]
    go_enter Tryd.func59, Tryd.ntmps59
    go_wp2_with fail
    go_ret
    exact ⟨rfl, rfl⟩
  · have h2 : -1 ≤ x := by omega
    rw [decide_eq_true h2, Bool.true_and]
    go_enter Tryd.func59, Tryd.ntmps59
    go_wp2_with fail
    go_ret
    exact ⟨rfl, rfl⟩

set_option maxHeartbeats 8000000 in
set_option maxRecDepth 100000 in
theorem goes_fn (F : Nat) (f : Pr) (strs protos : Nat) (r : Row) (s : St) (vs vt ve : Value) (w : World) (hF : FnAt F f strs protos w) (hs : ∃ a n c, vs = .slice a n c) (ht : ∃ a n c, vt = .slice a n c) (hv : ∃ a n c, ve = .slice a n c) :
    Calls Tryd.prog 49 #[.pointer (some ⟨F, 0, none⟩), .agg (stCells s vs vt ve), rowV r] w fun e w' => e = .returned (.bool (goesB f r s)) ∧ Below w.heap.size w w' := by
  have hmf := run_mf
  obtain ⟨a0, n0, c0, rfl⟩ := hs
  obtain ⟨a1, n1, c1, rfl⟩ := ht
  obtain ⟨a2, n2, c2, rfl⟩ := hv
  have hA := three w (.cells #[.pointer (some ⟨F, 0, none⟩)] 69) (.cells (stCells s (.slice a0 n0 c0) (.slice a1 n1 c1) (.slice a2 n2 c2)) 44) (.cells (rowCells r) 84)
  obtain ⟨p0, p1, p2, hb⟩ := hA
  have c := fun x => on_fn F f strs protos w.heap.size x _ (hF.below hb) p0
  have HB := Lib.hid hb
  clear p0 p1 p2 hb hF
  unfold rowV stCells rowCells
  unfold rowCells stCells at HB
  unfold rowCells stCells at c
  unfold goesB
  obtain ⟨k, sl, tg, xs, nx, el, ln⟩ := s
  dsimp only at *
  generalize r.forks = fk at *
  have d1 := c nx
  have d2 := c el
  generalize hZ1 : onB f nx = Z1 at *
  generalize hZ2 : onB f el = Z2 at *
  clear hZ1 hZ2 c
  by_cases hk : k = 10
  · subst hk
    by_cases hn : nx = -1
    · subst hn
      rw [if_neg (fun h => h.2 rfl)]
      cases Z1 with
      | false =>
        go_enter Tryd.func49, Tryd.ntmps49
        go_wp2_with fail
        refine d1.mono ?_
        rintro e w1 ⟨rfl, rfl⟩
        go_wp2_with fail
        go_ret
        exact ⟨rfl, HB.out⟩
      | true =>
        cases fk with
        | true =>
          cases Z2 with
          | false =>
            go_enter Tryd.func49, Tryd.ntmps49
            go_wp2_with fail
            refine d1.mono ?_
            rintro e w1 ⟨rfl, rfl⟩
            go_wp2_with fail
            refine d2.mono ?_
            rintro e w1 ⟨rfl, rfl⟩
            go_wp2_with fail
            go_ret
            exact ⟨rfl, HB.out⟩
          | true =>
            go_enter Tryd.func49, Tryd.ntmps49
            go_wp2_with fail
            refine d1.mono ?_
            rintro e w1 ⟨rfl, rfl⟩
            go_wp2_with fail
            refine d2.mono ?_
            rintro e w1 ⟨rfl, rfl⟩
            go_wp2_with fail
            go_ret
            exact ⟨rfl, HB.out⟩
        | false =>
          go_enter Tryd.func49, Tryd.ntmps49
          go_wp2_with fail
          refine d1.mono ?_
          rintro e w1 ⟨rfl, rfl⟩
          go_wp2_with fail
          go_ret
          exact ⟨rfl, HB.out⟩
    · rw [if_pos ⟨rfl, hn⟩]
      go_enter Tryd.func49, Tryd.ntmps49
      go_wp2_with fail
      go_ret
      exact ⟨rfl, HB.out⟩
  · have hk' : ¬ (k : Int) = 10 := by omega
    rw [if_neg (fun h => hk h.1)]
    cases Z1 with
    | false =>
      go_enter Tryd.func49, Tryd.ntmps49
      go_wp2_with fail
      refine d1.mono ?_
      rintro e w1 ⟨rfl, rfl⟩
      go_wp2_with fail
      go_ret
      exact ⟨rfl, HB.out⟩
    | true =>
      cases fk with
      | true =>
        cases Z2 with
        | false =>
          go_enter Tryd.func49, Tryd.ntmps49
          go_wp2_with fail
          refine d1.mono ?_
          rintro e w1 ⟨rfl, rfl⟩
          go_wp2_with fail
          refine d2.mono ?_
          rintro e w1 ⟨rfl, rfl⟩
          go_wp2_with fail
          go_ret
          exact ⟨rfl, HB.out⟩
        | true =>
          go_enter Tryd.func49, Tryd.ntmps49
          go_wp2_with fail
          refine d1.mono ?_
          rintro e w1 ⟨rfl, rfl⟩
          go_wp2_with fail
          refine d2.mono ?_
          rintro e w1 ⟨rfl, rfl⟩
          go_wp2_with fail
          go_ret
          exact ⟨rfl, HB.out⟩
      | false =>
        go_enter Tryd.func49, Tryd.ntmps49
        go_wp2_with fail
        refine d1.mono ?_
        rintro e w1 ⟨rfl, rfl⟩
        go_wp2_with fail
        go_ret
        exact ⟨rfl, HB.out⟩

/-- What tells whether an expression may stand in a statement of a kind. -/
def FvAt (k F : Nat) (fv : Value) (w : World) : Prop :=
  (k = 3 ∧ ∃ bt bf, fv = .func (.func 56) #[] #[.pointer (some ⟨bt, 0, none⟩), .pointer (some ⟨bf, 0, none⟩)] ∧ OfAt bt bf F [12, 13] w) ∨
  (k = 9 ∧ ∃ bt bf, fv = .func (.func 56) #[] #[.pointer (some ⟨bt, 0, none⟩), .pointer (some ⟨bf, 0, none⟩)] ∧ OfAt bt bf F [7] w) ∨
  (k ≠ 3 ∧ k ≠ 9 ∧ fv = .func (.func 55) #[.pointer (some ⟨F, 0, none⟩)] #[])
theorem FvAt.below {k F : Nat} {fv : Value} {w w' : World} (h : FvAt k F fv w) (hb : Below w.heap.size w w') : FvAt k F fv w' := by
  rcases h with ⟨e, bt, bf, h1, h2⟩ | ⟨e, bt, bf, h1, h2⟩ | h
  · exact .inl ⟨e, bt, bf, h1, h2.below hb⟩
  · exact .inr (.inl ⟨e, bt, bf, h1, h2.below hb⟩)
  · exact .inr (.inr h)
theorem are_or (F : Nat) (f : Pr) (strs protos k : Nat) (fv v : Value) (l : List Int) (lo hi : Int) (w : World) (hF : FnAt F f strs protos w) (hO : FvAt k F fv w) (hv : LstB w.heap.size w v (ints l)) (hl : Places f l) :
    Calls Tryd.prog 47 #[v, .agg #[.int .i64 lo, .int .i64 hi], fv] w fun r w' => r = .returned (.bool (areB lo hi (fun _ c => ofOrB f k c) l)) ∧ Below w.heap.size w w' := by
  rcases hO with ⟨rfl, bt, bf, rfl, h2⟩ | ⟨rfl, bt, bf, rfl, h2⟩ | ⟨h3, h9, rfl⟩
  · exact are_of F f strs protos bt bf [12, 13] v l lo hi w hF h2 hv hl
  · exact are_of F f strs protos bt bf [7] v l lo hi w hF h2 hv hl
  · have e : (fun (_ : Nat) c => ofOrB f k c) = fun _ c => valueB f c := by
      funext _ c
      unfold ofOrB
      rw [if_neg h3, if_neg h9]
    rw [e]
    exact are_values F f strs protos v l lo hi w hF hv hl

theorem new_row (w : World) (ks : List Nat) : LstB (w.alloc (.cells (kinds ks).toArray 38)).heap.size (w.alloc (.cells (kinds ks).toArray 38)) (.slice (some ⟨w.heap.size, 0, none⟩) ks.length ks.length) (kinds ks) ∨ ¬ Len ks.length := by
  by_cases h : Len ks.length
  · left
    refine ⟨_, _, by rw [kinds_len], by rw [kinds_len]; exact h, fun _ => ⟨_, _, by simp, rfl, fun j hj => ?_⟩⟩
    refine cell_of (new_block w _) _ _ ?_
    rw [Nat.zero_add]
    simp [List.getElem?_eq_getElem hj]
  · exact .inr h

set_option maxHeartbeats 4000000 in
set_option maxRecDepth 100000 in
theorem exprOf_fn (F : Nat) (k : Nat) (w : World) :
    Calls Tryd.prog 48 #[.pointer (some ⟨F, 0, none⟩), .int .u8 (k : Int)] w fun e w' => ∃ fv, e = .returned fv ∧ FvAt k F fv w' ∧ Below w.heap.size w w' := by
  have hmf := run_mf
  have n1 := (new_row w [12, 13]).resolve_right (fun h => h (by unfold Len; decide))
  have n2 := (new_row w [7]).resolve_right (fun h => h (by unfold Len; decide))
  have c1 := of_fn F _ [12, 13] _ n1
  have c2 := of_fn F _ [7] _ n2
  have hb : ∀ o, Below w.heap.size w (w.alloc o) := fun o => (Below.refl _ _).alloc (Nat.le_refl _) o
  have HB := Lib.hid hb
  clear n1 n2 hb
  by_cases h3 : k = 3
  · subst h3
    go_enter Tryd.func48, Tryd.ntmps48
    go_wp2_with fail
    refine c1.mono ?_
    rintro e w1 ⟨bt, bf, rfl, hO, b1⟩
    have HO := Lib.hid hO
    have B1 := Lib.hid ((HB.out _).trans (b1.mono (HB.out _).size))
    clear hO b1 c1 c2
    go_wp2_with fail
    go_ret
    exact ⟨_, rfl, .inl ⟨rfl, _, _, rfl, HO.out⟩, B1.out⟩
  by_cases h9 : k = 9
  · subst h9
    go_enter Tryd.func48, Tryd.ntmps48
    go_wp2_with fail
    refine c2.mono ?_
    rintro e w1 ⟨bt, bf, rfl, hO, b1⟩
    have HO := Lib.hid hO
    have B1 := Lib.hid ((HB.out _).trans (b1.mono (HB.out _).size))
    clear hO b1 c1 c2
    go_wp2_with fail
    go_ret
    exact ⟨_, rfl, .inr (.inl ⟨rfl, _, _, rfl, HO.out⟩), B1.out⟩
  have k3 : ¬ (k : Int) = 3 := by omega
  have k9 : ¬ (k : Int) = 9 := by omega
  clear c1 c2
  go_enter Tryd.func48, Tryd.ntmps48
  go_wp2_with fail
  go_ret
  exact ⟨_, rfl, .inr (.inr ⟨h3, h9, rfl⟩), Below.refl _ _⟩

end Go.Proofs.YtnnjkejejlhkdaaDoor.Rt
