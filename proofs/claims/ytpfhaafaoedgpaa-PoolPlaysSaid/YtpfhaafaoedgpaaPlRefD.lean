/-
  Layer 12: the document's pool: an object more (written by pl-take.py).
-/
import Derived.Test.YtpfhaafaoedgpaaPlTwo
import Derived.Deep.RegionHeld3
namespace Go.Proofs.Ytpfhaafaoedgpaa.Pl
open Go Go.RowKit

def TakePost (P : Nat → Prop) (p : Rp) (size : Int) (w : World) (e : Ending) (w' : World) : Prop :=
  ∃ v', e = .returned (.tuple #[v', .int .i64 (p.take size).2.1, .int .i64 (p.take size).2.2]) ∧ RpV (fun k => P k ∨ w.heap.size ≤ k) w' v' (p.take size).1 ∧ Below w.heap.size w w'
theorem two_below (w : World) (A B : Obj) : Below w.heap.size w ((w.alloc A).alloc B) ∧ ((w.alloc A).alloc B).heap[w.heap.size]? = some A ∧ ((w.alloc A).alloc B).heap[w.heap.size + 1]? = some B := by
  have s1 : (w.alloc A).heap.size = w.heap.size + 1 := by simp
  have bA : Below w.heap.size w (w.alloc A) := (Below.refl _ _).alloc (Nat.le_refl _) A
  have bB : Below (w.alloc A).heap.size (w.alloc A) ((w.alloc A).alloc B) := (Below.refl _ _).alloc (Nat.le_refl _) B
  refine ⟨bA.trans (bB.mono bA.size), (bB.block _ (by omega)).trans (new_block w A), ?_⟩
  rw [← s1]; exact new_block _ B
theorem take_neg (p : Rp) {size : Int} (h : size < 0) : p.take size = (p, 0, 2) := by unfold Rp.take; rw [if_pos h]
theorem take_full (p : Rp) {size : Int} (h : ¬ size < 0) (hf : p.full size = true) : p.take size = (p, 0, 5) := by unfold Rp.take; rw [if_neg h, if_pos hf]
theorem take_put (p : Rp) {size : Int} (h : ¬ size < 0) (hf : p.full size = false) : p.take size = (p.put (lead 0 p.ids) size, (lead 0 p.ids : Int) + 1, 0) := by
  unfold Rp.take; rw [if_neg h, if_neg (by rw [hf]; decide)]
theorem RpV.shape {P : Nat → Prop} {w : World} {v : Value} {p : Rp} (h : RpV P w v p) (hO : p.Ok) : ∃ ai ci au cu n, v = .agg #[.int .i64 p.bound, .slice ai n ci, .slice au n cu] ∧ p.ids.length = n ∧ p.sizes.length = n ∧
    LstP P w (.slice ai n ci) (ints p.ids) ∧ LstP P w (.slice au n cu) (ints p.sizes) := by
  obtain ⟨vi, vs, rfl, hi, hs⟩ := h
  obtain ⟨ai, ci, rfl, -, -⟩ := hi.slice
  obtain ⟨au, cu, rfl, -, -⟩ := hs.slice
  rw [ints_len, ← hO.len] at hs
  rw [ints_len] at hi
  rw [ints_len, ints_len, ← hO.len]
  exact ⟨ai, ci, au, cu, _, rfl, rfl, rfl, hi, hs⟩

/-- What stands while the question is asked: the pool's box, the result's. -/
def TkH (w : World) (b : Int) (ai : Option Addr) (n ci : Nat) (au : Option Addr) (cu : Nat) (w' : World) : Prop :=
  w'.heap[w.heap.size]? = some (.cells #[.int .i64 b, .slice ai n ci, .slice au n cu] 38 (0, 0)) ∧ w'.heap[w.heap.size + 1]? = some (.cells #[.int .i64 0, .slice none 0 0, .slice none 0 0] 38 (0, 0)) ∧ Below w.heap.size w w'
theorem TkH.below {w w1 w2 : World} {b : Int} {ai : Option Addr} {n ci : Nat} {au : Option Addr} {cu : Nat} (h : TkH w b ai n ci au cu w1) (hb : Below w1.heap.size w1 w2) : TkH w b ai n ci au cu w2 :=
  ⟨(hb.block _ (lt_of_get h.1)).trans h.1, (hb.block _ (lt_of_get h.2.1)).trans h.2.1, h.2.2.trans (hb.mono h.2.2.size)⟩
theorem TkH.cells {w w1 : World} {b : Int} {ai : Option Addr} {n ci : Nat} {au : Option Addr} {cu : Nat} (h : TkH w b ai n ci au cu w1) : w1.cell? ⟨w.heap.size, 0, none⟩ = some (.int .i64 b) ∧ w1.cell? ⟨w.heap.size, 1, none⟩ = some (.slice ai n ci) ∧ w1.cell? ⟨w.heap.size, 2, none⟩ = some (.slice au n cu) ∧ TkH w b ai n ci au cu w1 :=
  ⟨cell_of h.1 0 _ rfl, cell_of h.1 1 _ rfl, cell_of h.1 2 _ rfl, h⟩

set_option maxHeartbeats 8000000 in
set_option maxRecDepth 1000000 in
theorem take_no {P : Nat → Prop} (v : Value) (p : Rp) (size : Int) (w : World) (hv : RpV P w v p) (hO : p.Ok) (hz : size ≤ 9223372036854775807) (hno : size < 0 ∨ p.full size = true) :
    Calls Try.prog 17 #[v, .int .i64 size] w (TakePost P p size w) := by
  obtain ⟨ai, ci, au, cu, n, rfl, hn1, hn2, hi, hs⟩ := hv.shape hO
  have htop := hO.top
  have hfew := hO.few
  have hpos := hO.pos
  have hsum := hO.sum
  have HO := Lib.hid hO
  have HI := Lib.hid hi
  have HS := Lib.hid hs
  have HN1 := Lib.hid hn1
  have HN2 := Lib.hid hn2
  have hfew' : p.ids.length ≤ 65536 := hfew
  rw [hn1] at hfew
  have hS0 : 0 ≤ p.sizes.sum := by have := (sum_take_le p.sizes hpos p.sizes.length).1; rwa [List.take_length] at this
  have HU := Lib.hid (show ∀ w1, TkH w p.bound ai n ci au cu w1 → Calls Try.prog 22 #[.agg #[.int .i64 p.bound, .slice ai n ci, .slice au n cu]] w1 (fun e w' => e = .returned (.int .i64 p.sizes.sum) ∧ TkH w p.bound ai n ci au cu w') from fun w1 h1 =>
    (used_fn (P := P) _ p w1 ⟨_, _, rfl, hi.below h1.2.2, hs.below h1.2.2⟩ hO).mono (fun _ _ h => ⟨h.1, h1.below h.2⟩))
  have KS := Lib.hid (show ∀ w1, TkH w p.bound ai n ci au cu w1 → _ from fun w1 h1 => h1.cells)
  have hw : TkH w p.bound ai n ci au cu ((w.alloc (.cells #[.int .i64 p.bound, .slice ai n ci, .slice au n cu] 38)).alloc (.cells #[.int .i64 0, .slice none 0 0, .slice none 0 0] 38)).drew := by
    have h := two_below w (.cells #[.int .i64 p.bound, .slice ai n ci, .slice au n cu] 38) (.cells #[.int .i64 0, .slice none 0 0, .slice none 0 0] 38)
    exact ⟨h.2.1, h.2.2, h.1.drew⟩
  have HKEEP := Lib.hid (show ∀ w1, TkH w p.bound ai n ci au cu w1 → RpV (fun k => P k ∨ w.heap.size ≤ k) w1 (.agg #[.int .i64 p.bound, .slice ai n ci, .slice au n cu]) p from fun w1 h1 =>
    ⟨_, _, rfl, (hi.below h1.2.2).mono (fun _ _ h => .inl h), (hs.below h1.2.2).mono (fun _ _ h => .inl h)⟩)
  have HNO := Lib.hid hno
  clear hi hs hO hv hn1 hn2 hpos hfew' hno
  by_cases h1 : size < 0
  · have HT := Lib.hid (take_neg p h1)
    go_enter Try.func17, Try.ntmps17
    go_wp2_with fail
    refine bodyPost_ret (v := .tuple #[.agg #[.int .i64 p.bound, .slice ai n ci, .slice au n cu], .int .i64 0, .int .i64 2]) (by simp [results, Try.results17, go_sem]) rfl ?_
    unfold TakePost
    have hb := (two_below w (.cells #[.int .i64 p.bound, .slice ai n ci, .slice au n cu] 38) (.cells #[.int .i64 p.bound, .slice ai n ci, .slice au n cu] 38)).1
    exact ⟨_, ret_aie rfl (by rw [HT.out]) (by rw [HT.out]), by rw [HT.out]; exact ⟨_, _, rfl, (HI.out.below hb).mono (fun _ _ h => .inl h), (HS.out.below hb).mono (fun _ _ h => .inl h)⟩, hb⟩
  · by_cases h2 : p.bound < size
    · have HT := Lib.hid (take_full p h1 (by unfold Rp.full; rw [decide_eq_true (show size > p.bound from h2)]; rfl))
      go_enter Try.func17, Try.ntmps17
      go_upto_region 3 with fail
      refine wp_region_held_drew (S := (fun w' => w'.cell? ⟨w.heap.size, 0, none⟩ = some (.int .i64 p.bound) ∧ w'.cell? ⟨w.heap.size, 1, none⟩ = some (.slice ai n ci) ∧ w'.cell? ⟨w.heap.size, 2, none⟩ = some (.slice au n cu) ∧ TkH w p.bound ai n ci au cu w')) mixed (KS.out _ hw) (fun hS => ?_)
      refine wpAnyH_take (i := 0) (v := ?vA0) rfl (by kernel_rfl) (by kernel_rfl) (by kernel_rfl) (fun _ _ _ h => h) (.inl ⟨by rfl, ?hA0⟩) hS ?rA0
      case hA0 =>
        intro w' hs
        (try dsimp only at hs)
        go_split_ands
        go_simp
        try with_reducible rfl
      simp only [List.getElem_toArray, List.getElem_cons_zero, Act.put, List.setIfInBounds_toArray, List.set_cons_zero, List.set_cons_succ]
      refine wpAnyH_take (i := 1) (v := ?vA1) rfl (by kernel_rfl) (by kernel_rfl) (by kernel_rfl) (fun _ _ _ h => h) (.inl ⟨by rfl, ?hA1⟩) hS ?rA1
      case hA1 =>
        intro w' hs
        (try dsimp only at hs)
        go_split_ands
        go_simp
        try with_reducible rfl
      simp only [List.getElem_toArray, List.getElem_cons_succ, List.getElem_cons_zero, Act.put, List.setIfInBounds_toArray, List.set_cons_zero, List.set_cons_succ]
      refine wpAnyH_take (i := 2) (v := ?vA2) rfl (by kernel_rfl) (by kernel_rfl) (by kernel_rfl) (fun _ _ _ h => h) (.inl ⟨by rfl, ?hA2⟩) hS ?rA2
      case hA2 =>
        intro w' hs
        (try dsimp only at hs)
        go_split_ands
        go_simp
        try with_reducible rfl
      simp only [List.getElem_toArray, List.getElem_cons_succ, List.getElem_cons_zero, Act.put, List.setIfInBounds_toArray, List.set_cons_zero, List.set_cons_succ]
      refine wpAnyH_take (i := 3) (v := ?vA3) rfl (by kernel_rfl) (by kernel_rfl) (by kernel_rfl) (fun _ _ _ h => h) (.inl ⟨by rfl, ?hA3⟩) hS ?rA3
      case hA3 =>
        intro w' hs
        (try dsimp only at hs)
        go_split_ands
        go_simp
        try with_reducible rfl
      simp only [List.getElem_toArray, List.getElem_cons_succ, List.getElem_cons_zero, Act.put, List.setIfInBounds_toArray, List.set_cons_zero, List.set_cons_succ]
      refine wpAnyH_take (i := 4) (v := ?vA4) rfl (by kernel_rfl) (by kernel_rfl) (by kernel_rfl) (fun _ _ _ h => h) (.inl ⟨by rfl, ?hA4⟩) hS ?rA4
      case hA4 =>
        intro w' hs
        (try dsimp only at hs)
        go_split_ands
        go_simp
        try with_reducible rfl
      simp only [List.getElem_toArray, List.getElem_cons_succ, List.getElem_cons_zero, Act.put, List.setIfInBounds_toArray, List.set_cons_zero, List.set_cons_succ]
      refine wpAnyH_take (i := 5) (v := undef) rfl (by kernel_rfl) (by kernel_rfl) (by kernel_rfl) (fun _ _ _ h => h) (.inr ⟨by rfl, rfl⟩) hS ?_
      simp only [List.getElem_toArray, List.getElem_cons_succ, List.getElem_cons_zero, Act.put, List.setIfInBounds_toArray, List.set_cons_zero, List.set_cons_succ]
      refine wpAnyH_take (i := 6) (v := undef) rfl (by kernel_rfl) (by kernel_rfl) (by kernel_rfl) (fun _ _ _ h => h) (.inr ⟨by rfl, rfl⟩) hS ?_
      simp only [List.getElem_toArray, List.getElem_cons_succ, List.getElem_cons_zero, Act.put, List.setIfInBounds_toArray, List.set_cons_zero, List.set_cons_succ]
      refine wpAnyH_take (i := 7) (v := undef) rfl (by kernel_rfl) (by kernel_rfl) (by kernel_rfl) (fun _ _ _ h => h) (.inr ⟨by rfl, rfl⟩) hS ?_
      simp only [List.getElem_toArray, List.getElem_cons_succ, List.getElem_cons_zero, Act.put, List.setIfInBounds_toArray, List.set_cons_zero, List.set_cons_succ]
      refine wpAnyH_take (i := 8) (v := undef) rfl (by kernel_rfl) (by kernel_rfl) (by kernel_rfl) (fun _ _ _ h => h) (.inr ⟨by rfl, rfl⟩) hS ?_
      simp only [List.getElem_toArray, List.getElem_cons_succ, List.getElem_cons_zero, Act.put, List.setIfInBounds_toArray, List.set_cons_zero, List.set_cons_succ]
      refine wpAnyH_take (i := 9) (v := undef) rfl (by kernel_rfl) (by kernel_rfl) (by kernel_rfl) (fun _ _ _ h => h) (.inr ⟨by rfl, rfl⟩) hS ?_
      simp only [List.getElem_toArray, List.getElem_cons_succ, List.getElem_cons_zero, Act.put, List.setIfInBounds_toArray, List.set_cons_zero, List.set_cons_succ]
      refine wpAnyH_take (i := 10) (v := undef) rfl (by kernel_rfl) (by kernel_rfl) (by kernel_rfl) (fun _ _ _ h => h) (.inr ⟨by rfl, rfl⟩) hS ?_
      simp only [List.getElem_toArray, List.getElem_cons_succ, List.getElem_cons_zero, Act.put, List.setIfInBounds_toArray, List.set_cons_zero, List.set_cons_succ]
      refine wpAnyH_take (i := 11) (v := undef) rfl (by kernel_rfl) (by kernel_rfl) (by kernel_rfl) (fun _ _ _ h => h) (.inr ⟨by rfl, rfl⟩) hS ?_
      simp only [List.getElem_toArray, List.getElem_cons_succ, List.getElem_cons_zero, Act.put, List.setIfInBounds_toArray, List.set_cons_zero, List.set_cons_succ]
      refine wpAnyH_take (i := 12) (v := ?vA12) rfl (by kernel_rfl) (by kernel_rfl) (by kernel_rfl) (fun _ _ _ h => h) (.inl ⟨by rfl, ?hA12⟩) hS ?rA12
      case hA12 =>
        intro w' hs
        (try dsimp only at hs)
        go_split_ands
        go_simp
        try with_reducible rfl
      simp only [List.getElem_toArray, List.getElem_cons_succ, List.getElem_cons_zero, Act.put, List.setIfInBounds_toArray, List.set_cons_zero, List.set_cons_succ]
      refine wpAnyH_take (i := 13) (v := ?vA13) rfl (by kernel_rfl) (by kernel_rfl) (by kernel_rfl) (fun _ _ _ h => h) (.inl ⟨by rfl, ?hA13⟩) hS ?rA13
      case hA13 =>
        intro w' hs
        (try dsimp only at hs)
        go_split_ands
        go_simp
        try with_reducible rfl
      simp only [List.getElem_toArray, List.getElem_cons_succ, List.getElem_cons_zero, Act.put, List.setIfInBounds_toArray, List.set_cons_zero, List.set_cons_succ]
      refine wpAnyH_take (i := 14) (v := undef) rfl (by kernel_rfl) (by kernel_rfl) (by kernel_rfl) (fun _ _ _ h => h) (.inr ⟨by rfl, rfl⟩) hS ?_
      simp only [List.getElem_toArray, List.getElem_cons_succ, List.getElem_cons_zero, Act.put, List.setIfInBounds_toArray, List.set_cons_zero, List.set_cons_succ]
      refine wpAnyH_take (i := 15) (v := undef) rfl (by kernel_rfl) (by kernel_rfl) (by kernel_rfl) (fun _ _ _ h => h) (.inr ⟨by rfl, rfl⟩) hS ?_
      simp only [List.getElem_toArray, List.getElem_cons_succ, List.getElem_cons_zero, Act.put, List.setIfInBounds_toArray, List.set_cons_zero, List.set_cons_succ]
      refine wpAnyH_take (i := 16) (v := undef) rfl (by kernel_rfl) (by kernel_rfl) (by kernel_rfl) (fun _ _ _ h => h) (.inr ⟨by rfl, rfl⟩) hS ?_
      simp only [List.getElem_toArray, List.getElem_cons_succ, List.getElem_cons_zero, Act.put, List.setIfInBounds_toArray, List.set_cons_zero, List.set_cons_succ]
      refine wpAnyH_take (i := 17) (v := undef) rfl (by kernel_rfl) (by kernel_rfl) (by kernel_rfl) (fun _ _ _ h => h) (.inr ⟨by rfl, rfl⟩) hS ?_
      simp only [List.getElem_toArray, List.getElem_cons_succ, List.getElem_cons_zero, Act.put, List.setIfInBounds_toArray, List.set_cons_zero, List.set_cons_succ]
      refine wpAnyH_take (i := 18) (v := ?vA18) rfl (by kernel_rfl) (by kernel_rfl) (by kernel_rfl) (fun _ _ _ h => h) (.inl ⟨by rfl, ?hA18⟩) hS ?rA18
      case hA18 =>
        intro w' hs
        (try dsimp only at hs)
        go_split_ands
        go_simp
        try with_reducible rfl
      simp only [List.getElem_toArray, List.getElem_cons_succ, List.getElem_cons_zero, Act.put, List.setIfInBounds_toArray, List.set_cons_zero, List.set_cons_succ]
      refine wpAnyH_done (by kernel_rfl) ?_ _
      go_wp2_with fail
      refine bodyPost_ret (v := .tuple #[.agg #[.int .i64 p.bound, .slice ai n ci, .slice au n cu], .int .i64 0, .int .i64 5]) (by simp [results, Try.results17, go_sem]) rfl ?_
      unfold TakePost
      have hb := ((two_below w (.cells #[.int .i64 p.bound, .slice ai n ci, .slice au n cu] 38) (.cells #[.int .i64 p.bound, .slice ai n ci, .slice au n cu] 38)).1).drew
      exact ⟨_, ret_aie rfl (by rw [HT.out]) (by rw [HT.out]), by rw [HT.out]; exact ⟨_, _, rfl, (HI.out.below hb).mono (fun _ _ h => .inl h), (HS.out.below hb).mono (fun _ _ h => .inl h)⟩, hb⟩
    · have e1 := IntWalk.i64_in (p.sizes.sum + size) (by omega)
      by_cases h3 : p.bound < p.sizes.sum + size
      · have HT := Lib.hid (take_full p h1 (by unfold Rp.full; rw [decide_eq_true (show p.sizes.sum + size > p.bound from h3)]; simp))
        generalize p.sizes.sum = S0 at *
        go_enter Try.func17, Try.ntmps17
        go_upto_region 3 with fail
        refine wp_region_held_drew (S := (fun w' => w'.cell? ⟨w.heap.size, 0, none⟩ = some (.int .i64 p.bound) ∧ w'.cell? ⟨w.heap.size, 1, none⟩ = some (.slice ai n ci) ∧ w'.cell? ⟨w.heap.size, 2, none⟩ = some (.slice au n cu) ∧ TkH w p.bound ai n ci au cu w')) mixed (KS.out _ hw) (fun hS => ?_)
        refine wpAnyH_take (i := 0) (v := ?vB0) rfl (by kernel_rfl) (by kernel_rfl) (by kernel_rfl) (fun _ _ _ h => h) (.inl ⟨by rfl, ?hB0⟩) hS ?rB0
        case hB0 =>
          intro w' hs
          (try dsimp only at hs)
          go_split_ands
          go_simp
          try with_reducible rfl
        simp only [List.getElem_toArray, List.getElem_cons_zero, Act.put, List.setIfInBounds_toArray, List.set_cons_zero, List.set_cons_succ]
        refine wpAnyH_take (i := 1) (v := ?vB1) rfl (by kernel_rfl) (by kernel_rfl) (by kernel_rfl) (fun _ _ _ h => h) (.inl ⟨by rfl, ?hB1⟩) hS ?rB1
        case hB1 =>
          intro w' hs
          (try dsimp only at hs)
          go_split_ands
          go_simp
          try with_reducible rfl
        simp only [List.getElem_toArray, List.getElem_cons_succ, List.getElem_cons_zero, Act.put, List.setIfInBounds_toArray, List.set_cons_zero, List.set_cons_succ]
        refine wpAnyH_take (i := 2) (v := ?vB2) rfl (by kernel_rfl) (by kernel_rfl) (by kernel_rfl) (fun _ _ _ h => h) (.inl ⟨by rfl, ?hB2⟩) hS ?rB2
        case hB2 =>
          intro w' hs
          (try dsimp only at hs)
          go_split_ands
          go_simp
          try with_reducible rfl
        simp only [List.getElem_toArray, List.getElem_cons_succ, List.getElem_cons_zero, Act.put, List.setIfInBounds_toArray, List.set_cons_zero, List.set_cons_succ]
        refine wpAnyH_take (i := 3) (v := ?vB3) rfl (by kernel_rfl) (by kernel_rfl) (by kernel_rfl) (fun _ _ _ h => h) (.inl ⟨by rfl, ?hB3⟩) hS ?rB3
        case hB3 =>
          intro w' hs
          (try dsimp only at hs)
          go_split_ands
          go_simp
          try with_reducible rfl
        simp only [List.getElem_toArray, List.getElem_cons_succ, List.getElem_cons_zero, Act.put, List.setIfInBounds_toArray, List.set_cons_zero, List.set_cons_succ]
        refine wpAnyH_take (i := 4) (v := ?vB4) rfl (by kernel_rfl) (by kernel_rfl) (by kernel_rfl) (fun _ _ _ h => h) (.inl ⟨by rfl, ?hB4⟩) hS ?rB4
        case hB4 =>
          intro w' hs
          (try dsimp only at hs)
          go_split_ands
          go_simp
          try with_reducible rfl
        simp only [List.getElem_toArray, List.getElem_cons_succ, List.getElem_cons_zero, Act.put, List.setIfInBounds_toArray, List.set_cons_zero, List.set_cons_succ]
        refine wpAnyH_take (i := 5) (v := ?vB5) rfl (by kernel_rfl) (by kernel_rfl) (by kernel_rfl) (fun _ _ _ h => h) (.inl ⟨by rfl, ?hB5⟩) hS ?rB5
        case hB5 =>
          intro w' hs
          (try dsimp only at hs)
          go_split_ands
          go_simp
          try with_reducible rfl
        simp only [List.getElem_toArray, List.getElem_cons_succ, List.getElem_cons_zero, Act.put, List.setIfInBounds_toArray, List.set_cons_zero, List.set_cons_succ]
        refine wpAnyH_take (i := 7) (v := ?vB7) rfl (by kernel_rfl) (by kernel_rfl) (by kernel_rfl) (fun _ _ _ h => h) (.inl ⟨by rfl, ?hB7⟩) hS ?rB7
        case hB7 =>
          intro w' hs
          (try dsimp only at hs)
          go_split_ands
          go_simp
          try with_reducible rfl
        simp only [List.getElem_toArray, List.getElem_cons_succ, List.getElem_cons_zero, Act.put, List.setIfInBounds_toArray, List.set_cons_zero, List.set_cons_succ]
        refine wpAnyH_take (i := 9) (v := ?vB9) rfl (by kernel_rfl) (by kernel_rfl) (by kernel_rfl) (fun _ _ _ h => h) (.inl ⟨by rfl, ?hB9⟩) hS ?rB9
        case hB9 =>
          intro w' hs
          (try dsimp only at hs)
          go_split_ands
          go_simp
          try with_reducible rfl
        simp only [List.getElem_toArray, List.getElem_cons_succ, List.getElem_cons_zero, Act.put, List.setIfInBounds_toArray, List.set_cons_zero, List.set_cons_succ]
        refine wpAnyH_take (i := 10) (v := ?vB10) rfl (by kernel_rfl) (by kernel_rfl) (by kernel_rfl) (fun _ _ _ h => h) (.inl ⟨by rfl, ?hB10⟩) hS ?rB10
        case hB10 =>
          intro w' hs
          (try dsimp only at hs)
          go_split_ands
          go_simp
          try with_reducible rfl
        simp only [List.getElem_toArray, List.getElem_cons_succ, List.getElem_cons_zero, Act.put, List.setIfInBounds_toArray, List.set_cons_zero, List.set_cons_succ]
        refine wpAnyH_ready (rs := [6]) (by kernel_rfl) (by simp) (AllReadyH.cons rfl (fun K hK => ?_) AllReadyH.nil)
        go_simp
        go_at_call 22
        refine (HU.out _ hw).mono ?_
        rintro e w' ⟨rfl, hw⟩
        go_wp2_with fail
        refine hK.out _ _ (KS.out _ hw) (fun hS => ?_)
        clear hK
        refine wpAnyH_take (i := 8) (v := ?vB8) rfl (by kernel_rfl) (by kernel_rfl) (by kernel_rfl) (fun _ _ _ h => h) (.inl ⟨by rfl, ?hB8⟩) hS ?rB8
        case hB8 =>
          intro w' hs
          (try dsimp only at hs)
          go_split_ands
          go_simp
          try with_reducible rfl
        simp only [List.getElem_toArray, List.getElem_cons_succ, List.getElem_cons_zero, Act.put, List.setIfInBounds_toArray, List.set_cons_zero, List.set_cons_succ]
        refine wpAnyH_take (i := 11) (v := ?vB11) rfl (by kernel_rfl) (by kernel_rfl) (by kernel_rfl) (fun _ _ _ h => h) (.inl ⟨by rfl, ?hB11⟩) hS ?rB11
        case hB11 =>
          intro w' hs
          (try dsimp only at hs)
          go_split_ands
          go_simp
          try with_reducible rfl
        simp only [List.getElem_toArray, List.getElem_cons_succ, List.getElem_cons_zero, Act.put, List.setIfInBounds_toArray, List.set_cons_zero, List.set_cons_succ]
        refine wpAnyH_take (i := 12) (v := ?vB12) rfl (by kernel_rfl) (by kernel_rfl) (by kernel_rfl) (fun _ _ _ h => h) (.inl ⟨by rfl, ?hB12⟩) hS ?rB12
        case hB12 =>
          intro w' hs
          (try dsimp only at hs)
          go_split_ands
          go_simp
          try with_reducible rfl
        simp only [List.getElem_toArray, List.getElem_cons_succ, List.getElem_cons_zero, Act.put, List.setIfInBounds_toArray, List.set_cons_zero, List.set_cons_succ]
        refine wpAnyH_take (i := 13) (v := ?vB13) rfl (by kernel_rfl) (by kernel_rfl) (by kernel_rfl) (fun _ _ _ h => h) (.inl ⟨by rfl, ?hB13⟩) hS ?rB13
        case hB13 =>
          intro w' hs
          (try dsimp only at hs)
          go_split_ands
          go_simp
          try with_reducible rfl
        simp only [List.getElem_toArray, List.getElem_cons_succ, List.getElem_cons_zero, Act.put, List.setIfInBounds_toArray, List.set_cons_zero, List.set_cons_succ]
        refine wpAnyH_take (i := 14) (v := undef) rfl (by kernel_rfl) (by kernel_rfl) (by kernel_rfl) (fun _ _ _ h => h) (.inr ⟨by rfl, rfl⟩) hS ?_
        simp only [List.getElem_toArray, List.getElem_cons_succ, List.getElem_cons_zero, Act.put, List.setIfInBounds_toArray, List.set_cons_zero, List.set_cons_succ]
        refine wpAnyH_take (i := 15) (v := undef) rfl (by kernel_rfl) (by kernel_rfl) (by kernel_rfl) (fun _ _ _ h => h) (.inr ⟨by rfl, rfl⟩) hS ?_
        simp only [List.getElem_toArray, List.getElem_cons_succ, List.getElem_cons_zero, Act.put, List.setIfInBounds_toArray, List.set_cons_zero, List.set_cons_succ]
        refine wpAnyH_take (i := 16) (v := undef) rfl (by kernel_rfl) (by kernel_rfl) (by kernel_rfl) (fun _ _ _ h => h) (.inr ⟨by rfl, rfl⟩) hS ?_
        simp only [List.getElem_toArray, List.getElem_cons_succ, List.getElem_cons_zero, Act.put, List.setIfInBounds_toArray, List.set_cons_zero, List.set_cons_succ]
        refine wpAnyH_take (i := 17) (v := undef) rfl (by kernel_rfl) (by kernel_rfl) (by kernel_rfl) (fun _ _ _ h => h) (.inr ⟨by rfl, rfl⟩) hS ?_
        simp only [List.getElem_toArray, List.getElem_cons_succ, List.getElem_cons_zero, Act.put, List.setIfInBounds_toArray, List.set_cons_zero, List.set_cons_succ]
        refine wpAnyH_take (i := 18) (v := ?vB18) rfl (by kernel_rfl) (by kernel_rfl) (by kernel_rfl) (fun _ _ _ h => h) (.inl ⟨by rfl, ?hB18⟩) hS ?rB18
        case hB18 =>
          intro w' hs
          (try dsimp only at hs)
          go_split_ands
          go_simp
          try with_reducible rfl
        simp only [List.getElem_toArray, List.getElem_cons_succ, List.getElem_cons_zero, Act.put, List.setIfInBounds_toArray, List.set_cons_zero, List.set_cons_succ]
        refine wpAnyH_done (by kernel_rfl) ?_ _
        have y0 := cell_of hw.2.1 0 _ rfl
        have y1 := cell_of hw.2.1 1 _ rfl
        have y2 := cell_of hw.2.1 2 _ rfl
        have f0 := free_of hw.2.1 0
        have f1 := free_of hw.2.1 1
        have f2 := free_of hw.2.1 2
        obtain ⟨x0, x1, x2, -⟩ := KS.out _ hw
        have HW := Lib.hid hw
        clear hS hw
        go_wp2_with fail
        refine bodyPost_ret (v := .tuple #[.agg #[.int .i64 p.bound, .slice ai n ci, .slice au n cu], .int .i64 0, .int .i64 5]) (by simp [results, Try.results17, go_sem, y0, y1, y2]) rfl ?_
        unfold TakePost
        have hb : Below w.heap.size w (((w'.setCell ⟨w.heap.size + 1, 0, none⟩ (.int .i64 p.bound)).setCell ⟨w.heap.size + 1, 1, none⟩ (.slice ai n ci)).setCell ⟨w.heap.size + 1, 2, none⟩ (.slice au n cu)) :=
          ((HW.out.2.2.setCell (Nat.le_succ _) _).setCell (Nat.le_succ _) _).setCell (Nat.le_succ _) _
        exact ⟨_, ret_aie rfl (by rw [HT.out]) (by rw [HT.out]), by rw [HT.out]; exact ⟨_, _, rfl, (HI.out.below hb).mono (fun _ _ h => .inl h), (HS.out.below hb).mono (fun _ _ h => .inl h)⟩, hb⟩
      · by_cases h4 : 65536 ≤ n
        · have HT := Lib.hid (take_full p h1 (by unfold Rp.full; rw [decide_eq_true (show p.ids.length ≥ 65536 by rw [HN1.out]; exact h4)]; simp))
          have h4' : (65536 : Int) ≤ (n : Int) := by omega
          generalize p.sizes.sum = S0 at *
          have HD := Lib.hid (show decide (p.bound < S0 + size) = false from decide_eq_false h3)
          go_enter Try.func17, Try.ntmps17
          go_upto_region 3 with fail
          refine wp_region_held_drew (S := (fun w' => w'.cell? ⟨w.heap.size, 0, none⟩ = some (.int .i64 p.bound) ∧ w'.cell? ⟨w.heap.size, 1, none⟩ = some (.slice ai n ci) ∧ w'.cell? ⟨w.heap.size, 2, none⟩ = some (.slice au n cu) ∧ TkH w p.bound ai n ci au cu w')) mixed (KS.out _ hw) (fun hS => ?_)
          refine wpAnyH_take (i := 0) (v := ?vC0) rfl (by kernel_rfl) (by kernel_rfl) (by kernel_rfl) (fun _ _ _ h => h) (.inl ⟨by rfl, ?hC0⟩) hS ?rC0
          case hC0 =>
            intro w' hs
            (try dsimp only at hs)
            go_split_ands
            go_simp
            try with_reducible rfl
          simp only [List.getElem_toArray, List.getElem_cons_zero, Act.put, List.setIfInBounds_toArray, List.set_cons_zero, List.set_cons_succ]
          refine wpAnyH_take (i := 1) (v := ?vC1) rfl (by kernel_rfl) (by kernel_rfl) (by kernel_rfl) (fun _ _ _ h => h) (.inl ⟨by rfl, ?hC1⟩) hS ?rC1
          case hC1 =>
            intro w' hs
            (try dsimp only at hs)
            go_split_ands
            go_simp
            try with_reducible rfl
          simp only [List.getElem_toArray, List.getElem_cons_succ, List.getElem_cons_zero, Act.put, List.setIfInBounds_toArray, List.set_cons_zero, List.set_cons_succ]
          refine wpAnyH_take (i := 2) (v := ?vC2) rfl (by kernel_rfl) (by kernel_rfl) (by kernel_rfl) (fun _ _ _ h => h) (.inl ⟨by rfl, ?hC2⟩) hS ?rC2
          case hC2 =>
            intro w' hs
            (try dsimp only at hs)
            go_split_ands
            go_simp
            try with_reducible rfl
          simp only [List.getElem_toArray, List.getElem_cons_succ, List.getElem_cons_zero, Act.put, List.setIfInBounds_toArray, List.set_cons_zero, List.set_cons_succ]
          refine wpAnyH_take (i := 3) (v := ?vC3) rfl (by kernel_rfl) (by kernel_rfl) (by kernel_rfl) (fun _ _ _ h => h) (.inl ⟨by rfl, ?hC3⟩) hS ?rC3
          case hC3 =>
            intro w' hs
            (try dsimp only at hs)
            go_split_ands
            go_simp
            try with_reducible rfl
          simp only [List.getElem_toArray, List.getElem_cons_succ, List.getElem_cons_zero, Act.put, List.setIfInBounds_toArray, List.set_cons_zero, List.set_cons_succ]
          refine wpAnyH_take (i := 4) (v := ?vC4) rfl (by kernel_rfl) (by kernel_rfl) (by kernel_rfl) (fun _ _ _ h => h) (.inl ⟨by rfl, ?hC4⟩) hS ?rC4
          case hC4 =>
            intro w' hs
            (try dsimp only at hs)
            go_split_ands
            go_simp
            try with_reducible rfl
          simp only [List.getElem_toArray, List.getElem_cons_succ, List.getElem_cons_zero, Act.put, List.setIfInBounds_toArray, List.set_cons_zero, List.set_cons_succ]
          refine wpAnyH_take (i := 5) (v := ?vC5) rfl (by kernel_rfl) (by kernel_rfl) (by kernel_rfl) (fun _ _ _ h => h) (.inl ⟨by rfl, ?hC5⟩) hS ?rC5
          case hC5 =>
            intro w' hs
            (try dsimp only at hs)
            go_split_ands
            go_simp
            try with_reducible rfl
          simp only [List.getElem_toArray, List.getElem_cons_succ, List.getElem_cons_zero, Act.put, List.setIfInBounds_toArray, List.set_cons_zero, List.set_cons_succ]
          refine wpAnyH_take (i := 7) (v := ?vC7) rfl (by kernel_rfl) (by kernel_rfl) (by kernel_rfl) (fun _ _ _ h => h) (.inl ⟨by rfl, ?hC7⟩) hS ?rC7
          case hC7 =>
            intro w' hs
            (try dsimp only at hs)
            go_split_ands
            go_simp
            try with_reducible rfl
          simp only [List.getElem_toArray, List.getElem_cons_succ, List.getElem_cons_zero, Act.put, List.setIfInBounds_toArray, List.set_cons_zero, List.set_cons_succ]
          refine wpAnyH_take (i := 9) (v := ?vC9) rfl (by kernel_rfl) (by kernel_rfl) (by kernel_rfl) (fun _ _ _ h => h) (.inl ⟨by rfl, ?hC9⟩) hS ?rC9
          case hC9 =>
            intro w' hs
            (try dsimp only at hs)
            go_split_ands
            go_simp
            try with_reducible rfl
          simp only [List.getElem_toArray, List.getElem_cons_succ, List.getElem_cons_zero, Act.put, List.setIfInBounds_toArray, List.set_cons_zero, List.set_cons_succ]
          refine wpAnyH_take (i := 10) (v := ?vC10) rfl (by kernel_rfl) (by kernel_rfl) (by kernel_rfl) (fun _ _ _ h => h) (.inl ⟨by rfl, ?hC10⟩) hS ?rC10
          case hC10 =>
            intro w' hs
            (try dsimp only at hs)
            go_split_ands
            go_simp
            try with_reducible rfl
          simp only [List.getElem_toArray, List.getElem_cons_succ, List.getElem_cons_zero, Act.put, List.setIfInBounds_toArray, List.set_cons_zero, List.set_cons_succ]
          refine wpAnyH_ready (rs := [6]) (by kernel_rfl) (by simp) (AllReadyH.cons rfl (fun K hK => ?_) AllReadyH.nil)
          go_simp
          go_at_call 22
          refine (HU.out _ hw).mono ?_
          rintro e w' ⟨rfl, hw⟩
          go_wp2_with fail
          refine hK.out _ _ (KS.out _ hw) (fun hS => ?_)
          clear hK
          refine wpAnyH_take (i := 8) (v := ?vC8) rfl (by kernel_rfl) (by kernel_rfl) (by kernel_rfl) (fun _ _ _ h => h) (.inl ⟨by rfl, ?hC8⟩) hS ?rC8
          case hC8 =>
            intro w' hs
            (try dsimp only at hs)
            go_split_ands
            go_simp
            try with_reducible rfl
          simp only [List.getElem_toArray, List.getElem_cons_succ, List.getElem_cons_zero, Act.put, List.setIfInBounds_toArray, List.set_cons_zero, List.set_cons_succ]
          refine wpAnyH_take (i := 11) (v := ?vC11) rfl (by kernel_rfl) (by kernel_rfl) (by kernel_rfl) (fun _ _ _ h => h) (.inl ⟨by rfl, ?hC11⟩) hS ?rC11
          case hC11 =>
            intro w' hs
            (try dsimp only at hs)
            go_split_ands
            go_simp
            try with_reducible rfl
          simp only [List.getElem_toArray, List.getElem_cons_succ, List.getElem_cons_zero, Act.put, List.setIfInBounds_toArray, List.set_cons_zero, List.set_cons_succ]
          rw [HD.out]
          refine wpAnyH_take (i := 12) (v := ?vC12) rfl (by kernel_rfl) (by kernel_rfl) (by kernel_rfl) (fun _ _ _ h => h) (.inl ⟨by rfl, ?hC12⟩) hS ?rC12
          case hC12 =>
            intro w' hs
            (try dsimp only at hs)
            go_split_ands
            go_simp
            try with_reducible rfl
          simp only [List.getElem_toArray, List.getElem_cons_succ, List.getElem_cons_zero, Act.put, List.setIfInBounds_toArray, List.set_cons_zero, List.set_cons_succ]
          refine wpAnyH_take (i := 13) (v := ?vC13) rfl (by kernel_rfl) (by kernel_rfl) (by kernel_rfl) (fun _ _ _ h => h) (.inl ⟨by rfl, ?hC13⟩) hS ?rC13
          case hC13 =>
            intro w' hs
            (try dsimp only at hs)
            go_split_ands
            go_simp
            try with_reducible rfl
          simp only [List.getElem_toArray, List.getElem_cons_succ, List.getElem_cons_zero, Act.put, List.setIfInBounds_toArray, List.set_cons_zero, List.set_cons_succ]
          refine wpAnyH_take (i := 14) (v := ?vC14) rfl (by kernel_rfl) (by kernel_rfl) (by kernel_rfl) (fun _ _ _ h => h) (.inl ⟨by rfl, ?hC14⟩) hS ?rC14
          case hC14 =>
            intro w' hs
            (try dsimp only at hs)
            go_split_ands
            go_simp
            try with_reducible rfl
          simp only [List.getElem_toArray, List.getElem_cons_succ, List.getElem_cons_zero, Act.put, List.setIfInBounds_toArray, List.set_cons_zero, List.set_cons_succ]
          refine wpAnyH_take (i := 15) (v := ?vC15) rfl (by kernel_rfl) (by kernel_rfl) (by kernel_rfl) (fun _ _ _ h => h) (.inl ⟨by rfl, ?hC15⟩) hS ?rC15
          case hC15 =>
            intro w' hs
            (try dsimp only at hs)
            go_split_ands
            go_simp
            try with_reducible rfl
          simp only [List.getElem_toArray, List.getElem_cons_succ, List.getElem_cons_zero, Act.put, List.setIfInBounds_toArray, List.set_cons_zero, List.set_cons_succ]
          refine wpAnyH_take (i := 16) (v := ?vC16) rfl (by kernel_rfl) (by kernel_rfl) (by kernel_rfl) (fun _ _ _ h => h) (.inl ⟨by rfl, ?hC16⟩) hS ?rC16
          case hC16 =>
            intro w' hs
            (try dsimp only at hs)
            go_split_ands
            go_simp
            try with_reducible rfl
          simp only [List.getElem_toArray, List.getElem_cons_succ, List.getElem_cons_zero, Act.put, List.setIfInBounds_toArray, List.set_cons_zero, List.set_cons_succ]
          refine wpAnyH_take (i := 17) (v := ?vC17) rfl (by kernel_rfl) (by kernel_rfl) (by kernel_rfl) (fun _ _ _ h => h) (.inl ⟨by rfl, ?hC17⟩) hS ?rC17
          case hC17 =>
            intro w' hs
            (try dsimp only at hs)
            go_split_ands
            go_simp
            try with_reducible rfl
          simp only [List.getElem_toArray, List.getElem_cons_succ, List.getElem_cons_zero, Act.put, List.setIfInBounds_toArray, List.set_cons_zero, List.set_cons_succ]
          refine wpAnyH_take (i := 18) (v := ?vC18) rfl (by kernel_rfl) (by kernel_rfl) (by kernel_rfl) (fun _ _ _ h => h) (.inl ⟨by rfl, ?hC18⟩) hS ?rC18
          case hC18 =>
            intro w' hs
            (try dsimp only at hs)
            go_split_ands
            go_simp
            try with_reducible rfl
          simp only [List.getElem_toArray, List.getElem_cons_succ, List.getElem_cons_zero, Act.put, List.setIfInBounds_toArray, List.set_cons_zero, List.set_cons_succ]
          refine wpAnyH_done (by kernel_rfl) ?_ _
          have y0 := cell_of hw.2.1 0 _ rfl
          have y1 := cell_of hw.2.1 1 _ rfl
          have y2 := cell_of hw.2.1 2 _ rfl
          have f0 := free_of hw.2.1 0
          have f1 := free_of hw.2.1 1
          have f2 := free_of hw.2.1 2
          obtain ⟨x0, x1, x2, -⟩ := KS.out _ hw
          have HW := Lib.hid hw
          clear hS hw
          go_wp2_with fail
          refine bodyPost_ret (v := .tuple #[.agg #[.int .i64 p.bound, .slice ai n ci, .slice au n cu], .int .i64 0, .int .i64 5]) (by simp [results, Try.results17, go_sem, y0, y1, y2]) rfl ?_
          unfold TakePost
          have hb : Below w.heap.size w (((w'.setCell ⟨w.heap.size + 1, 0, none⟩ (.int .i64 p.bound)).setCell ⟨w.heap.size + 1, 1, none⟩ (.slice ai n ci)).setCell ⟨w.heap.size + 1, 2, none⟩ (.slice au n cu)) :=
            ((HW.out.2.2.setCell (Nat.le_succ _) _).setCell (Nat.le_succ _) _).setCell (Nat.le_succ _) _
          exact ⟨_, ret_aie rfl (by rw [HT.out]) (by rw [HT.out]), by rw [HT.out]; exact ⟨_, _, rfl, (HI.out.below hb).mono (fun _ _ h => .inl h), (HS.out.below hb).mono (fun _ _ h => .inl h)⟩, hb⟩
        · have hnf : p.full size = false := by
            unfold Rp.full
            rw [HN1.out, decide_eq_false (show ¬ size > p.bound from h2), decide_eq_false (show ¬ p.sizes.sum + size > p.bound from h3), decide_eq_false (show ¬ n ≥ 65536 from h4)]; rfl
          rcases HNO.out with h | h
          · exact absurd h h1
          · rw [hnf] at h; cases h
end Go.Proofs.Ytpfhaafaoedgpaa.Pl
