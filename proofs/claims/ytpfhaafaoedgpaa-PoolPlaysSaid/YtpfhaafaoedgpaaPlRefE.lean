/-
  Layer 12: the document's pool: an object more, where there is room (written by pl-take.py).
-/
import Derived.Test.YtpfhaafaoedgpaaPlRefD
namespace Go.Proofs.Ytpfhaafaoedgpaa.Pl
open Go Go.RowKit

set_option maxHeartbeats 8000000 in
set_option maxRecDepth 1000000 in
theorem take_yes {P : Nat → Prop} (v : Value) (p : Rp) (size : Int) (w : World) (hv : RpV P w v p) (hO : p.Ok) (hz : size ≤ 9223372036854775807) (hno : 0 ≤ size ∧ p.full size = false) :
    Calls Try.prog 17 #[v, .int .i64 size] w (TakePost P p size w) := by
  obtain ⟨ai, ci, au, cu, n, rfl, hn1, hn2, hi, hs⟩ := hv.shape hO
  have htop := hO.top
  have hfew := hO.few
  have hpos := hO.pos
  have hsum := hO.sum
  have HO := Lib.hid hO
  have HI := Lib.hid hi
  have HS := Lib.hid hs
  have HN1 := Lib.hid hn1
  have HN2 := Lib.hid hn2
  have hfew' : p.ids.length ≤ 65536 := hfew
  rw [hn1] at hfew
  have hS0 : 0 ≤ p.sizes.sum := by have := (sum_take_le p.sizes hpos p.sizes.length).1; rwa [List.take_length] at this
  have HU := Lib.hid (show ∀ w1, TkH w p.bound ai n ci au cu w1 → Calls Try.prog 22 #[.agg #[.int .i64 p.bound, .slice ai n ci, .slice au n cu]] w1 (fun e w' => e = .returned (.int .i64 p.sizes.sum) ∧ TkH w p.bound ai n ci au cu w') from fun w1 h1 =>
    (used_fn (P := P) _ p w1 ⟨_, _, rfl, hi.below h1.2.2, hs.below h1.2.2⟩ hO).mono (fun _ _ h => ⟨h.1, h1.below h.2⟩))
  have KS := Lib.hid (show ∀ w1, TkH w p.bound ai n ci au cu w1 → _ from fun w1 h1 => h1.cells)
  have hw : TkH w p.bound ai n ci au cu ((w.alloc (.cells #[.int .i64 p.bound, .slice ai n ci, .slice au n cu] 38)).alloc (.cells #[.int .i64 0, .slice none 0 0, .slice none 0 0] 38)).drew := by
    have h := two_below w (.cells #[.int .i64 p.bound, .slice ai n ci, .slice au n cu] 38) (.cells #[.int .i64 0, .slice none 0 0, .slice none 0 0] 38)
    exact ⟨h.2.1, h.2.2, h.1.drew⟩
  have HKEEP := Lib.hid (show ∀ w1, TkH w p.bound ai n ci au cu w1 → RpV (fun k => P k ∨ w.heap.size ≤ k) w1 (.agg #[.int .i64 p.bound, .slice ai n ci, .slice au n cu]) p from fun w1 h1 =>
    ⟨_, _, rfl, (hi.below h1.2.2).mono (fun _ _ h => .inl h), (hs.below h1.2.2).mono (fun _ _ h => .inl h)⟩)
  have HNO := Lib.hid hno
  clear hi hs hO hv hn1 hn2 hpos hfew' hno
  obtain ⟨h10, hnf⟩ := HNO.out
  have h1 : ¬ size < 0 := by omega
  have HT := Lib.hid (take_put p h1 hnf)
  unfold Rp.full at hnf
  rw [HN1.out, Bool.or_eq_false_iff, Bool.or_eq_false_iff] at hnf
  have h2 : ¬ p.bound < size := of_decide_eq_false hnf.1
  have h3 : ¬ p.bound < p.sizes.sum + size := of_decide_eq_false hnf.2.1
  have h4 : ¬ 65536 ≤ n := of_decide_eq_false hnf.2.2
  have h4' : ¬ (65536 : Int) ≤ (n : Int) := by omega
  have e1 := IntWalk.i64_in (p.sizes.sum + size) (by omega)
  have h5 : (n : Int) < 65536 := by omega
  have HN64 := Lib.hid h4
  have HF := Lib.hid hfew
  clear hnf hfew h4 h4'
  generalize p.sizes.sum = S0 at *
  have HLE := Lib.hid (show lead 0 p.ids ≤ n by rw [← HN1.out]; exact lead_le _ _)
  have HNX := Lib.hid (show ∀ (k : Nat), k ≤ lead 0 p.ids → ∀ hk : k < p.ids.length, p.ids[k] = k + 1 → k + 1 ≤ lead 0 p.ids from fun k h hk he => lead_next h hk he)
  have HEQ := Lib.hid (show ∀ (k : Nat), k ≤ lead 0 p.ids → (∀ hk : k < p.ids.length, p.ids[k] ≠ k + 1) → lead 0 p.ids = k from fun k h hs => lead_eq h hs)
  obtain ⟨L, hL⟩ : ∃ L, L = lead 0 p.ids := ⟨_, rfl⟩
  rw [← hL] at HLE HNX HEQ HT
  clear hL
  have HD := Lib.hid (show decide (p.bound < S0 + size) = false from decide_eq_false h3)
  have HD2 := Lib.hid (show decide ((65536 : Int) ≤ (n : Int)) = false from decide_eq_false (by omega))
  go_enter Try.func17, Try.ntmps17
  go_upto_region 3 with fail
  refine wp_region_held_drew (S := (fun w' => w'.cell? ⟨w.heap.size, 0, none⟩ = some (.int .i64 p.bound) ∧ w'.cell? ⟨w.heap.size, 1, none⟩ = some (.slice ai n ci) ∧ w'.cell? ⟨w.heap.size, 2, none⟩ = some (.slice au n cu) ∧ TkH w p.bound ai n ci au cu w')) mixed (KS.out _ hw) (fun hS => ?_)
  refine wpAnyH_take (i := 0) (v := ?vC0) rfl (by kernel_rfl) (by kernel_rfl) (by kernel_rfl) (fun _ _ _ h => h) (.inl ⟨by rfl, ?hC0⟩) hS ?rC0
  case hC0 =>
    intro w' hs
    (try dsimp only at hs)
    go_split_ands
    go_simp
    try with_reducible rfl
  simp only [List.getElem_toArray, List.getElem_cons_zero, Act.put, List.setIfInBounds_toArray, List.set_cons_zero, List.set_cons_succ]
  refine wpAnyH_take (i := 1) (v := ?vC1) rfl (by kernel_rfl) (by kernel_rfl) (by kernel_rfl) (fun _ _ _ h => h) (.inl ⟨by rfl, ?hC1⟩) hS ?rC1
  case hC1 =>
    intro w' hs
    (try dsimp only at hs)
    go_split_ands
    go_simp
    try with_reducible rfl
  simp only [List.getElem_toArray, List.getElem_cons_succ, List.getElem_cons_zero, Act.put, List.setIfInBounds_toArray, List.set_cons_zero, List.set_cons_succ]
  refine wpAnyH_take (i := 2) (v := ?vC2) rfl (by kernel_rfl) (by kernel_rfl) (by kernel_rfl) (fun _ _ _ h => h) (.inl ⟨by rfl, ?hC2⟩) hS ?rC2
  case hC2 =>
    intro w' hs
    (try dsimp only at hs)
    go_split_ands
    go_simp
    try with_reducible rfl
  simp only [List.getElem_toArray, List.getElem_cons_succ, List.getElem_cons_zero, Act.put, List.setIfInBounds_toArray, List.set_cons_zero, List.set_cons_succ]
  refine wpAnyH_take (i := 3) (v := ?vC3) rfl (by kernel_rfl) (by kernel_rfl) (by kernel_rfl) (fun _ _ _ h => h) (.inl ⟨by rfl, ?hC3⟩) hS ?rC3
  case hC3 =>
    intro w' hs
    (try dsimp only at hs)
    go_split_ands
    go_simp
    try with_reducible rfl
  simp only [List.getElem_toArray, List.getElem_cons_succ, List.getElem_cons_zero, Act.put, List.setIfInBounds_toArray, List.set_cons_zero, List.set_cons_succ]
  refine wpAnyH_take (i := 4) (v := ?vC4) rfl (by kernel_rfl) (by kernel_rfl) (by kernel_rfl) (fun _ _ _ h => h) (.inl ⟨by rfl, ?hC4⟩) hS ?rC4
  case hC4 =>
    intro w' hs
    (try dsimp only at hs)
    go_split_ands
    go_simp
    try with_reducible rfl
  simp only [List.getElem_toArray, List.getElem_cons_succ, List.getElem_cons_zero, Act.put, List.setIfInBounds_toArray, List.set_cons_zero, List.set_cons_succ]
  refine wpAnyH_take (i := 5) (v := ?vC5) rfl (by kernel_rfl) (by kernel_rfl) (by kernel_rfl) (fun _ _ _ h => h) (.inl ⟨by rfl, ?hC5⟩) hS ?rC5
  case hC5 =>
    intro w' hs
    (try dsimp only at hs)
    go_split_ands
    go_simp
    try with_reducible rfl
  simp only [List.getElem_toArray, List.getElem_cons_succ, List.getElem_cons_zero, Act.put, List.setIfInBounds_toArray, List.set_cons_zero, List.set_cons_succ]
  refine wpAnyH_take (i := 7) (v := ?vC7) rfl (by kernel_rfl) (by kernel_rfl) (by kernel_rfl) (fun _ _ _ h => h) (.inl ⟨by rfl, ?hC7⟩) hS ?rC7
  case hC7 =>
    intro w' hs
    (try dsimp only at hs)
    go_split_ands
    go_simp
    try with_reducible rfl
  simp only [List.getElem_toArray, List.getElem_cons_succ, List.getElem_cons_zero, Act.put, List.setIfInBounds_toArray, List.set_cons_zero, List.set_cons_succ]
  refine wpAnyH_take (i := 9) (v := ?vC9) rfl (by kernel_rfl) (by kernel_rfl) (by kernel_rfl) (fun _ _ _ h => h) (.inl ⟨by rfl, ?hC9⟩) hS ?rC9
  case hC9 =>
    intro w' hs
    (try dsimp only at hs)
    go_split_ands
    go_simp
    try with_reducible rfl
  simp only [List.getElem_toArray, List.getElem_cons_succ, List.getElem_cons_zero, Act.put, List.setIfInBounds_toArray, List.set_cons_zero, List.set_cons_succ]
  refine wpAnyH_take (i := 10) (v := ?vC10) rfl (by kernel_rfl) (by kernel_rfl) (by kernel_rfl) (fun _ _ _ h => h) (.inl ⟨by rfl, ?hC10⟩) hS ?rC10
  case hC10 =>
    intro w' hs
    (try dsimp only at hs)
    go_split_ands
    go_simp
    try with_reducible rfl
  simp only [List.getElem_toArray, List.getElem_cons_succ, List.getElem_cons_zero, Act.put, List.setIfInBounds_toArray, List.set_cons_zero, List.set_cons_succ]
  refine wpAnyH_ready (rs := [6]) (by kernel_rfl) (by simp) (AllReadyH.cons rfl (fun K hK => ?_) AllReadyH.nil)
  go_simp
  go_at_call 22
  refine (HU.out _ hw).mono ?_
  rintro e w' ⟨rfl, hw⟩
  go_wp2_with fail
  refine hK.out _ _ (KS.out _ hw) (fun hS => ?_)
  clear hK
  refine wpAnyH_take (i := 8) (v := ?vC8) rfl (by kernel_rfl) (by kernel_rfl) (by kernel_rfl) (fun _ _ _ h => h) (.inl ⟨by rfl, ?hC8⟩) hS ?rC8
  case hC8 =>
    intro w' hs
    (try dsimp only at hs)
    go_split_ands
    go_simp
    try with_reducible rfl
  simp only [List.getElem_toArray, List.getElem_cons_succ, List.getElem_cons_zero, Act.put, List.setIfInBounds_toArray, List.set_cons_zero, List.set_cons_succ]
  refine wpAnyH_take (i := 11) (v := ?vC11) rfl (by kernel_rfl) (by kernel_rfl) (by kernel_rfl) (fun _ _ _ h => h) (.inl ⟨by rfl, ?hC11⟩) hS ?rC11
  case hC11 =>
    intro w' hs
    (try dsimp only at hs)
    go_split_ands
    go_simp
    try with_reducible rfl
  simp only [List.getElem_toArray, List.getElem_cons_succ, List.getElem_cons_zero, Act.put, List.setIfInBounds_toArray, List.set_cons_zero, List.set_cons_succ]
  rw [HD.out]
  refine wpAnyH_take (i := 12) (v := ?vC12) rfl (by kernel_rfl) (by kernel_rfl) (by kernel_rfl) (fun _ _ _ h => h) (.inl ⟨by rfl, ?hC12⟩) hS ?rC12
  case hC12 =>
    intro w' hs
    (try dsimp only at hs)
    go_split_ands
    go_simp
    try with_reducible rfl
  simp only [List.getElem_toArray, List.getElem_cons_succ, List.getElem_cons_zero, Act.put, List.setIfInBounds_toArray, List.set_cons_zero, List.set_cons_succ]
  refine wpAnyH_take (i := 13) (v := ?vC13) rfl (by kernel_rfl) (by kernel_rfl) (by kernel_rfl) (fun _ _ _ h => h) (.inl ⟨by rfl, ?hC13⟩) hS ?rC13
  case hC13 =>
    intro w' hs
    (try dsimp only at hs)
    go_split_ands
    go_simp
    try with_reducible rfl
  simp only [List.getElem_toArray, List.getElem_cons_succ, List.getElem_cons_zero, Act.put, List.setIfInBounds_toArray, List.set_cons_zero, List.set_cons_succ]
  refine wpAnyH_take (i := 14) (v := ?vC14) rfl (by kernel_rfl) (by kernel_rfl) (by kernel_rfl) (fun _ _ _ h => h) (.inl ⟨by rfl, ?hC14⟩) hS ?rC14
  case hC14 =>
    intro w' hs
    (try dsimp only at hs)
    go_split_ands
    go_simp
    try with_reducible rfl
  simp only [List.getElem_toArray, List.getElem_cons_succ, List.getElem_cons_zero, Act.put, List.setIfInBounds_toArray, List.set_cons_zero, List.set_cons_succ]
  refine wpAnyH_take (i := 15) (v := ?vC15) rfl (by kernel_rfl) (by kernel_rfl) (by kernel_rfl) (fun _ _ _ h => h) (.inl ⟨by rfl, ?hC15⟩) hS ?rC15
  case hC15 =>
    intro w' hs
    (try dsimp only at hs)
    go_split_ands
    go_simp
    try with_reducible rfl
  simp only [List.getElem_toArray, List.getElem_cons_succ, List.getElem_cons_zero, Act.put, List.setIfInBounds_toArray, List.set_cons_zero, List.set_cons_succ]
  refine wpAnyH_take (i := 16) (v := ?vC16) rfl (by kernel_rfl) (by kernel_rfl) (by kernel_rfl) (fun _ _ _ h => h) (.inl ⟨by rfl, ?hC16⟩) hS ?rC16
  case hC16 =>
    intro w' hs
    (try dsimp only at hs)
    go_split_ands
    go_simp
    try with_reducible rfl
  simp only [List.getElem_toArray, List.getElem_cons_succ, List.getElem_cons_zero, Act.put, List.setIfInBounds_toArray, List.set_cons_zero, List.set_cons_succ]
  refine wpAnyH_take (i := 17) (v := ?vC17) rfl (by kernel_rfl) (by kernel_rfl) (by kernel_rfl) (fun _ _ _ h => h) (.inl ⟨by rfl, ?hC17⟩) hS ?rC17
  case hC17 =>
    intro w' hs
    (try dsimp only at hs)
    go_split_ands
    go_simp
    try with_reducible rfl
  simp only [List.getElem_toArray, List.getElem_cons_succ, List.getElem_cons_zero, Act.put, List.setIfInBounds_toArray, List.set_cons_zero, List.set_cons_succ]
  rw [HD2.out]
  refine wpAnyH_take (i := 18) (v := ?vC18) rfl (by kernel_rfl) (by kernel_rfl) (by kernel_rfl) (fun _ _ _ h => h) (.inl ⟨by rfl, ?hC18⟩) hS ?rC18
  case hC18 =>
    intro w' hs
    (try dsimp only at hs)
    go_split_ands
    go_simp
    try with_reducible rfl
  simp only [List.getElem_toArray, List.getElem_cons_succ, List.getElem_cons_zero, Act.put, List.setIfInBounds_toArray, List.set_cons_zero, List.set_cons_succ]
  refine wpAnyH_done (by kernel_rfl) ?_ _
  obtain ⟨x0, x1, x2, -⟩ := KS.out _ hw
  have HW := Lib.hid hw
  clear hS hw
  go_upto_block 0 with fail
  go_cut [7] from 32 to 48 (fun i wx => i = .int .i64 (L : Int) ∧ wx = w')
  case first =>
    go_wp2_with fail
    go_loopg [7] n (fun r i wr => ∃ k : Nat, r = n - k ∧ i = .int .i64 k ∧ k ≤ n ∧ k ≤ L ∧ wr = w')
    case atStart => exact ⟨0, rfl, rfl, Nat.zero_le _, Nat.zero_le _, rfl⟩
    case round =>
      obtain ⟨k, rfl, rfl, hk, hkL, rfl⟩ := hrel
      have HKL := Lib.hid hkL
      clear hkL
      by_cases hlt : k < n
      · have hlt' : (k : Int) < n := by omega
        have hka : k < p.ids.length := by have := HN1.out; omega
        obtain ⟨g, off, cap, hP, hg, hv, -, c0⟩ := HI.out.item (i := k) (by rw [ints_len]; exact hka)
        rw [ints_get _ _ hka] at c0
        injection hv with hv1 hv2 hv3
        subst hv1
        have c1 := c0
        rw [← HW.out.2.2.cell (p := ⟨g, off + k, none⟩) hg] at c1
        clear c0 hg hP hv2 hv3
        have HX := Lib.hid (HNX.out k HKL.out hka)
        have HY := Lib.hid (HEQ.out k HKL.out)
        have HZ := Lib.hid (show ∀ hk : k < p.ids.length, p.ids[k] = p.ids[k] from fun _ => rfl)
        generalize hx : p.ids[k] = x at *
        have HXK := Lib.hid hx
        clear hx
        have e0 := IntWalk.i64_in ((k : Int) + 1) (by omega)
        by_cases hxi : x = (k : Int) + 1
        · subst hxi
          go_wp2_with fail
          go_roundg (n - (k + 1))
          case measure => omega
          case rel => exact ⟨k + 1, rfl, by go_num, by omega, HX.out trivial, rfl⟩
        · have hxb : (x == (k : Int) + 1) = false := by simpa using hxi
          have hLk := HY.out (fun _ => by rw [HXK.out]; exact hxi)
          clear hxi
          go_wp2_with fail
          go_meet
          exact ⟨by rw [hLk], rfl⟩
      · have hLk := HEQ.out k HKL.out (fun hk => absurd hk (by have := HN1.out; omega))
        go_wp2_with fail
        go_meet
        exact ⟨by rw [hLk], rfl⟩
  case rest =>
    obtain ⟨rfl, rfl⟩ := hcut
    have e0 := IntWalk.i64_in ((L : Int) + 1) (by have := HLE.out; omega)
    have HT1 := Lib.hid (Two.new wc p.bound)
    go_wp2_with fail
    generalize hW : wc.alloc (.cells #[.int .i64 p.bound, .slice none 0 0, .slice none 0 0] 38) = W1 at *
    clear hW
    obtain ⟨ao1, cp1, hrun1, hpart1⟩ := LstP.to (T := 36) (HI.out.below (HW.out.2.2.trans (HT1.out.low.mono HW.out.2.2.size))) L (by rw [ints_len, HN1.out]; exact HLE.out) Try.underlying36 elemInts sizeInt
    have HPART1 := Lib.hid hpart1
    have q1 := cell_of HT1.out.box 1 _ rfl
    have t1 := x1
    rw [← HT1.out.low.cell (p := ⟨w.heap.size, 1, none⟩) (lt_of_get HW.out.1)] at t1
    clear hpart1
    go_still_tail 6, mixed
    change wpList _ _ _ _ _ W1.drew
    refine wpList_append_part rfl (.tmp 53) (.tmp 57) 36 rfl (wc.heap.size + 1) 3 (.int .i64 0) 8 Try.underlying36 infoInt rfl (.slice none 0 0) ([]).length (ints ([])) rfl HT1.out.drew.oi _ (ints (p.ids.take L)) rfl (show LstP P W1.drew _ (ints (p.ids.take L)) from by unfold ints at *; first | rw [List.map_take]; exact HPART1.out | rw [List.map_drop]; exact HPART1.out) (oneInts _) ?l1 ?m1 ?n1 ?_
    case l1 => exact Nat.le_trans (m := 200000) (by have := HF.out; have := HLE.out; have := HN1.out; have := HN2.out; simp [ints] <;> omega) (by decide)
    case m1 => exact Nat.le_trans (Nat.mul_le_mul_right 8 (m := 200000) (by have := HF.out; have := HLE.out; have := HN1.out; have := HN2.out; simp [ints] <;> omega)) (by decide)
    case n1 => exact Nat.succ_le_of_lt (lt_of_get HT1.out.box)
    intro v1 w101 h1 h2 h3
    obtain ⟨aa1, m1, cc1, rfl⟩ := own_some h1
    rw [ints_len, ← List.length_append, ints_app] at h1
    have hbx := HT1.out.drew.box_kept (Below.refl _ _) h2 (.inl rfl)
    have hT := HT1.out.drew.addI (Below.refl _ _) h1 h2 h3
    have z1 := cell_of hbx 1 _ rfl
    have f1 := free_of hbx 1
    have HT2 := Lib.hid hT
    clear h1 h2 h3 hbx hT
    go_upto_region 10 with fail
    generalize w101.setCell ⟨wc.heap.size, 1, none⟩ (.slice aa1 m1 cc1) = W2 at *
    clear z1 f1 q1 t1 hrun1
    obtain ⟨ao2, cp2, hrun2, hpart2⟩ := LstP.to (T := 36) (HS.out.below (HW.out.2.2.trans (HT2.out.low.mono HW.out.2.2.size))) L (by rw [ints_len, HN2.out]; exact HLE.out) Try.underlying36 elemInts sizeInt
    have HPART2 := Lib.hid hpart2
    have q2 := cell_of HT2.out.box 2 _ rfl
    have t2 := x2
    rw [← HT2.out.low.cell (p := ⟨w.heap.size, 2, none⟩) (lt_of_get HW.out.1)] at t2
    clear hpart2
    go_still_tail 6, mixed
    change wpList _ _ _ _ _ W2.drew
    refine wpList_append_part rfl (.tmp 61) (.tmp 65) 36 rfl (wc.heap.size + 1) 3 (.int .i64 0) 8 Try.underlying36 infoInt rfl (.slice none 0 0) ([]).length (ints ([])) rfl HT2.out.drew.os _ (ints (p.sizes.take L)) rfl (show LstP P W2.drew _ (ints (p.sizes.take L)) from by unfold ints at *; first | rw [List.map_take]; exact HPART2.out | rw [List.map_drop]; exact HPART2.out) (oneInts _) ?l2 ?m2 ?n2 ?_
    case l2 => exact Nat.le_trans (m := 200000) (by have := HF.out; have := HLE.out; have := HN1.out; have := HN2.out; simp [ints] <;> omega) (by decide)
    case m2 => exact Nat.le_trans (Nat.mul_le_mul_right 8 (m := 200000) (by have := HF.out; have := HLE.out; have := HN1.out; have := HN2.out; simp [ints] <;> omega)) (by decide)
    case n2 => exact Nat.succ_le_of_lt (lt_of_get HT2.out.box)
    intro v2 w102 h1 h2 h3
    obtain ⟨aa2, m2, cc2, rfl⟩ := own_some h1
    rw [ints_len, ← List.length_append, ints_app] at h1
    have hbx := HT2.out.drew.box_kept (Below.refl _ _) h2 (.inr rfl)
    have hT := HT2.out.drew.addS (Below.refl _ _) h1 h2 h3
    have z2 := cell_of hbx 2 _ rfl
    have f2 := free_of hbx 2
    have HT3 := Lib.hid hT
    clear h1 h2 h3 hbx hT
    go_upto_region 11 with fail
    generalize w102.setCell ⟨wc.heap.size, 2, none⟩ (.slice aa2 m2 cc2) = W3 at *
    clear z2 f2 q2 t2 hrun2
    have q3 := cell_of HT3.out.box 1 _ rfl
    go_wp2_with (at_builtin; go_loud (refine wpList_append_at rfl (.tmp 69) (.tmp 72) 36 rfl (wc.heap.size + 1) 3 (.int .i64 0) 8 Try.underlying36 infoInt rfl (.slice aa1 m1 cc1) ([] ++ p.ids.take L).length (ints ([] ++ p.ids.take L)) rfl HT3.out.oi (.int .i64 ((L : Int) + 1)) rfl rfl ?l3 ?m3 ?n3 ?_))
    case l3 => exact Nat.le_trans (m := 200000) (by have := HF.out; have := HLE.out; have := HN1.out; have := HN2.out; simp <;> omega) (by decide)
    case m3 => exact Nat.le_trans (Nat.mul_le_mul_right 8 (m := 200000) (by have := HF.out; have := HLE.out; have := HN1.out; have := HN2.out; simp <;> omega)) (by decide)
    case n3 => exact Nat.succ_le_of_lt (lt_of_get HT3.out.box)
    intro v3 w103 h1 h2 h3
    obtain ⟨aa3, m3, cc3, rfl⟩ := own_some h1
    have h1 : w103.ownsRow (wc.heap.size + 1) 3 1 (.slice aa3 m3 cc3) ([] ++ p.ids.take L ++ [((L : Int) + 1)]).length (ints ([] ++ p.ids.take L ++ [((L : Int) + 1)])) := by simpa [ints] using h1
    have hbl := (Below.refl W3.heap.size W3).alloc (Nat.le_refl _) (.cells #[.int .i64 ((L : Int) + 1)] 3)
    have hbx := HT3.out.box_kept hbl h2 (.inl rfl)
    have hT := HT3.out.addI hbl h1 h2 (by simpa using h3)
    have z3 := cell_of hbx 1 _ rfl
    have f3 := free_of hbx 1
    have HT4 := Lib.hid hT
    clear h1 h2 h3 hbx hT hbl
    go_upto_region 12 with fail
    generalize w103.setCell ⟨wc.heap.size, 1, none⟩ (.slice aa3 m3 cc3) = W4 at *
    clear z3 f3 q3
    have q4 := cell_of HT4.out.box 2 _ rfl
    go_wp2_with (at_builtin; go_loud (refine wpList_append_at rfl (.tmp 76) (.tmp 78) 36 rfl (wc.heap.size + 1) 3 (.int .i64 0) 8 Try.underlying36 infoInt rfl (.slice aa2 m2 cc2) ([] ++ p.sizes.take L).length (ints ([] ++ p.sizes.take L)) rfl HT4.out.os (.int .i64 size) rfl rfl ?l4 ?m4 ?n4 ?_))
    case l4 => exact Nat.le_trans (m := 200000) (by have := HF.out; have := HLE.out; have := HN1.out; have := HN2.out; simp <;> omega) (by decide)
    case m4 => exact Nat.le_trans (Nat.mul_le_mul_right 8 (m := 200000) (by have := HF.out; have := HLE.out; have := HN1.out; have := HN2.out; simp <;> omega)) (by decide)
    case n4 => exact Nat.succ_le_of_lt (lt_of_get HT4.out.box)
    intro v4 w104 h1 h2 h3
    obtain ⟨aa4, m4, cc4, rfl⟩ := own_some h1
    have h1 : w104.ownsRow (wc.heap.size + 1) 3 1 (.slice aa4 m4 cc4) ([] ++ p.sizes.take L ++ [size]).length (ints ([] ++ p.sizes.take L ++ [size])) := by simpa [ints] using h1
    have hbl := (Below.refl W4.heap.size W4).alloc (Nat.le_refl _) (.cells #[.int .i64 size] 3)
    have hbx := HT4.out.box_kept hbl h2 (.inr rfl)
    have hT := HT4.out.addS hbl h1 h2 (by simpa using h3)
    have z4 := cell_of hbx 2 _ rfl
    have f4 := free_of hbx 2
    have HT5 := Lib.hid hT
    clear h1 h2 h3 hbx hT hbl
    go_upto_region 13 with fail
    generalize w104.setCell ⟨wc.heap.size, 2, none⟩ (.slice aa4 m4 cc4) = W5 at *
    clear z4 f4 q4
    obtain ⟨ao5, nl5, cp5, hrun5, hpart5⟩ := LstP.from' (T := 36) (HI.out.below (HW.out.2.2.trans (HT5.out.low.mono HW.out.2.2.size))) L (by rw [ints_len, HN1.out]; exact HLE.out) Try.underlying36 elemInts sizeInt
    have HPART5 := Lib.hid hpart5
    have q5 := cell_of HT5.out.box 1 _ rfl
    have t5 := x1
    rw [← HT5.out.low.cell (p := ⟨w.heap.size, 1, none⟩) (lt_of_get HW.out.1)] at t5
    clear hpart5
    go_still_tail 6, mixed
    change wpList _ _ _ _ _ W5.drew
    refine wpList_append_part rfl (.tmp 82) (.tmp 86) 36 rfl (wc.heap.size + 1) 3 (.int .i64 0) 8 Try.underlying36 infoInt rfl (.slice aa3 m3 cc3) ([] ++ p.ids.take L ++ [((L : Int) + 1)]).length (ints ([] ++ p.ids.take L ++ [((L : Int) + 1)])) rfl HT5.out.drew.oi _ (ints (p.ids.drop L)) rfl (show LstP P W5.drew _ (ints (p.ids.drop L)) from by unfold ints at *; first | rw [List.map_take]; exact HPART5.out | rw [List.map_drop]; exact HPART5.out) (oneInts _) ?l5 ?m5 ?n5 ?_
    case l5 => exact Nat.le_trans (m := 200000) (by have := HF.out; have := HLE.out; have := HN1.out; have := HN2.out; simp [ints] <;> omega) (by decide)
    case m5 => exact Nat.le_trans (Nat.mul_le_mul_right 8 (m := 200000) (by have := HF.out; have := HLE.out; have := HN1.out; have := HN2.out; simp [ints] <;> omega)) (by decide)
    case n5 => exact Nat.succ_le_of_lt (lt_of_get HT5.out.box)
    intro v5 w105 h1 h2 h3
    obtain ⟨aa5, m5, cc5, rfl⟩ := own_some h1
    rw [ints_len, ← List.length_append, ints_app] at h1
    have hbx := HT5.out.drew.box_kept (Below.refl _ _) h2 (.inl rfl)
    have hT := HT5.out.drew.addI (Below.refl _ _) h1 h2 h3
    have z5 := cell_of hbx 1 _ rfl
    have f5 := free_of hbx 1
    have HT6 := Lib.hid hT
    clear h1 h2 h3 hbx hT
    go_upto_region 14 with fail
    generalize w105.setCell ⟨wc.heap.size, 1, none⟩ (.slice aa5 m5 cc5) = W6 at *
    clear z5 f5 q5 t5 hrun5
    obtain ⟨ao6, nl6, cp6, hrun6, hpart6⟩ := LstP.from' (T := 36) (HS.out.below (HW.out.2.2.trans (HT6.out.low.mono HW.out.2.2.size))) L (by rw [ints_len, HN2.out]; exact HLE.out) Try.underlying36 elemInts sizeInt
    have HPART6 := Lib.hid hpart6
    have q6 := cell_of HT6.out.box 2 _ rfl
    have t6 := x2
    rw [← HT6.out.low.cell (p := ⟨w.heap.size, 2, none⟩) (lt_of_get HW.out.1)] at t6
    clear hpart6
    go_still_tail 6, mixed
    change wpList _ _ _ _ _ W6.drew
    refine wpList_append_part rfl (.tmp 90) (.tmp 94) 36 rfl (wc.heap.size + 1) 3 (.int .i64 0) 8 Try.underlying36 infoInt rfl (.slice aa4 m4 cc4) ([] ++ p.sizes.take L ++ [size]).length (ints ([] ++ p.sizes.take L ++ [size])) rfl HT6.out.drew.os _ (ints (p.sizes.drop L)) rfl (show LstP P W6.drew _ (ints (p.sizes.drop L)) from by unfold ints at *; first | rw [List.map_take]; exact HPART6.out | rw [List.map_drop]; exact HPART6.out) (oneInts _) ?l6 ?m6 ?n6 ?_
    case l6 => exact Nat.le_trans (m := 200000) (by have := HF.out; have := HLE.out; have := HN1.out; have := HN2.out; simp [ints] <;> omega) (by decide)
    case m6 => exact Nat.le_trans (Nat.mul_le_mul_right 8 (m := 200000) (by have := HF.out; have := HLE.out; have := HN1.out; have := HN2.out; simp [ints] <;> omega)) (by decide)
    case n6 => exact Nat.succ_le_of_lt (lt_of_get HT6.out.box)
    intro v6 w106 h1 h2 h3
    obtain ⟨aa6, m6, cc6, rfl⟩ := own_some h1
    rw [ints_len, ← List.length_append, ints_app] at h1
    have hbx := HT6.out.drew.box_kept (Below.refl _ _) h2 (.inr rfl)
    have hT := HT6.out.drew.addS (Below.refl _ _) h1 h2 h3
    have z6 := cell_of hbx 2 _ rfl
    have f6 := free_of hbx 2
    have HT7 := Lib.hid hT
    clear h1 h2 h3 hbx hT
    go_upto_region 15 with fail
    generalize w106.setCell ⟨wc.heap.size, 2, none⟩ (.slice aa6 m6 cc6) = W7 at *
    clear z6 f6 q6 t6 hrun6
    have hr := HW.out.2.1
    rw [← HT7.out.low.block _ (lt_of_get hr)] at hr
    have y0 := cell_of hr 0 _ rfl
    have y1 := cell_of hr 1 _ rfl
    have y2 := cell_of hr 2 _ rfl
    have f0 := free_of hr 0
    have f1 := free_of hr 1
    have f2 := free_of hr 2
    have q0 := cell_of HT7.out.box 0 _ rfl
    have q1 := cell_of HT7.out.box 1 _ rfl
    have q2 := cell_of HT7.out.box 2 _ rfl
    clear hr
    go_wp2_with fail
    refine bodyPost_ret (v := .tuple #[.agg #[.int .i64 p.bound, .slice aa5 m5 cc5, .slice aa6 m6 cc6], .int .i64 ((L : Int) + 1), .int .i64 0]) (by simp [results, Try.results17, go_sem, y0, y1, y2]) rfl ?_
    unfold TakePost
    have hne : ∀ k, wc.heap.size + 1 ≤ k → k ≠ w.heap.size + 1 := fun k hk e => by have := lt_of_get HW.out.2.1; omega
    have hkeep : ∀ (k : Nat), wc.heap.size + 1 ≤ k → (((W7.setCell ⟨w.heap.size + 1, 0, none⟩ (.int .i64 p.bound)).setCell ⟨w.heap.size + 1, 1, none⟩ (.slice aa5 m5 cc5)).setCell ⟨w.heap.size + 1, 2, none⟩ (.slice aa6 m6 cc6)).heap[k]? = W7.heap[k]? := fun k hk => by
      rw [heap_setCell_other _ _ _ _ (hne k hk), heap_setCell_other _ _ _ _ (hne k hk), heap_setCell_other _ _ _ _ (hne k hk)]
    have hb : Below w.heap.size w (((W7.setCell ⟨w.heap.size + 1, 0, none⟩ (.int .i64 p.bound)).setCell ⟨w.heap.size + 1, 1, none⟩ (.slice aa5 m5 cc5)).setCell ⟨w.heap.size + 1, 2, none⟩ (.slice aa6 m6 cc6)) :=
      (((HW.out.2.2.trans (HT7.out.low.mono HW.out.2.2.size)).setCell (Nat.le_succ _) _).setCell (Nat.le_succ _) _).setCell (Nat.le_succ _) _
    have hz := HW.out.2.2.size
    have hfit : ∀ l : List Int, l.length ≤ 200000 → Len l.length := fun l h => by unfold Len; omega
    have hl1 : ([] ++ p.ids.take L ++ [((L : Int) + 1)] ++ p.ids.drop L).length ≤ 200000 := by have := HF.out; have := HLE.out; have := HN1.out; simp; omega
    have hl2 : ([] ++ p.sizes.take L ++ [size] ++ p.sizes.drop L).length ≤ 200000 := by have := HF.out; have := HLE.out; have := HN2.out; simp; omega
    have k1 : LstP (wc.heap.size + 1 ≤ ·) W7 (.slice aa5 m5 cc5) (ints ([] ++ p.ids.take L ++ [((L : Int) + 1)] ++ p.ids.drop L)) := LstP.own HT7.out.oi (hfit _ hl1)
    have k2 : LstP (wc.heap.size + 1 ≤ ·) W7 (.slice aa6 m6 cc6) (ints ([] ++ p.sizes.take L ++ [size] ++ p.sizes.drop L)) := LstP.own HT7.out.os (hfit _ hl2)
    have k3 := (k1.keep (fun k hk _ => hkeep k hk) (by simp)).mono (P' := fun k => P k ∨ w.heap.size ≤ k) (fun k _ h => .inr (by omega))
    have k4 := (k2.keep (fun k hk _ => hkeep k hk) (by simp)).mono (P' := fun k => P k ∨ w.heap.size ≤ k) (fun k _ h => .inr (by omega))
    rw [show [] ++ p.ids.take L ++ [((L : Int) + 1)] ++ p.ids.drop L = p.ids.take L ++ ((L : Int) + 1) :: p.ids.drop L from by simp] at k3
    rw [show [] ++ p.sizes.take L ++ [size] ++ p.sizes.drop L = p.sizes.take L ++ size :: p.sizes.drop L from by simp] at k4
    exact ⟨_, ret_aie rfl (by rw [HT.out]) (by rw [HT.out]), by rw [HT.out]; exact ⟨_, _, rfl, k3, k4⟩, hb⟩
  theorem take_fn {P : Nat → Prop} (v : Value) (p : Rp) (size : Int) (w : World) (hv : RpV P w v p) (hO : p.Ok) (hz : size ≤ 9223372036854775807) :
      Calls Try.prog 17 #[v, .int .i64 size] w (TakePost P p size w) := by
    by_cases h1 : size < 0
    · exact take_no v p size w hv hO hz (.inl h1)
    · cases h2 : p.full size with
      | true => exact take_no v p size w hv hO hz (.inr h2)
      | false => exact take_yes v p size w hv hO hz ⟨by omega, h2⟩
end Go.Proofs.Ytpfhaafaoedgpaa.Pl
