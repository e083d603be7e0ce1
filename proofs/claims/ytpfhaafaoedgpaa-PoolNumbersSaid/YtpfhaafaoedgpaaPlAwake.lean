/-
  Layer 12: the chapter's examples, over what the calls say (written by pl-awake.py).
-/
import Derived.Test.YtpfhaafaoedgpaaPlAbs
import Derived.Test.YtpfhaafaoedgpaaPlSame
namespace Go.Proofs.Ytpfhaafaoedgpaa.Pl
open Go Go.RowKit

/-- A pool in blocks of the call's own. -/
def PoolAt (PA : PoolP) (w0 : World) (b : Nat) (m : Int) (l : Ob) (w : World) : Prop := ∃ F, PA w b m l F ∧ (∀ k ∈ F, w0.heap.size ≤ k) ∧ Below w0.heap.size w0 w
section
variable {PA : PoolP} {w0 w w' : World} {b : Nat} {m : Int} {l l' : Ob} {F F' : List Nat}
theorem PoolAt.step (hF : ∀ k ∈ F, w0.heap.size ≤ k) (hb : Below w0.heap.size w0 w) (hp : PA w' b m l' F') (ht : Turns F w w') (hf : Fresh F F' w) : PoolAt PA w0 b m l' w' :=
  ⟨F', hp, fun k hk => (hf k hk).elim (hF k) (fun x => Nat.le_trans hb.size x), hb.trans (ht.to_below hb.size hF)⟩
theorem PoolAt.below (H : PoolSays PA) (h : PoolAt PA w0 b m l w) (hb : Below w.heap.size w w') : PoolAt PA w0 b m l w' := by
  obtain ⟨F, hp, hF, h0⟩ := h
  exact PoolAt.step hF h0 (H.keep (G := []) hp (Turns.of_below hb) (fun _ _ x => by cases x)) (Turns.of_below hb) (fun _ hx => .inl hx)
theorem PoolAt.low (h : PoolAt PA w0 b m l w) : Below w0.heap.size w0 w := by
  obtain ⟨_, _, _, h0⟩ := h
  exact h0
theorem take_at (H : PoolSays PA) (size : Int) (l' : Ob) (x y : Int) (hs : In64 size) (ht : takeL m l size = (l', x, y)) (h : PoolAt PA w0 b m l w) : Calls Try.prog 8 #[.pointer (some ⟨b, 0, none⟩), .int .i64 size] w (fun e w' => e = .returned (.tuple #[.int .i64 x, .int .i64 y]) ∧ PoolAt PA w0 b m l' w') := by
  obtain ⟨F, hp, hF, h0⟩ := h
  refine (H.take size hp hs).mono ?_
  rintro e w1 ⟨rfl, F', h1, h2, h3⟩
  rw [ht] at h1 ⊢
  exact ⟨rfl, PoolAt.step hF h0 h1 h2 h3⟩
theorem give_at (H : PoolSays PA) (id : Int) (l' : Ob) (y : Int) (hs : In64 id) (ht : giveL l id = (l', y)) (h : PoolAt PA w0 b m l w) : Calls Try.prog 9 #[.pointer (some ⟨b, 0, none⟩), .int .i64 id] w (fun e w' => e = .returned (.int .i64 y) ∧ PoolAt PA w0 b m l' w') := by
  obtain ⟨F, hp, hF, h0⟩ := h
  refine (H.give id hp hs).mono ?_
  rintro e w1 ⟨rfl, F', h1, h2, h3⟩
  rw [ht] at h1 ⊢
  exact ⟨rfl, PoolAt.step hF h0 h1 h2 h3⟩
theorem resize_at (H : PoolSays PA) (id size : Int) (l' : Ob) (y : Int) (hi : In64 id) (hs : In64 size) (ht : resizeL m l id size = (l', y)) (h : PoolAt PA w0 b m l w) : Calls Try.prog 10 #[.pointer (some ⟨b, 0, none⟩), .int .i64 id, .int .i64 size] w (fun e w' => e = .returned (.int .i64 y) ∧ PoolAt PA w0 b m l' w') := by
  obtain ⟨F, hp, hF, h0⟩ := h
  refine (H.resize id size hp hi hs).mono ?_
  rintro e w1 ⟨rfl, F', h1, h2, h3⟩
  rw [ht] at h1 ⊢
  exact ⟨rfl, PoolAt.step hF h0 h1 h2 h3⟩
theorem used_at (H : PoolSays PA) (u : Int) (hu : usedL l = u) (h : PoolAt PA w0 b m l w) : Calls Try.prog 14 #[.pointer (some ⟨b, 0, none⟩)] w (fun e w' => e = .returned (.int .i64 u) ∧ PoolAt PA w0 b m l w') := by
  have h' := h
  obtain ⟨F, hp, hF, h0⟩ := h
  refine (H.used hp).mono ?_
  rintro e w1 ⟨rfl, h1⟩
  rw [hu]
  exact ⟨rfl, h'.below H h1⟩
theorem ids_at (H : PoolSays PA) (h : PoolAt PA w0 b m l w) : Calls Try.prog 24 #[.pointer (some ⟨b, 0, none⟩)] w (fun e w' => ∃ v, e = .returned v ∧ LstP (fun _ => True) w' v (ints (idsL 1 l)) ∧ PoolAt PA w0 b m l w') := by
  have h' := h
  obtain ⟨F, hp, hF, h0⟩ := h
  refine (H.ids hp).mono ?_
  rintro e w1 ⟨v, rfl, h1, h2⟩
  exact ⟨v, rfl, h1, h'.below H h2⟩
theorem own_list (w : World) : LstP (fun _ => True) (w.alloc (.cells #[.int .i64 1, .int .i64 2, .int .i64 3, .int .i64 4] 3)) (.slice (some ⟨w.heap.size, 0, none⟩) 4 4) (ints [1, 2, 3, 4]) :=
  ⟨_, _, rfl, ⟨Nat.le_refl _, by unfold Len; decide⟩, fun _ => ⟨w.heap.size, 0, trivial, by simp, rfl, fun j hj => by
    rw [Nat.zero_add, World.cell?_alloc_mark]
    match j, hj with
    | 0, _ => rfl
    | 1, _ => rfl
    | 2, _ => rfl
    | 3, _ => rfl⟩⟩
theorem in_small (x : Int) (h0 : -2000000000 ≤ x) (h1 : x ≤ 2000000000) : In64 x := by constructor <;> omega
/-- The law's helper: a new object of that number. -/
theorem take_want (H : PoolSays PA) (size want : Int) (l' : Ob) (x : Int) (hs : In64 size) (ht : takeL m l size = (l', x, 0)) (hx : x = want) (h : PoolAt PA w0 b m l w) : Calls Try.prog 11 #[.pointer (some ⟨b, 0, none⟩), .int .i64 size, .int .i64 want] w (fun e w' => e = .returned (.bool true) ∧ PoolAt PA w0 b m l' w') := by
  have hk := take_at H size l' x 0 hs ht h
  subst hx
  have HK := Lib.hid hk
  clear hk ht h hs
  go_enter Try.func11, Try.ntmps11
  go_wp2_with fail
  refine HK.out.mono ?_
  rintro e w1 ⟨rfl, h1⟩
  have H1 := Lib.hid h1
  clear h1
  go_wp2_with fail
  go_ret
  exact ⟨rfl, H1.out⟩
end

set_option maxHeartbeats 2000000 in
set_option maxRecDepth 100000 in
theorem awake_fn (PA : PoolP) (H : PoolSays PA) (w : World) : Calls Try.prog 15 #[] w (fun e w' => e = .returned (.bool true) ∧ Below w.heap.size w w') := by
  have kn := H.new 10 w (by decide) (by decide)
  unfold NewSays at kn
  go_enter Try.func15, Try.ntmps15
  go_wp2_with fail
  refine kn.mono ?_
  rintro e w1 ⟨b, F, rfl, hp, hF, hb1⟩
  have H1 := Lib.hid (show PoolAt PA w b 10 [] w1 from ⟨F, hp, hF, hb1⟩)
  clear hp hF hb1 kn
  go_wp2_with fail
  refine (take_want H (3) (1) [some 3] (1) (in_small _ (by decide) (by decide)) (show takeL 10 [] 3 = _ by rfl) rfl H1.out).mono ?_
  rintro e w2 ⟨rfl, h2⟩
  have H2 := Lib.hid h2
  clear h2
  go_wp2_with fail
  refine (take_want H (4) (2) [some 3, some 4] (2) (in_small _ (by decide) (by decide)) (show takeL 10 [some 3] 4 = _ by rfl) rfl H2.out).mono ?_
  rintro e w3 ⟨rfl, h3⟩
  have H3 := Lib.hid h3
  clear h3
  go_wp2_with fail
  refine (take_at H 4 [some 3, some 4] 0 5 (in_small _ (by decide) (by decide)) (show takeL 10 [some 3, some 4] 4 = _ by rfl) H3.out).mono ?_
  rintro e w4 ⟨rfl, h4⟩
  have H4 := Lib.hid h4
  clear h4
  go_wp2_with fail
  refine (take_want H (3) (3) [some 3, some 4, some 3] (3) (in_small _ (by decide) (by decide)) (show takeL 10 [some 3, some 4] 3 = _ by rfl) rfl H4.out).mono ?_
  rintro e w5 ⟨rfl, h5⟩
  have H5 := Lib.hid h5
  clear h5
  go_wp2_with fail
  refine (used_at H 10 (show usedL [some 3, some 4, some 3] = 10 by rfl) H5.out).mono ?_
  rintro e w6 ⟨rfl, h6⟩
  have H6 := Lib.hid h6
  clear h6
  go_wp2_with fail
  refine (give_at H 1 [none, some 4, some 3] 0 (in_small _ (by decide) (by decide)) (show giveL [some 3, some 4, some 3] 1 = _ by rfl) H6.out).mono ?_
  rintro e w7 ⟨rfl, h7⟩
  have H7 := Lib.hid h7
  clear h7
  go_wp2_with fail
  refine (give_at H 3 [none, some 4, none] 0 (in_small _ (by decide) (by decide)) (show giveL [none, some 4, some 3] 3 = _ by rfl) H7.out).mono ?_
  rintro e w8 ⟨rfl, h8⟩
  have H8 := Lib.hid h8
  clear h8
  go_wp2_with fail
  refine (take_want H (0) (1) [some 0, some 4, none] (1) (in_small _ (by decide) (by decide)) (show takeL 10 [none, some 4, none] 0 = _ by rfl) rfl H8.out).mono ?_
  rintro e w9 ⟨rfl, h9⟩
  have H9 := Lib.hid h9
  clear h9
  go_wp2_with fail
  refine (take_want H (0) (3) [some 0, some 4, some 0] (3) (in_small _ (by decide) (by decide)) (show takeL 10 [some 0, some 4, none] 0 = _ by rfl) rfl H9.out).mono ?_
  rintro e w10 ⟨rfl, h10⟩
  have H10 := Lib.hid h10
  clear h10
  go_wp2_with fail
  refine (take_want H (0) (4) [some 0, some 4, some 0, some 0] (4) (in_small _ (by decide) (by decide)) (show takeL 10 [some 0, some 4, some 0] 0 = _ by rfl) rfl H10.out).mono ?_
  rintro e w11 ⟨rfl, h11⟩
  have H11 := Lib.hid h11
  clear h11
  go_wp2_with fail
  refine (ids_at (l := [some 0, some 4, some 0, some 0]) H H11.out).mono ?_
  rintro e w12 ⟨vI, rfl, hv, h12⟩
  have HV := Lib.hid (show LstP (fun _ => True) w12 vI (ints [1, 2, 3, 4]) from hv)
  have H12 := Lib.hid h12
  clear h12 hv
  go_wp2_with fail
  refine (same_fn (P := fun _ => True) (Q := fun _ => True) vI _ [1, 2, 3, 4] [1, 2, 3, 4] _ (HV.out.below ((Below.refl _ _).alloc (Nat.le_refl _) _)) (own_list w12) (by decide)).mono ?_
  rintro e w13 ⟨rfl, hb⟩
  have H13 := Lib.hid (H12.out.below H (((Below.refl _ _).alloc (Nat.le_refl _) _).trans (hb.mono (by simp))))
  clear hb
  go_wp2_with fail
  refine (resize_at H 2 11 [some 0, some 4, some 0, some 0] 5 (in_small _ (by decide) (by decide)) (in_small _ (by decide) (by decide)) (show resizeL 10 [some 0, some 4, some 0, some 0] 2 11 = _ by rfl) H13.out).mono ?_
  rintro e w14 ⟨rfl, h14⟩
  have H14 := Lib.hid h14
  clear h14
  go_wp2_with fail
  refine (resize_at H 2 10 [some 0, some 10, some 0, some 0] 0 (in_small _ (by decide) (by decide)) (in_small _ (by decide) (by decide)) (show resizeL 10 [some 0, some 4, some 0, some 0] 2 10 = _ by rfl) H14.out).mono ?_
  rintro e w15 ⟨rfl, h15⟩
  have H15 := Lib.hid h15
  clear h15
  go_wp2_with fail
  refine (used_at H 10 (show usedL [some 0, some 10, some 0, some 0] = 10 by rfl) H15.out).mono ?_
  rintro e w16 ⟨rfl, h16⟩
  have H16 := Lib.hid h16
  clear h16
  go_wp2_with fail
  go_ret
  exact ⟨rfl, H16.out.low⟩
end Go.Proofs.Ytpfhaafaoedgpaa.Pl
