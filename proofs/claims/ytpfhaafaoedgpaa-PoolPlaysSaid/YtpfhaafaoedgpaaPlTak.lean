/-
  Layer 12: the developers' pool: an object taken, where that is refused.
-/
import Derived.Test.YtpfhaafaoedgpaaPlCopy
namespace Go.Proofs.Ytpfhaafaoedgpaa.Pl
open Go Go.RowKit

section
variable {w w' : World} {b : Nat} {m : Int} {l : Ob} {vs vf : Value} {fr : List Int} {F : List Nat}
theorem dtake_less (size : Int) (h : size < 0) : takeL m l size = (l, 0, 2) := by unfold takeL; rw [if_pos h]
theorem dtake_over (size : Int) (h : ¬ size < 0) (h2 : m < usedL l + size ∨ 65536 ≤ cntL l) : takeL m l size = (l, 0, 5) := by unfold takeL; rw [if_neg h, if_pos h2]
theorem dtake_new (size : Int) (h : ¬ size < 0) (h2 : ¬ (m < usedL l + size ∨ 65536 ≤ cntL l)) : takeL m l size = (putL l (leastL l) size, (leastL l : Int) + 1, 0) := by unfold takeL; rw [if_neg h, if_neg h2]
theorem ret_ii {a b c d : Int} (h : a = b) (h' : c = d) : Ending.returned (.tuple #[.int .i64 a, .int .i64 c]) = .returned (.tuple #[.int .i64 b, .int .i64 d]) := by rw [h, h']
theorem take_same (size : Int) {x y : Int} {e : Ending} (h : takeL m l size = (l, x, y)) (hp : PA w b m l F) (hb : Below w.heap.size w w') (he : e = .returned (.tuple #[.int .i64 x, .int .i64 y])) : TakeSays PA b m l F size w e w' := by
  unfold TakeSays
  rw [h]
  exact ⟨he, F, hp.keep (Turns.of_below (F := []) hb) (fun _ _ h => absurd h (List.not_mem_nil)), Turns.of_below hb, fresh_refl _ _⟩
set_option maxHeartbeats 1000000 in
theorem take_refused (size : Int) (hp : PA w b m l F) (hsz : In64 size) (hbad : size < 0 ∨ m < usedL l + size ∨ 65536 ≤ cntL l) : Calls Try.prog 8 #[.pointer (some ⟨b, 0, none⟩), .int .i64 size] w (TakeSays PA b m l F size w) := by
  have HPA := Lib.hid hp
  obtain ⟨vs, vf, fr, h, -⟩ := hp
  have x0 := cell_of h.cells 0 _ rfl
  have HH := Lib.hid h
  obtain ⟨u1, u2, u3⟩ := h.used
  obtain ⟨s1, s2⟩ := hsz
  clear h
  by_cases hneg : size < 0
  · have HR := Lib.hid (dtake_less (m := m) (l := l) size hneg)
    clear hbad
    go_enter Try.func8, Try.ntmps8
    go_wp2_with fail
    refine (made_fn b w x0).mono ?_
    rintro e w1 ⟨rfl, hw⟩
    subst hw
    go_wp2_with fail
    go_ret2
    exact take_same size HR.out HPA.out (Below.refl _ _) rfl
  have hfull : m < usedL l + size ∨ 65536 ≤ cntL l := by rcases hbad with h | h; exact absurd h hneg; exact h
  have HR := Lib.hid (dtake_over (m := m) (l := l) size hneg hfull)
  have cl := left_fn HH.out
  have cc := count_fn HH.out.drew
  have HB1 := Lib.hid (drew_below w)
  have HB2 := Lib.hid ((drew_below w).trans (drew_below w.drew))
  clear hbad
  by_cases hbig : m < usedL l + size
  · have hgt : m - usedL l < size := by omega
    clear hfull cc
    generalize usedL l = U at *
    go_enter Try.func8, Try.ntmps8
    go_wp2_with fail
    refine (made_fn b w x0).mono ?_
    rintro e w1 ⟨rfl, hw⟩
    subst hw
    go_wp2_with fail
    refine cl.mono ?_
    rintro e w2 ⟨rfl, hw⟩
    subst hw
    clear cl
    go_wp2_with fail
    go_ret2
    exact take_same size HR.out HPA.out HB1.out rfl
  · have hgt : ¬ m - usedL l < size := by omega
    have hcnt : 65536 ≤ cntL l := by rcases hfull with h | h; exact absurd h hbig; exact h
    have hcnt' : (65536 : Int) ≤ (cntL l : Int) := by omega
    clear hfull hcnt
    generalize usedL l = U at *
    obtain ⟨c, hc⟩ : ∃ c, c = cntL l := ⟨_, rfl⟩
    rw [← hc] at hcnt' cc
    clear hc
    go_enter Try.func8, Try.ntmps8
    go_wp2_with fail
    refine (made_fn b w x0).mono ?_
    rintro e w1 ⟨rfl, hw⟩
    subst hw
    go_wp2_with fail
    refine cl.mono ?_
    rintro e w2 ⟨rfl, hw⟩
    subst hw
    clear cl
    go_wp2_with fail
    refine cc.mono ?_
    rintro e w2 ⟨rfl, hw⟩
    subst hw
    clear cc
    go_wp2_with fail
    go_ret2
    exact take_same size HR.out HPA.out HB2.out rfl
end
end Go.Proofs.Ytpfhaafaoedgpaa.Pl
