/-
  Layer 9: how much there is to be looked at: some number.
-/
import Derived.Test.YtldjjcpfldaefaaDoorRtRight
namespace Go.Proofs.YtldjjcpfldaefaaDoor.Rt
open Go Go.RowKit

/-- Some number is told. -/
def SizeSays (w : World) (e : Ending) (w' : World) : Prop := ∃ z : Int, e = .returned (.int .i64 z) ∧ Below w.heap.size w w'

set_option maxHeartbeats 8000000 in
set_option maxRecDepth 100000 in
theorem size_fn (v : Value) (p : Pg) (w : World) (hp : PgV w.heap.size w v p) :
    Calls Tryd.prog 10 #[v] w (SizeSays w) := by
  obtain ⟨vs, vp, rfl, h1, h2⟩ := hp
  have H2 := Lib.hid h2
  obtain ⟨a1, c1, rfl, hl1⟩ := h1.slice
  obtain ⟨a2, c2, rfl, hl2⟩ := h2.slice
  rw [texts_len] at hl1 ⊢
  unfold Len at hl1 hl2
  obtain ⟨N, hN⟩ : ∃ N, N = p.protos.length := ⟨_, rfl⟩
  rw [← hN] at hl2 ⊢
  rw [← hN] at H2
  have HN := Lib.hid hN
  generalize p.strs.length = M at *
  have hb0 := (Below.refl w.heap.size w).alloc (Nat.le_refl _) (.cells #[.slice a1 M c1, .slice a2 N c2] 26)
  have hnb := new_block w (.cells #[.slice a1 M c1, .slice a2 N c2] 26)
  have HB0 := Lib.hid hb0
  have HNB := Lib.hid hnb
  clear h1 h2 hb0 hnb hN
  by_cases q1 : 6000 < M
  · have q1' : (6000 : Int) < M := by omega
    go_enter Tryd.func10, Tryd.ntmps10
    go_wp2_with fail
    go_ret
    exact ⟨_, rfl, HB0.out⟩
  have q1' : ¬ (6000 : Int) < M := by omega
  by_cases q2 : 300 < N
  · have q2' : (300 : Int) < N := by omega
    go_enter Tryd.func10, Tryd.ntmps10
    go_wp2_with fail
    go_ret
    exact ⟨_, rfl, HB0.out⟩
  have q2' : ¬ (300 : Int) < N := by omega
  obtain ⟨w1, hw1⟩ : ∃ w1, w1 = w.alloc (.cells #[.slice a1 M c1, .slice a2 N c2] 26) := ⟨_, rfl⟩
  rw [← hw1] at HB0 HNB
  have e0 : w1.cell? ⟨w.heap.size, 0, none⟩ = some (.slice a1 M c1) := cell_of HNB.out 0 _ rfl
  have e1 : w1.cell? ⟨w.heap.size, 1, none⟩ = some (.slice a2 N c2) := cell_of HNB.out 1 _ rfl
  have hs1 : w1.heap.size = w.heap.size + 1 := by rw [hw1]; simp
  go_enter Tryd.func10, Tryd.ntmps10
  go_upto_region 3 with (fail)
  rw [← hw1]
  clear hw1
  go_wp2_with fail
  clear e0 e1
  go_loopg [4, 3] N (fun r i x wr => ∃ (k : Nat) (z : Int), r = N - k ∧ i = .int .i64 (k : Int) ∧ k ≤ N ∧ x = .int .i64 z ∧ Below w1.heap.size w1 wr)
  case atStart => exact ⟨0, _, rfl, rfl, Nat.zero_le _, rfl, Below.refl _ _⟩
  case round =>
    obtain ⟨k, z, rfl, rfl, hk, rfl, hb⟩ := hrel
    have HB := Lib.hid hb
    have HBW := Lib.hid (HB0.out.trans (hb.mono (by omega)))
    have e0 : wr.cell? ⟨w.heap.size, 0, none⟩ = some (.slice a1 M c1) := cell_of (at_below HNB.out hb) 0 _ rfl
    have e1 : wr.cell? ⟨w.heap.size, 1, none⟩ = some (.slice a2 N c2) := cell_of (at_below HNB.out hb) 1 _ rfl
    have hsz : w1.heap.size ≤ wr.heap.size := hb.size
    clear hb
    by_cases hlt : k < N
    · have hlt' : (k : Int) < N := by omega
      by_cases hz : z ≤ 6000
      · obtain ⟨g, off, cap, cs, hg, hv, _, hC, hcell⟩ := (H2.out.below HBW.out (fun _ _ h => h.below HBW.out)).item (i := k) (by rw [← HN.out]; exact hlt)
        injection hv with f1 f2 f3
        subst f1
        subst f3
        obtain ⟨vb, vu, vst, ve, rfl, r1, r2, r3, r4, _⟩ := hC
        obtain ⟨ab, cb, rfl, _⟩ := r1.slice
        obtain ⟨au, cu, rfl, hlu⟩ := r2.slice
        obtain ⟨at5, ct5, rfl, hlt5⟩ := r3.slice
        obtain ⟨ae, ce, rfl, hle⟩ := r4.slice
        have hkp : k < p.protos.length := by rw [← HN.out]; exact hlt
        obtain ⟨_, x0⟩ := hcell 0 (by decide)
        have x0 : wr.cell? ⟨g, off + k * 8, none⟩ = some (.int .i64 (p.protos[k]'hkp).params) := x0
        obtain ⟨_, x1⟩ := hcell 1 (by decide)
        have x1 : wr.cell? ⟨g, off + k * 8 + 1, none⟩ = some (.bool (p.protos[k]'hkp).more) := x1
        obtain ⟨_, x2⟩ := hcell 2 (by decide)
        have x2 : wr.cell? ⟨g, off + k * 8 + 2, none⟩ = some (.int .i64 (p.protos[k]'hkp).slots) := x2
        obtain ⟨_, x3⟩ := hcell 3 (by decide)
        have x3 : wr.cell? ⟨g, off + k * 8 + 3, none⟩ = some (.slice ab (bools (p.protos[k]'hkp).boxed).length cb) := x3
        obtain ⟨_, x4⟩ := hcell 4 (by decide)
        have x4 : wr.cell? ⟨g, off + k * 8 + 4, none⟩ = some (.slice au (p.protos[k]'hkp).ups.length cu) := x4
        obtain ⟨_, x5⟩ := hcell 5 (by decide)
        have x5 : wr.cell? ⟨g, off + k * 8 + 5, none⟩ = some (.slice at5 (p.protos[k]'hkp).stmts.length ct5) := x5
        obtain ⟨_, x6⟩ := hcell 6 (by decide)
        have x6 : wr.cell? ⟨g, off + k * 8 + 6, none⟩ = some (.slice ae (p.protos[k]'hkp).exprs.length ce) := x6
        obtain ⟨_, x7⟩ := hcell 7 (by decide)
        have x7 : wr.cell? ⟨g, off + k * 8 + 7, none⟩ = some (.int .i64 (p.protos[k]'hkp).start) := x7
        have hal : ∀ O, Below w1.heap.size w1 (wr.alloc O) := fun O => HB.out.alloc hsz O
        have HAL := Lib.hid hal
        have HHB := Lib.hid (fun O => HBW.out.alloc HBW.out.size O : ∀ O, Below w.heap.size w (wr.alloc O))
        unfold Len at hlu hlt5 hle
        clear hcell f2 r1 r2 r3 r4 hal
        generalize p.protos[k]'hkp = f at *
        generalize f.ups.length = nu at *
        generalize f.stmts.length = ns at *
        generalize f.exprs.length = ne at *
        by_cases t1 : 6000 < ns
        · have t1' : (6000 : Int) < ns := by omega
          go_wp2_with fail
          go_ret
          exact ⟨_, rfl, HHB.out _⟩
        have t1' : ¬ (6000 : Int) < ns := by omega
        by_cases t2 : 6000 < ne
        · have t2' : (6000 : Int) < ne := by omega
          go_wp2_with fail
          go_ret
          exact ⟨_, rfl, HHB.out _⟩
        have t2' : ¬ (6000 : Int) < ne := by omega
        by_cases t3 : 6000 < nu
        · have t3' : (6000 : Int) < nu := by omega
          go_wp2_with fail
          go_ret
          exact ⟨_, rfl, HHB.out _⟩
        have t3' : ¬ (6000 : Int) < nu := by omega
        go_wp2_with fail
        go_roundg (N - (k + 1))
        case rel => exact ⟨k + 1, _, rfl, by go_num, by omega, rfl, HAL.out _⟩
        case measure => omega
      · go_wp2_with fail
        go_ret
        exact ⟨_, rfl, HBW.out⟩
    · obtain rfl : k = N := by omega
      go_wp2_with fail
      go_ret
      exact ⟨_, rfl, HBW.out⟩

end Go.Proofs.YtldjjcpfldaefaaDoor.Rt
