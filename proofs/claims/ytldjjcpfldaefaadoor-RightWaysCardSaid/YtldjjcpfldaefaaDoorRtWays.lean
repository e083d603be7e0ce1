/-
  Layer 9: in a right program no way leads to what is no statement.
-/
import Derived.Test.YtldjjcpfldaefaaDoorRtAwake
import Derived.Test.YtldjjcpfldaefaaDoorRtSize
namespace Go.Proofs.YtldjjcpfldaefaaDoor.Rt
open Go Go.RowKit

def OnWay (N : Nat) (x : Int) : Prop := x = -1 ∨ (0 ≤ x ∧ x < N)
/-- What a right function's statements lead to. -/
theorem fits_ways {f : Pr} {strs protos : Nat} (h : fitsB f strs protos = true) : OnWay f.stmts.length f.start ∧ ∀ i (hi : i < f.stmts.length), OnWay f.stmts.length f.stmts[i].next ∧ ((f.stmts[i].k = 4 ∨ f.stmts[i].k = 6 ∨ f.stmts[i].k = 8) → OnWay f.stmts.length f.stmts[i].els) := by
  unfold fitsB at h
  split at h
  · cases h
  split at h
  · cases h
  simp only [Bool.and_eq_true] at h
  obtain ⟨⟨⟨h1, _⟩, _⟩, h4⟩ := h
  constructor
  · unfold startsB at h1
    unfold OnWay
    split at h1
    · left; simpa using h1
    · right; simpa using h1
  · intro i hi
    have hs := allB_iff.1 h4 i hi
    generalize f.stmts[i] = s at *
    have hs : stmtB f s = true := hs
    unfold stmtB at hs
    split at hs
    · cases hs
    rename_i hno
    simp only [Bool.and_eq_true] at hs
    have hg := hs.2
    unfold goesB at hg
    split at hg
    · cases hg
    simp only [Bool.and_eq_true, Bool.or_eq_true] at hg
    obtain ⟨g1, g2⟩ := hg
    have on : ∀ p, onB f p = true → OnWay f.stmts.length p := fun p hp => by
      unfold onB at hp
      simp only [Bool.and_eq_true, decide_eq_true_eq] at hp
      unfold OnWay
      omega
    refine ⟨on _ g1, fun hk => ?_⟩
    have hf : (rowOf s.k).forks = true := by rcases hk with h | h | h <;> rw [h] <;> rfl
    rcases g2 with g2 | g2
    · exact on _ g2.2
    · rw [hf] at g2; exact absurd g2.1 (by decide)

theorem right_fits {p : Pg} (h : rightB p = true) : p.protos.length ≤ 200 ∧ ∀ f ∈ p.protos, fitsB f p.strs.length p.protos.length = true := by
  unfold rightB at h
  simp only [Bool.and_eq_true] at h
  exact protos_fit h.1.1

set_option maxHeartbeats 16000000 in
set_option maxRecDepth 100000 in
theorem ways_walk (v vc : Value) (p : Pg) (n : Int) (ch : List Bool) (w : World) (hp : PgV w.heap.size w v p) (hc : LstB w.heap.size w vc (bools ch)) (hR : RowsTab w) :
    Calls Tryd.prog 4 #[v, .int .i64 n, vc] w fun e w' => e = .returned (.bool true) ∧ Below w.heap.size w w' := by
  have HP := Lib.hid hp
  have HR := Lib.hid hR
  have HC := Lib.hid hc
  obtain ⟨vs, vp, rfl, h1, h2⟩ := hp
  have H2 := Lib.hid h2
  obtain ⟨a1, c1, rfl, hl1⟩ := h1.slice
  obtain ⟨a2, c2, rfl, hl2⟩ := h2.slice
  obtain ⟨a3, c3, rfl, hl3⟩ := hc.slice
  rw [bools_len] at hl3 HC ⊢
  unfold Len at hl2 hl3
  have hb0 := (Below.refl w.heap.size w).alloc (Nat.le_refl _) (.cells #[.slice a1 (texts p.strs).length c1, .slice a2 p.protos.length c2] 26)
  obtain ⟨w1, hw1⟩ : ∃ w1, w1 = w.alloc (.cells #[.slice a1 (texts p.strs).length c1, .slice a2 p.protos.length c2] 26) := ⟨_, rfl⟩
  rw [← hw1] at hb0
  have hnb : w1.heap[w.heap.size]? = some (.cells #[.slice a1 (texts p.strs).length c1, .slice a2 p.protos.length c2] 26 (0, 0)) := by rw [hw1]; exact new_block _ _
  have hs1 : w1.heap.size = w.heap.size + 1 := by rw [hw1]; simp
  have hpv : ∀ w', Below w1.heap.size w1 w' → (w'.cell? ⟨w.heap.size, 0, none⟩ = some (.slice a1 (texts p.strs).length c1) ∧ w'.cell? ⟨w.heap.size, 1, none⟩ = some (.slice a2 p.protos.length c2)) ∧ PgV w'.heap.size w' (.agg #[.slice a1 (texts p.strs).length c1, .slice a2 p.protos.length c2]) p ∧ RowsTab w' ∧ Below w.heap.size w w' := fun w' hb => by
    have hb2 := hb0.trans (hb.mono hb0.size)
    obtain ⟨q1, q2, q3, q4, q5⟩ := HP.out.below hb2
    exact ⟨⟨cell_of (at_below hnb hb) 0 _ rfl, cell_of (at_below hnb hb) 1 _ rfl⟩, ⟨q1, q2, q3, q4.mono hb2.size, q5.mono hb2.size (fun _ _ h => h.mono hb2.size)⟩, HR.out.below hb2, hb2⟩
  have HPV := Lib.hid hpv
  obtain ⟨⟨e0, e1⟩, _, _, _⟩ := hpv w1 (Below.refl _ _)
  clear hb0 hnb hpv h1 h2 hc hR HP HR
  go_enter Tryd.func4, Tryd.ntmps4
  go_upto_region 1 with (fail)
  rw [← hw1]
  clear hw1
  go_wp2_with fail
  obtain ⟨_, pg1, _, _⟩ := HPV.out w1 (Below.refl _ _)
  refine (size_fn _ p w1 pg1).mono ?_
  rintro e w2 ⟨z, rfl, b2⟩
  clear pg1 e0 e1
  obtain ⟨⟨e0, e1⟩, pg2, rt2, bw2⟩ := HPV.out w2 b2
  have B2 := Lib.hid b2
  have PG2 := Lib.hid pg2
  have RT2 := Lib.hid rt2
  have BW2 := Lib.hid bw2
  clear b2 pg2 rt2 bw2
  by_cases hz : 6000 < z
  · go_wp2_with fail
    refine (awake_fn w2 RT2.out).mono ?_
    rintro e w3 ⟨rfl, b3⟩
    have B3 := Lib.hid (BW2.out.trans (b3.mono BW2.out.size))
    clear b3
    go_wp2_with fail
    go_ret
    exact ⟨rfl, B3.out⟩
  have bz : decide ((6000 : Int) < z) = false := decide_eq_false hz
  go_wp2_with fail
  clear bz
  refine (right_fn _ p w2 PG2.out RT2.out).mono ?_
  rintro e w3 ⟨rfl, b3⟩
  have b3' := B2.out.trans (b3.mono B2.out.size)
  clear e0 e1
  obtain ⟨⟨e0, e1⟩, pg3, rt3, bw3⟩ := HPV.out w3 b3'
  have B3 := Lib.hid b3'
  have PG3 := Lib.hid pg3
  have RT3 := Lib.hid rt3
  have BW3 := Lib.hid bw3
  clear b3 b3' pg3 rt3 bw3 B2 PG2 RT2 BW2
  cases hrt : rightB p with
  | false =>
    clear hrt
    go_wp2_with fail
    refine (awake_fn w3 RT3.out).mono ?_
    rintro e w4 ⟨rfl, b4⟩
    have B4 := Lib.hid (BW3.out.trans (b4.mono BW3.out.size))
    clear b4
    go_wp2_with fail
    go_ret
    exact ⟨rfl, B4.out⟩
  | true =>
    obtain ⟨hlen, hfit⟩ := right_fits hrt
    have HFIT := Lib.hid hfit
    clear hrt hfit
    by_cases hn : n < 0 ∨ (p.protos.length : Int) ≤ n
    · have hpb : protoB p n = false := by unfold protoB; rw [if_pos hn]
      by_cases hn0 : n < 0
      · go_wp2_with fail
        refine (proto_fn w3.heap.size _ p n w3 PG3.out (Nat.le_refl _) RT3.out).mono ?_
        rintro e w4 ⟨rfl, b4⟩
        rw [hpb]
        have b4' := B3.out.trans (b4.mono B3.out.size)
        obtain ⟨_, _, rt4, bw4⟩ := HPV.out w4 b4'
        have RT4 := Lib.hid rt4
        have BW4 := Lib.hid bw4
        clear b4 b4' rt4 bw4
        go_wp2_with fail
        refine (awake_fn w4 RT4.out).mono ?_
        rintro e w5 ⟨rfl, b5⟩
        have B5 := Lib.hid (BW4.out.trans (b5.mono BW4.out.size))
        clear b5
        go_wp2_with fail
        go_ret
        exact ⟨rfl, B5.out⟩
      · have hn1 : (p.protos.length : Int) ≤ n := by omega
        go_wp2_with fail
        refine (proto_fn w3.heap.size _ p n w3 PG3.out (Nat.le_refl _) RT3.out).mono ?_
        rintro e w4 ⟨rfl, b4⟩
        rw [hpb]
        have b4' := B3.out.trans (b4.mono B3.out.size)
        obtain ⟨_, _, rt4, bw4⟩ := HPV.out w4 b4'
        have RT4 := Lib.hid rt4
        have BW4 := Lib.hid bw4
        clear b4 b4' rt4 bw4
        go_wp2_with fail
        refine (awake_fn w4 RT4.out).mono ?_
        rintro e w5 ⟨rfl, b5⟩
        have B5 := Lib.hid (BW4.out.trans (b5.mono BW4.out.size))
        clear b5
        go_wp2_with fail
        go_ret
        exact ⟨rfl, B5.out⟩
    · obtain ⟨m, rfl⟩ : ∃ m : Nat, n = m := ⟨n.toNat, by omega⟩
      have hml : m < p.protos.length := by omega
      have hml' : (m : Int) < p.protos.length := by omega
      have hm0 : (0 : Int) ≤ m := by omega
      have hmn : ¬ (p.protos.length : Int) ≤ m := by omega
      have hmn0 : ¬ (m : Int) < 0 := by omega
      have bm : decide ((m : Int) < 0) = false := decide_eq_false hmn0
      have bl : decide (p.protos.length ≤ m) = false := decide_eq_false (by omega)
      clear hn
      have hw := fits_ways (HFIT.out _ (List.getElem_mem hml))
      obtain ⟨g, off, cap, cs, hg, hv, _, hC, hcell⟩ := (H2.out.below BW3.out (fun _ _ h => h.below BW3.out)).item hml
      injection hv with f1 f2 f3
      subst f1
      subst f3
      obtain ⟨vb, vu, vst, ve, rfl, r1, r2, r3, r4, _⟩ := hC
      have HST := Lib.hid r3
      obtain ⟨ab, cb, rfl, _⟩ := r1.slice
      obtain ⟨au, cu, rfl, _⟩ := r2.slice
      obtain ⟨at5, ct5, rfl, hlt5⟩ := r3.slice
      obtain ⟨ae, ce, rfl, _⟩ := r4.slice
      obtain ⟨_, x0⟩ := hcell 0 (by decide)
      have x0 : w3.cell? ⟨g, off + m * 8, none⟩ = some (.int .i64 p.protos[m].params) := x0
      obtain ⟨_, x1⟩ := hcell 1 (by decide)
      have x1 : w3.cell? ⟨g, off + m * 8 + 1, none⟩ = some (.bool p.protos[m].more) := x1
      obtain ⟨_, x2⟩ := hcell 2 (by decide)
      have x2 : w3.cell? ⟨g, off + m * 8 + 2, none⟩ = some (.int .i64 p.protos[m].slots) := x2
      obtain ⟨_, x3⟩ := hcell 3 (by decide)
      have x3 : w3.cell? ⟨g, off + m * 8 + 3, none⟩ = some (.slice ab (bools p.protos[m].boxed).length cb) := x3
      obtain ⟨_, x4⟩ := hcell 4 (by decide)
      have x4 : w3.cell? ⟨g, off + m * 8 + 4, none⟩ = some (.slice au p.protos[m].ups.length cu) := x4
      obtain ⟨_, x5⟩ := hcell 5 (by decide)
      have x5 : w3.cell? ⟨g, off + m * 8 + 5, none⟩ = some (.slice at5 p.protos[m].stmts.length ct5) := x5
      obtain ⟨_, x6⟩ := hcell 6 (by decide)
      have x6 : w3.cell? ⟨g, off + m * 8 + 6, none⟩ = some (.slice ae p.protos[m].exprs.length ce) := x6
      obtain ⟨_, x7⟩ := hcell 7 (by decide)
      have x7 : w3.cell? ⟨g, off + m * 8 + 7, none⟩ = some (.int .i64 p.protos[m].start) := x7
      have HW := Lib.hid hw
      clear hcell f2 r1 r2 r3 r4 hw HFIT
      generalize p.protos[m] = f at *
      unfold Len at hlt5
      obtain ⟨F, hF⟩ : ∃ F, F = Obj.cells #[.int .i64 f.params, .bool f.more, .int .i64 f.slots, .slice ab (bools f.boxed).length cb, .slice au f.ups.length cu, .slice at5 f.stmts.length ct5, .slice ae f.exprs.length ce, .int .i64 f.start] 35 (0, 0) := ⟨_, rfl⟩
      have hb4 := (Below.refl w3.heap.size w3).alloc (Nat.le_refl _) F
      have hn4 := (new_block w3 F).trans (congrArg some hF)
      obtain ⟨w4, hw4⟩ : ∃ w4, w4 = w3.alloc F := ⟨_, rfl⟩
      rw [← hw4] at hb4 hn4
      have hs4 : w4.heap.size = w3.heap.size + 1 := by rw [hw4]; simp
      have y5 : w4.cell? ⟨w3.heap.size, 5, none⟩ = some (.slice at5 f.stmts.length ct5) := cell_of hn4 5 _ rfl
      have y7 : w4.cell? ⟨w3.heap.size, 7, none⟩ = some (.int .i64 f.start) := cell_of hn4 7 _ rfl
      have HN4 := Lib.hid hn4
      have BW4 := Lib.hid (BW3.out.trans (hb4.mono BW3.out.size))
      have B4 := Lib.hid (B3.out.trans (hb4.mono B3.out.size))
      have B34 := Lib.hid hb4
      clear hb4 hn4
      rw [hF] at hw4
      clear hF
      go_upto_region 6 with (fail)
      rw [← hw4]
      clear hw4 x0 x1 x2 x3 x4 x5 x6 x7 e0 e1
      go_wp2_with fail
      clear y5 y7
      generalize f.start = st0 at *
      go_loopg [8, 9] 300 (fun r x i wr => ∃ (k : Nat) (y : Int), r = 300 - k ∧ k ≤ 300 ∧ x = .int .i64 y ∧ i = .int .i64 (k : Int) ∧ OnWay f.stmts.length y ∧ Below w4.heap.size w4 wr)
      case atStart => exact ⟨0, _, rfl, by omega, rfl, rfl, HW.out.1, Below.refl _ _⟩
      case round =>
        obtain ⟨k, y, rfl, hk, rfl, rfl, hon, hb⟩ := hrel
        have HB := Lib.hid hb
        have y5 : wr.cell? ⟨w3.heap.size, 5, none⟩ = some (.slice at5 f.stmts.length ct5) := cell_of (at_below HN4.out hb) 5 _ rfl
        have hbw := BW4.out.trans (hb.mono BW4.out.size)
        have HBW := Lib.hid hbw
        have hlow := BW3.out.size
        have hlow4 : w4.heap.size ≤ wr.heap.size := hb.size
        obtain ⟨_, _, rtr, _⟩ := HPV.out wr (B4.out.trans (hb.mono B4.out.size))
        have RTR := Lib.hid rtr
        clear hb hbw rtr
        by_cases hend : k < 300 ∧ y ≠ -1
        · obtain ⟨hk3, hy1⟩ := hend
          have hk3' : (k : Int) < 300 := by omega
          obtain ⟨s, rfl⟩ : ∃ s : Nat, y = s := ⟨y.toNat, by unfold OnWay at hon; omega⟩
          have hsl : s < f.stmts.length := by unfold OnWay at hon; omega
          have hLs : (s : Int) < f.stmts.length := by omega
          have hs0 : (0 : Int) ≤ s := by omega
          have hsn : ¬ (s : Int) < 0 := by omega
          obtain ⟨w_next, w_els⟩ := HW.out.2 s hsl
          have h3r : Below w.heap.size w3 wr := (B34.out.mono hlow).trans (HB.out.mono (by have := B34.out.size; omega))
          obtain ⟨gs, os, cps, css, _, hvs, _, hCs, hcs⟩ := (HST.out.below h3r (fun _ _ h => h.below h3r)).item hsl
          injection hvs with f1 f2 f3
          subst f1
          obtain ⟨v1, v2, v3, rfl, k1, k2, k3, _⟩ := hCs
          obtain ⟨b1, d1, rfl, _⟩ := k1.slice
          obtain ⟨b2, d2, rfl, _⟩ := k2.slice
          obtain ⟨b3, d3, rfl, _⟩ := k3.slice
          obtain ⟨_, z0⟩ := hcs 0 (by decide)
          have z0 : wr.cell? ⟨gs, os + s * 7, none⟩ = some (.int .u8 (f.stmts[s].k : Int)) := z0
          obtain ⟨_, z1⟩ := hcs 1 (by decide)
          have z1 : wr.cell? ⟨gs, os + s * 7 + 1, none⟩ = some (.slice b1 (ints f.stmts[s].slots).length d1) := z1
          obtain ⟨_, z2⟩ := hcs 2 (by decide)
          have z2 : wr.cell? ⟨gs, os + s * 7 + 2, none⟩ = some (.slice b2 (ints f.stmts[s].targets).length d2) := z2
          obtain ⟨_, z3⟩ := hcs 3 (by decide)
          have z3 : wr.cell? ⟨gs, os + s * 7 + 3, none⟩ = some (.slice b3 (ints f.stmts[s].exprs).length d3) := z3
          obtain ⟨_, z4⟩ := hcs 4 (by decide)
          have z4 : wr.cell? ⟨gs, os + s * 7 + 4, none⟩ = some (.int .i64 f.stmts[s].next) := z4
          obtain ⟨_, z5⟩ := hcs 5 (by decide)
          have z5 : wr.cell? ⟨gs, os + s * 7 + 5, none⟩ = some (.int .i64 f.stmts[s].els) := z5
          obtain ⟨_, z6⟩ := hcs 6 (by decide)
          have z6 : wr.cell? ⟨gs, os + s * 7 + 6, none⟩ = some (.int .i64 f.stmts[s].line) := z6
          have HNX := Lib.hid w_next
          have HEL := Lib.hid w_els
          have hal : ∀ O, Below w4.heap.size w4 (wr.alloc O) := fun O => HB.out.alloc hlow4 O
          have HAL := Lib.hid hal
          clear hcs k1 k2 k3 w_next w_els hal hon f3 h3r
          generalize f.stmts[s] = q at *
          obtain ⟨qk, qs, qt, qe, nx, el, ln⟩ := q
          dsimp only at *
          by_cases k4 : qk = 4
          · subst k4
            by_cases hL0 : ch.length = 0
            · have bL : decide (0 < ch.length) = false := decide_eq_false (by omega)
              have bL2 : ¬ 0 < ch.length := by omega
              clear hL0
              go_wp2_with fail
              go_roundg (300 - (k + 1))
              case rel => exact ⟨k + 1, _, rfl, by omega, rfl, by go_num, HNX.out, HAL.out _⟩
              case measure => omega
            · have hLp : 0 < ch.length := by omega
              have hLpi : (0 : Int) < ch.length := by omega
              obtain ⟨gc, oc, cc, _, hvc, _, ccell⟩ := (HC.out.below HBW.out).item (i := k % ch.length) (by rw [bools_len]; exact Nat.mod_lt _ (by omega))
              injection hvc with f4 f5 f6
              subst f4
              subst f6
              clear f5
              unfold bools at ccell
              rw [List.getElem_map] at ccell
              have hrem : (k : Int).tmod (ch.length : Int) = ((k % ch.length : Nat) : Int) := by rw [Int.ofNat_tmod]
              have hmd : k % ch.length < ch.length := Nat.mod_lt _ (by omega)
              have hmd' : ((k % ch.length : Nat) : Int) < (ch.length : Int) := by omega
              have hmd0 : (0 : Int) ≤ ((k % ch.length : Nat) : Int) := by omega
              have hLne : ¬ (ch.length : Int) = 0 := by omega
              generalize ch[k % ch.length]'hmd = z at *
              have cal : ∀ O, (wr.alloc O).cell? ⟨gc, oc + k % ch.length, none⟩ = some (.bool z) := fun O => by
                rw [((Below.refl wr.heap.size wr).alloc (Nat.le_refl _) O).cell (p := ⟨gc, oc + k % ch.length, none⟩) (World.block_lt_of_cell? wr _ ccell)]
                exact ccell
              cases z with
              | false =>
                go_wp2_with fail
                go_roundg (300 - (k + 1))
                case rel => exact ⟨k + 1, _, rfl, by omega, rfl, by go_num, HNX.out, HAL.out _⟩
                case measure => omega
              | true =>
                go_wp2_with fail
                go_roundg (300 - (k + 1))
                case rel => exact ⟨k + 1, _, rfl, by omega, rfl, by go_num, HEL.out (by simp), HAL.out _⟩
                case measure => omega
          by_cases k6 : qk = 6
          · subst k6
            by_cases hL0 : ch.length = 0
            · have bL : decide (0 < ch.length) = false := decide_eq_false (by omega)
              have bL2 : ¬ 0 < ch.length := by omega
              clear hL0
              go_wp2_with fail
              go_roundg (300 - (k + 1))
              case rel => exact ⟨k + 1, _, rfl, by omega, rfl, by go_num, HNX.out, HAL.out _⟩
              case measure => omega
            · have hLp : 0 < ch.length := by omega
              have hLpi : (0 : Int) < ch.length := by omega
              obtain ⟨gc, oc, cc, _, hvc, _, ccell⟩ := (HC.out.below HBW.out).item (i := k % ch.length) (by rw [bools_len]; exact Nat.mod_lt _ (by omega))
              injection hvc with f4 f5 f6
              subst f4
              subst f6
              clear f5
              unfold bools at ccell
              rw [List.getElem_map] at ccell
              have hrem : (k : Int).tmod (ch.length : Int) = ((k % ch.length : Nat) : Int) := by rw [Int.ofNat_tmod]
              have hmd : k % ch.length < ch.length := Nat.mod_lt _ (by omega)
              have hmd' : ((k % ch.length : Nat) : Int) < (ch.length : Int) := by omega
              have hmd0 : (0 : Int) ≤ ((k % ch.length : Nat) : Int) := by omega
              have hLne : ¬ (ch.length : Int) = 0 := by omega
              generalize ch[k % ch.length]'hmd = z at *
              have cal : ∀ O, (wr.alloc O).cell? ⟨gc, oc + k % ch.length, none⟩ = some (.bool z) := fun O => by
                rw [((Below.refl wr.heap.size wr).alloc (Nat.le_refl _) O).cell (p := ⟨gc, oc + k % ch.length, none⟩) (World.block_lt_of_cell? wr _ ccell)]
                exact ccell
              cases z with
              | false =>
                go_wp2_with fail
                go_roundg (300 - (k + 1))
                case rel => exact ⟨k + 1, _, rfl, by omega, rfl, by go_num, HNX.out, HAL.out _⟩
                case measure => omega
              | true =>
                go_wp2_with fail
                go_roundg (300 - (k + 1))
                case rel => exact ⟨k + 1, _, rfl, by omega, rfl, by go_num, HEL.out (by simp), HAL.out _⟩
                case measure => omega
          by_cases k8 : qk = 8
          · subst k8
            by_cases hL0 : ch.length = 0
            · have bL : decide (0 < ch.length) = false := decide_eq_false (by omega)
              have bL2 : ¬ 0 < ch.length := by omega
              clear hL0
              go_wp2_with fail
              go_roundg (300 - (k + 1))
              case rel => exact ⟨k + 1, _, rfl, by omega, rfl, by go_num, HNX.out, HAL.out _⟩
              case measure => omega
            · have hLp : 0 < ch.length := by omega
              have hLpi : (0 : Int) < ch.length := by omega
              obtain ⟨gc, oc, cc, _, hvc, _, ccell⟩ := (HC.out.below HBW.out).item (i := k % ch.length) (by rw [bools_len]; exact Nat.mod_lt _ (by omega))
              injection hvc with f4 f5 f6
              subst f4
              subst f6
              clear f5
              unfold bools at ccell
              rw [List.getElem_map] at ccell
              have hrem : (k : Int).tmod (ch.length : Int) = ((k % ch.length : Nat) : Int) := by rw [Int.ofNat_tmod]
              have hmd : k % ch.length < ch.length := Nat.mod_lt _ (by omega)
              have hmd' : ((k % ch.length : Nat) : Int) < (ch.length : Int) := by omega
              have hmd0 : (0 : Int) ≤ ((k % ch.length : Nat) : Int) := by omega
              have hLne : ¬ (ch.length : Int) = 0 := by omega
              generalize ch[k % ch.length]'hmd = z at *
              have cal : ∀ O, (wr.alloc O).cell? ⟨gc, oc + k % ch.length, none⟩ = some (.bool z) := fun O => by
                rw [((Below.refl wr.heap.size wr).alloc (Nat.le_refl _) O).cell (p := ⟨gc, oc + k % ch.length, none⟩) (World.block_lt_of_cell? wr _ ccell)]
                exact ccell
              cases z with
              | false =>
                go_wp2_with fail
                go_roundg (300 - (k + 1))
                case rel => exact ⟨k + 1, _, rfl, by omega, rfl, by go_num, HNX.out, HAL.out _⟩
                case measure => omega
              | true =>
                go_wp2_with fail
                go_roundg (300 - (k + 1))
                case rel => exact ⟨k + 1, _, rfl, by omega, rfl, by go_num, HEL.out (by simp), HAL.out _⟩
                case measure => omega
          have p4 : ¬ (qk : Int) = 4 := by omega
          have p6 : ¬ (qk : Int) = 6 := by omega
          have p8 : ¬ (qk : Int) = 8 := by omega
          go_wp2_with fail
          go_roundg (300 - (k + 1))
          case rel => exact ⟨k + 1, _, rfl, by omega, rfl, by go_num, HNX.out, HAL.out _⟩
          case measure => omega
        · have hk' : k ≤ 300 := hk
          by_cases hk3 : k < 300
          · have hy1 : y = -1 := by
              by_cases h : y = -1
              · exact h
              · exact absurd ⟨hk3, h⟩ hend
            subst hy1
            have hk3' : (k : Int) < 300 := by omega
            go_wp2_with fail
            refine (awake_fn wr RTR.out).mono ?_
            rintro e w6 ⟨rfl, b6⟩
            have B6 := Lib.hid (HBW.out.trans (b6.mono HBW.out.size))
            clear b6
            go_wp2_with fail
            go_ret
            exact ⟨rfl, B6.out⟩
          · obtain rfl : k = 300 := by omega
            go_wp2_with fail
            refine (awake_fn wr RTR.out).mono ?_
            rintro e w6 ⟨rfl, b6⟩
            have B6 := Lib.hid (HBW.out.trans (b6.mono HBW.out.size))
            clear b6
            go_wp2_with fail
            go_ret
            exact ⟨rfl, B6.out⟩

end Go.Proofs.YtldjjcpfldaefaaDoor.Rt
