/-
  Layer 12: the two functions by which the free numbers are sifted: up, and down.
-/
import Derived.Test.YtpfhaafaoedgpaaPlSift
import Derived.Deep.RegionHeld3
namespace Go.Proofs.Ytpfhaafaoedgpaa.Pl
open Go Go.RowKit

def upN (h : List Int) (k : Nat) : Nat := if gt h k < gt h ((k - 1) / 2) then (k - 1) / 2 else k
def dnN (h : List Int) (k : Nat) : Nat → Nat
  | 0 => k
  | j + 1 => if 2 * k + 1 + j < h.length ∧ gt h (2 * k + 1 + j) < gt h (dnN h k j) then 2 * k + 1 + j else dnN h k j
theorem dn_le (h : List Int) (k : Nat) (hk : k < h.length) : ∀ j, dnN h k j < h.length
  | 0 => hk
  | j + 1 => by
    have := dn_le h k hk j
    unfold dnN
    split
    · rename_i h1; exact h1.1
    · exact this
theorem dn_stop (h : List Int) (k j : Nat) (hj : h.length ≤ 2 * k + 1 + j) : ∀ i, dnN h k (j + i) = dnN h k j
  | 0 => rfl
  | i + 1 => by
    rw [← dn_stop h k j hj i, ← Nat.add_assoc]
    show (if _ then _ else _) = _
    rw [if_neg (by omega)]
theorem ret_nx {a : Int} {b : Nat} (h : a = (b : Int)) : Ending.returned (Value.int .i64 a) = .returned (.int .i64 (b : Int)) := by rw [h]
set_option maxHeartbeats 1000000 in
theorem up_fn (x g n cap : Nat) (h : List Int) (k : Nat) (w : World) (hn : h.length = n) (h63 : n ≤ 65536) (hk : k < n) (hx : w.cell? ⟨x, 0, none⟩ = some (.slice (some ⟨g, 0, none⟩) n cap)) (hr : Row w (.slice (some ⟨g, 0, none⟩) n cap) h) :
    Calls Try.prog 35 #[.int .i64 (k : Int), .pointer (some ⟨x, 0, none⟩)] w (NextSays (upN h k) w) := by
  obtain ⟨_, _, e1, _, _, _, hk1, _⟩ := row_item hr k (by omega)
  obtain ⟨_, _, e2, _, _, _, ht1, _⟩ := row_item hr ((k - 1) / 2) (by omega)
  injection e1 with e11 e12 e13
  injection e11 with e11
  injection e11 with e11
  subst e11
  subst e13
  injection e2 with e21 e22 e23
  injection e21 with e21
  injection e21 with e21
  subst e21
  subst e23
  have q0 : ((k : Int) - 1).tdiv 2 = (((k - 1) / 2 : Nat) : Int) := by
    rcases Nat.eq_zero_or_pos k with h0 | h0
    · subst h0; rfl
    · rw [Int.tdiv_eq_ediv_of_nonneg (by omega)]
      omega
  have e0 := IntWalk.i64_in ((k : Int) - 1) (by omega)
  have e3 := IntWalk.i64_in (((k - 1) / 2 : Nat) : Int) (by omega)
  have HU := Lib.hid (show upN h k = if gt h k < gt h ((k - 1) / 2) then (k - 1) / 2 else k from rfl)
  clear e12 e22 hr
  have hp : (k - 1) / 2 < n := by omega
  generalize upN h k = u at *
  generalize gt h k = A at *
  generalize gt h ((k - 1) / 2) = B at *
  generalize (k - 1) / 2 = p at *
  have hk' : (k : Int) < n := by omega
  have hp' : (p : Int) < n := by omega
  by_cases hlt : A < B
  · go_enter Try.func35, Try.ntmps35
    go_upto_region 2 with fail
    go_region_held3 (fun w' => w'.cell? ⟨x, 0, none⟩ = some (.slice (some ⟨g, 0, none⟩) n cap) ∧ w'.cell? ⟨g, k, none⟩ = some (.int .i64 A) ∧ w'.cell? ⟨g, p, none⟩ = some (.int .i64 B))
      (go_keep)
      (fail)
    go_wp2_with fail
    go_ret
    exact ⟨ret_nx (by rw [HU.out, if_pos hlt]), drew_below _⟩
  · go_enter Try.func35, Try.ntmps35
    go_upto_region 2 with fail
    go_region_held3 (fun w' => w'.cell? ⟨x, 0, none⟩ = some (.slice (some ⟨g, 0, none⟩) n cap) ∧ w'.cell? ⟨g, k, none⟩ = some (.int .i64 A) ∧ w'.cell? ⟨g, p, none⟩ = some (.int .i64 B))
      (go_keep)
      (fail)
    go_wp2_with fail
    go_ret
    exact ⟨ret_nx (by rw [HU.out, if_neg (by omega)]), drew_below _⟩

set_option maxHeartbeats 2000000 in
set_option maxRecDepth 100000 in
theorem down_fn (x g n cap : Nat) (h : List Int) (k : Nat) (w : World) (hn : h.length = n) (h63 : n ≤ 65536) (hk : k ≤ n) (hx : w.cell? ⟨x, 0, none⟩ = some (.slice (some ⟨g, 0, none⟩) n cap)) (hr : Row w (.slice (some ⟨g, 0, none⟩) n cap) h) :
    Calls Try.prog 34 #[.int .i64 (k : Int), .pointer (some ⟨x, 0, none⟩)] w (NextSays (dnN h k 2) w) := by
  have HR := Lib.hid hr
  have HN := Lib.hid hn
  clear hr hn
  have HX := Lib.hid hx
  clear hx
  have e0 := IntWalk.i64_in (2 * (k : Int)) (by omega)
  have e1 := IntWalk.i64_in (2 * (k : Int) + 1) (by omega)
  have e2 := IntWalk.i64_in (2 * (k : Int) + 2) (by omega)
  go_enter Try.func34, Try.ntmps34
  go_wp2_with fail
  go_loopg [4, 5] 2 (fun r y z wr => ∃ j : Nat, r = 2 - j ∧ j ≤ 2 ∧ y = .int .i64 (dnN h k j : Int) ∧ z = .int .i64 (2 * (k : Int) + 1 + j) ∧ Below w.heap.size w wr)
  case atStart => exact ⟨0, rfl, by decide, rfl, by go_num, Below.refl _ _⟩
  case round =>
    obtain ⟨j, rfl, hj, rfl, rfl, hb⟩ := hrel
    have HB := Lib.hid hb
    have hx := (hb.cell (p := ⟨x, 0, none⟩) (World.block_lt_of_cell? _ _ HX.out)).trans HX.out
    have hrow := row_below HR.out hb
    have HRW := Lib.hid hrow
    clear hb hrow
    have e3 := IntWalk.i64_in (2 * (k : Int) + 1 + j + 1) (by omega)
    by_cases h2 : j = 2
    · have hgt : ¬ (2 * (k : Int) + 1 + j) ≤ 2 * (k : Int) + 2 := by omega
      have HJ := Lib.hid h2
      clear h2
      go_wp2_with fail
      go_ret
      exact ⟨ret_nx (by rw [HJ.out]), HB.out⟩
    · have hle : (2 * (k : Int) + 1 + j) ≤ 2 * (k : Int) + 2 := by omega
      by_cases hkn : 2 * k + 1 + j < n
      · have hkn' : 2 * (k : Int) + 1 + j < n := by omega
        have hdl := dn_le h k (by have := HN.out; omega) j
        obtain ⟨_, _, f1, _, _, _, hk1, _⟩ := row_item HRW.out (2 * k + 1 + j) (by have := HN.out; omega)
        obtain ⟨_, _, f2, _, _, _, ht1, _⟩ := row_item HRW.out (dnN h k j) hdl
        injection f1 with e11 e12 e13
        injection e11 with e11
        injection e11 with e11
        subst e11
        subst e13
        injection f2 with e21 e22 e23
        injection e21 with e21
        injection e21 with e21
        subst e21
        subst e23
        have hD : dnN h k (j + 1) = if 2 * k + 1 + j < h.length ∧ gt h (2 * k + 1 + j) < gt h (dnN h k j) then 2 * k + 1 + j else dnN h k j := rfl
        have HD := Lib.hid hD
        clear hD
        have hd' : (dnN h k j : Int) < n := by have := HN.out; omega
        have hc1 : h.length = n := HN.out
        have HLT := Lib.hid (show 2 * k + 1 + j < h.length by omega)
        rw [show ((⟨g, 2 * k + 1 + j, none⟩ : Addr)) = ⟨g, 2 * k + 1 + j, none⟩ from rfl] at hk1
        clear e12 e22 hdl hc1
        generalize gt h (2 * k + 1 + j) = A at *
        generalize gt h (dnN h k j) = B at *
        generalize dnN h k j = D at *
        obtain ⟨q, hq⟩ : ∃ q, q = 2 * k + 1 + j := ⟨_, rfl⟩
        have hqz : 2 * (k : Int) + 1 + j = q := by omega
        rw [← hq] at hk1 hkn HD HLT
        rw [hqz] at hkn' hle e3 ⊢
        have HQ := Lib.hid hq
        clear hq hqz
        go_upto_region 5 with fail
        go_region_held3 (fun w' => w'.cell? ⟨x, 0, none⟩ = some (.slice (some ⟨g, 0, none⟩) n cap) ∧ w'.cell? ⟨g, q, none⟩ = some (.int .i64 A) ∧ w'.cell? ⟨g, D, none⟩ = some (.int .i64 B))
          (go_keep)
          (fail)
        have HBD := Lib.hid (HB.out.trans ((drew_below wr).mono HB.out.size))
        by_cases hlt : A < B
        · go_wp2_with fail
          go_roundg (2 - (j + 1))
          case measure => omega
          case rel => exact ⟨j + 1, rfl, by omega, by rw [HD.out, if_pos ⟨HLT.out, hlt⟩], congrArg (Value.int .i64) (by have := HQ.out; omega), HBD.out⟩
        · go_wp2_with fail
          go_roundg (2 - (j + 1))
          case measure => omega
          case rel => exact ⟨j + 1, rfl, by omega, by rw [HD.out, if_neg (fun h => by have := h.2; omega)], congrArg (Value.int .i64) (by have := HQ.out; omega), HBD.out⟩
      · have hkn' : ¬ 2 * (k : Int) + 1 + j < n := by omega
        go_wp2_with fail
        go_ret
        exact ⟨ret_nx (by rw [← dn_stop h k j (by have := HN.out; omega) (2 - j), show j + (2 - j) = 2 by omega]), HB.out⟩
end Go.Proofs.Ytpfhaafaoedgpaa.Pl
