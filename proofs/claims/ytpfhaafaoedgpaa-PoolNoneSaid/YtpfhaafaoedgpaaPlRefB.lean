/-
  Layer 12: the document's pool: sizes, how much they are together, a new one.
-/
import Derived.Test.YtpfhaafaoedgpaaPlRefA
namespace Go.Proofs.Ytpfhaafaoedgpaa.Pl
open Go Go.RowKit

set_option maxHeartbeats 1000000 in
theorem used_fn {P : Nat → Prop} (v : Value) (p : Rp) (w : World) (hv : RpV P w v p) (hO : p.Ok) :
    Calls Try.prog 22 #[v] w fun e w' => e = .returned (.int .i64 p.sizes.sum) ∧ Below w.heap.size w w' := by
  obtain ⟨vi, vs, rfl, hi, hs⟩ := hv
  have hfew := hO.few
  have hlen := hO.len
  have hpos := hO.pos
  have hsum := hO.sum
  have htop := hO.top
  rw [hlen] at hfew
  clear hO hlen hi
  obtain ⟨ao, cap, rfl, hL, hc⟩ := hs
  rw [ints_len] at *
  clear hL
  generalize p.sizes = ids at *
  have hall : ∀ k, 0 ≤ (ids.take k).sum ∧ (ids.take k).sum ≤ 1073741824 := fun k => by
    have := sum_take_le ids hpos k
    omega
  clear hpos hsum htop
  obtain ⟨Z, hZ⟩ : ∃ Z, Z = ids.sum := ⟨_, rfl⟩
  rw [← hZ]
  have HZ := Lib.hid hZ
  have HALL := Lib.hid hall
  clear hZ hall
  obtain ⟨n, hn⟩ : ∃ n, n = ids.length := ⟨_, rfl⟩
  rw [← hn] at hfew ⊢
  have HN := Lib.hid hn
  have HC := Lib.hid hc
  clear hn hc
  go_enter Try.func22, Try.ntmps22
  go_wp2_with fail
  go_loopg [3, 4] n (fun r s i wr => ∃ k : Nat, r = n - k ∧ s = .int .i64 (ids.take k).sum ∧ i = .int .i64 k ∧ k ≤ n ∧ wr = w.alloc (.cells #[.int .i64 p.bound, vi, .slice ao n cap] 38))
  case atStart => exact ⟨0, rfl, rfl, rfl, Nat.zero_le _, rfl⟩
  case round =>
    obtain ⟨k, rfl, rfl, rfl, hk, rfl⟩ := hrel
    by_cases hlt : k < n
    · have hlt' : (k : Int) < n := by omega
      have hka : k < ids.length := by have := HN.out; omega
      obtain ⟨g, off, hP, hg, rfl, hx⟩ := HC.out (fun h => by
        have := List.map_eq_nil_iff.1 h
        rw [this] at hka
        exact absurd hka (Nat.not_lt_zero _))
      have c0 := hx k (by rw [ints_len]; exact hka)
      rw [ints_get _ _ hka] at c0
      have HG := Lib.hid hg
      clear hx hP hg
      have hS := sum_take_succ ids k hka
      have hb := HALL.out (k + 1)
      rw [hS] at hb
      have HS := Lib.hid hS
      clear hS
      generalize ids[k] = x at *
      generalize (ids.take k).sum = S at *
      have c1 : (w.alloc (.cells #[.int .i64 p.bound, vi, .slice (some ⟨g, off, none⟩) n cap] 38)).cell? ⟨g, off + k, none⟩ = some (.int .i64 x) := by
        rw [Below.cell ((Below.refl w.heap.size w).alloc (Nat.le_refl _) _) (p := ⟨g, off + k, none⟩) HG.out]; exact c0
      clear c0
      have e0 := IntWalk.i64_in k (by omega)
      have e1 := IntWalk.i64_in (S + x) (by omega)
      clear hb
      go_wp2_with fail
      go_roundg (n - (k + 1))
      case measure => omega
      case rel => exact ⟨k + 1, rfl, by rw [HS.out], by go_num, by omega, rfl⟩
    · have hr : (ids.take k).sum = Z := by rw [HZ.out, List.take_of_length_le (by have := HN.out; omega)]
      rw [hr]
      clear hr
      go_wp2_with fail
      go_ret
      exact ⟨rfl, (Below.refl _ _).alloc (Nat.le_refl _) _⟩

theorem ret_ib {a b : Int} {c d : Bool} (h : a = b) (h' : c = d) : Ending.returned (.tuple #[.int .i64 a, .bool c]) = .returned (.tuple #[.int .i64 b, .bool d]) := by rw [h, h']
set_option maxHeartbeats 1000000 in
theorem size_fn {P : Nat → Prop} (v : Value) (p : Rp) (id : Int) (w : World) (hv : RpV P w v p) (hO : p.Ok) :
    Calls Try.prog 21 #[v, .int .i64 id] w fun e w' => e = .returned (.tuple #[.int .i64 (p.size id).1, .bool (p.size id).2]) ∧ Below w.heap.size w w' := by
  obtain ⟨vi, vs, rfl, hi, hs⟩ := hv
  obtain ⟨Z, hZ⟩ : ∃ Z, Z = p.size id := ⟨_, rfl⟩
  rw [← hZ]
  have HZ := Lib.hid hZ
  clear hZ
  have HO := Lib.hid hO
  clear hO
  have hpl := fun w' (hb : Below w.heap.size w w') => place_fn (.agg #[.int .i64 p.bound, vi, vs]) p id (w'.alloc (.cells #[.int .i64 p.bound, vi, vs] 38)) (P := P) ⟨vi, vs, rfl, (hi.below hb).below ((Below.refl _ _).alloc (Nat.le_refl _) _), (hs.below hb).below ((Below.refl _ _).alloc (Nat.le_refl _) _)⟩ HO.out
  have HP := Lib.hid (hpl w (Below.refl _ _))
  have HL := Lib.hid (HO.out.len)
  clear hpl hi
  have HS := Lib.hid hs
  clear hs
  go_enter Try.func21, Try.ntmps21
  go_wp2_with fail
  refine HP.out.mono ?_
  rintro e w1 ⟨rfl, b1⟩
  have hbd := place_bounds p.ids id
  by_cases hneg : placeOf p.ids id < 0
  · have hz : Z = (0, false) := by rw [HZ.out]; unfold Rp.size; rw [if_pos hneg]
    have HZ2 := Lib.hid hz
    have HB := Lib.hid b1
    clear hbd b1 hz
    generalize placeOf p.ids id = q at *
    go_wp2_with fail
    go_ret2
    exact ⟨ret_ib (by rw [HZ2.out]) (by rw [HZ2.out]), ((Below.refl _ _).alloc (Nat.le_refl _) _).trans (HB.out.mono (by simp))⟩
  · obtain ⟨h1, h2, h3⟩ := hbd
    have hz : Z = (p.sizeAt (placeOf p.ids id).toNat, true) := by rw [HZ.out]; unfold Rp.size; rw [if_neg hneg]
    have HZ2 := Lib.hid hz
    clear hz h3 h1
    rw [HL.out] at h2
    obtain ⟨q, hq⟩ : ∃ q : Nat, placeOf p.ids id = q := ⟨(placeOf p.ids id).toNat, by omega⟩
    rw [hq] at h2 hneg
    have hq2 : q < p.sizes.length := by omega
    obtain ⟨g, off, cap, hP, hg, rfl, hLn, c0⟩ := HS.out.item (i := q) (by rw [ints_len]; exact hq2)
    rw [ints_get _ _ hq2] at c0
    rw [ints_len] at *
    have HSZ := Lib.hid (show p.sizeAt q = p.sizes[q] from by unfold Rp.sizeAt; rw [List.getD_eq_getElem?_getD, List.getElem?_eq_getElem hq2]; rfl)
    generalize p.sizes[q] = x at *
    have bb : Below w.heap.size w w1 := ((Below.refl _ _).alloc (Nat.le_refl _) _).trans (b1.mono (by simp))
    have c1 : w1.cell? ⟨g, off + q, none⟩ = some (.int .i64 x) := by rw [bb.cell (p := ⟨g, off + q, none⟩) hg]; exact c0
    have c2 : w1.cell? ⟨w.heap.size, 2, none⟩ = some (.slice (some ⟨g, off, none⟩) p.sizes.length cap) := by
      rw [b1.cell (p := ⟨w.heap.size, 2, none⟩) (by simp)]; exact cell_of (new_block _ _) 2 _ rfl
    have HB := Lib.hid bb
    have HQ := Lib.hid hq
    have HLn := Lib.hid hLn
    clear c0 b1 bb hg hP hLn HP HS
    rw [hq]
    clear hq
    generalize p.sizes.length = n at *
    have hlt : (q : Int) < n := h2
    go_wp2_with fail
    go_ret2
    exact ⟨ret_ib (by rw [HZ2.out, HQ.out, Int.toNat_natCast, HSZ.out]) (by rw [HZ2.out]), HB.out⟩
end Go.Proofs.Ytpfhaafaoedgpaa.Pl
