/-
  Layer 12: the document's pool: what it is asked.
-/
import Derived.Test.YtpfhaafaoedgpaaPlMath
import Derived.Deep.QuietTactic
import Derived.BigQuiet
import Derived.Deep.LoopGhost
import Derived.WalkSmall
namespace Go.Proofs.Ytpfhaafaoedgpaa.Pl
open Go Go.RowKit

/-- The document's pool as a value; its lists lie in blocks of the kind P. -/
def RpV (P : Nat → Prop) (w : World) (v : Value) (p : Rp) : Prop :=
  ∃ vi vs, v = .agg #[.int .i64 p.bound, vi, vs] ∧ LstP P w vi (ints p.ids) ∧ LstP P w vs (ints p.sizes)
theorem RpV.below {P : Nat → Prop} {w w' : World} {v : Value} {p : Rp} (h : RpV P w v p) (hb : Below w.heap.size w w') : RpV P w' v p := by
  obtain ⟨vi, vs, rfl, h1, h2⟩ := h
  exact ⟨vi, vs, rfl, h1.below hb, h2.below hb⟩
theorem RpV.mono {P P' : Nat → Prop} {w : World} {v : Value} {p : Rp} (h : RpV P w v p) (hP : ∀ k, k < w.heap.size → P k → P' k) : RpV P' w v p := by
  obtain ⟨vi, vs, rfl, h1, h2⟩ := h
  exact ⟨vi, vs, rfl, h1.mono hP, h2.mono hP⟩
theorem RpV.turns {F G : List Nat} {w w' : World} {v : Value} {p : Rp} (h : RpV (· ∉ F) w v p) (hb : Turns F w w') (hG : ∀ x ∈ G, x ∈ F ∨ w.heap.size ≤ x) : RpV (· ∉ G) w' v p := by
  obtain ⟨vi, vs, rfl, h1, h2⟩ := h
  exact ⟨vi, vs, rfl, h1.turns hb hG, h2.turns hb hG⟩

set_option maxHeartbeats 1000000 in
theorem place_fn {P : Nat → Prop} (v : Value) (p : Rp) (id : Int) (w : World) (hv : RpV P w v p) (hO : p.Ok) :
    Calls Try.prog 30 #[v, .int .i64 id] w fun e w' => e = .returned (.int .i64 (placeOf p.ids id)) ∧ Below w.heap.size w w' := by
  obtain ⟨vi, vs, rfl, hi, hs⟩ := hv
  have hfew := hO.few
  clear hO
  obtain ⟨ao, cap, rfl, hL, hc⟩ := hi
  rw [ints_len] at *
  clear hL
  generalize p.ids = ids at *
  obtain ⟨n, hn⟩ : ∃ n, n = ids.length := ⟨_, rfl⟩
  rw [← hn] at hfew ⊢
  have HN := Lib.hid hn
  have HC := Lib.hid hc
  clear hn hc
  obtain ⟨Z, hZ⟩ : ∃ Z, Z = placeOf ids id := ⟨_, rfl⟩
  rw [← hZ]
  have HZ := Lib.hid hZ
  clear hZ
  go_enter Try.func30, Try.ntmps30
  go_wp2_with fail
  go_loopg [5] n (fun r i wr => ∃ k : Nat, r = n - k ∧ i = .int .i64 k ∧ k ≤ n ∧ k ≤ ids.idxOf id ∧ wr = w.alloc (.cells #[.int .i64 p.bound, .slice ao n cap, vs] 38))
  case atStart => exact ⟨0, rfl, rfl, Nat.zero_le _, Nat.zero_le _, rfl⟩
  case round =>
    obtain ⟨k, rfl, rfl, hk, hix, rfl⟩ := hrel
    have HIX := Lib.hid hix
    clear hix
    by_cases hlt : k < n
    · have hlt' : (k : Int) < n := by omega
      have hka : k < ids.length := by have := HN.out; omega
      obtain ⟨g, off, hP, hg, rfl, hx⟩ := HC.out (fun h => by
        have := List.map_eq_nil_iff.1 h
        rw [this] at hka
        exact absurd hka (Nat.not_lt_zero _))
      have c0 := hx k (by rw [ints_len]; exact hka)
      rw [ints_get _ _ hka] at c0
      have HG := Lib.hid hg
      clear hx hP hg
      obtain ⟨x, hxk⟩ : ∃ x, x = ids[k] := ⟨_, rfl⟩
      rw [← hxk] at c0
      have HX := Lib.hid hxk
      clear hxk
      have c1 : (w.alloc (.cells #[.int .i64 p.bound, .slice (some ⟨g, off, none⟩) n cap, vs] 38)).cell? ⟨g, off + k, none⟩ = some (.int .i64 x) := by
        rw [Below.cell ((Below.refl w.heap.size w).alloc (Nat.le_refl _) _) (p := ⟨g, off + k, none⟩) HG.out]; exact c0
      clear c0
      have e0 := IntWalk.i64_in k (by omega)
      by_cases hxi : x = id
      · have hxb : (x == id) = true := by simpa using hxi
        have hr : placeOf ids id = k := place_here HIX.out hka (by rw [← HX.out]; exact hxi)
        have HR := Lib.hid hr
        clear hxi hr
        go_wp2_with fail
        go_ret
        exact ⟨ret_int (by rw [HZ.out, HR.out]), (Below.refl _ _).alloc (Nat.le_refl _) _⟩
      · have hxb : (x == id) = false := by simpa using hxi
        have hnx := place_next HIX.out hka (by rw [← HX.out]; exact hxi)
        have HNX := Lib.hid hnx
        clear hnx hxi
        go_wp2_with fail
        go_roundg (n - (k + 1))
        case measure => omega
        case rel => exact ⟨k + 1, rfl, by go_num, by omega, HNX.out, rfl⟩
    · have hr : placeOf ids id = -1 := place_none (by have := HN.out; have := HIX.out; omega)
      have HR := Lib.hid hr
      clear hr
      go_wp2_with fail
      go_ret
      exact ⟨ret_int (by rw [HZ.out, HR.out]), (Below.refl _ _).alloc (Nat.le_refl _) _⟩
end Go.Proofs.Ytpfhaafaoedgpaa.Pl
