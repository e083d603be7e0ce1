/-
  The comparisons of two lists, by contracts.
-/
import Derived.Test.YtfciilkngmdlbaaRunesKit
import Derived.Test.YtfciilkngmdlbaaRows
import Derived.Deep.QuietTactic
import Derived.BigQuiet
namespace Go.Proofs.Ytfciilkngmdlbaa
open Go.RowKit

/-- A slice of integers of kind k that reads as a list. -/
def Reads (w : World) (k : IntKind) (v : Value) (l : List Int) : Prop :=
  ∃ ao cap, v = .slice ao l.length cap ∧ (l ≠ [] → ∃ g, g < w.heap.size ∧ ao = some ⟨g, 0, none⟩ ∧ ∀ (i : Nat) (h : i < l.length), w.cell? ⟨g, i, none⟩ = some (.int k l[i]))

theorem Reads.below {w w' : World} {k : IntKind} {v : Value} {l : List Int} (h : Reads w k v l) (hb : Below w.heap.size w w') : Reads w' k v l := by
  obtain ⟨ao, cap, rfl, h⟩ := h
  refine ⟨ao, cap, rfl, fun hl => ?_⟩
  obtain ⟨g, hg, rfl, hc⟩ := h hl
  exact ⟨g, by have := hb.size; omega, rfl, fun i hi => by rw [hb.cell (p := ⟨g, i, none⟩) hg]; exact hc i hi⟩

theorem Reads.own {w : World} {b : Nat} {e : TypeId} {k : IntKind} {v : Value} {l : List Int} {n : Nat} (h : w.ownsRow b e 1 v n (l.map (Value.int k))) : Reads w k v l := by
  have hn : l.length = n := by have := h.1; simpa using this
  subst hn
  rcases h.2 with ⟨rfl, h0⟩ | ⟨g, cap, cur, rfl, _, hg, _⟩
  · exact ⟨none, 0, by rw [h0], fun hl => absurd (List.eq_nil_of_length_eq_zero h0) hl⟩
  · refine ⟨_, cap, rfl, fun _ => ⟨g, (Array.getElem?_eq_some_iff.1 hg).1, rfl, fun i hi => ?_⟩⟩
    rw [h.cellAt i (by omega)]
    simp [hi]

theorem prefix_succ {l m : List Int} {k : Nat} (h : l.take k = m.take k) (hl : k < l.length) (hm : k < m.length) (he : l[k] = m[k]) : l.take (k + 1) = m.take (k + 1) := by
  rw [List.take_succ_eq_append_getElem hl, List.take_succ_eq_append_getElem hm, h, he]

theorem prefix_not {l m : List Int} {k : Nat} (hl : k < l.length) (hm : k < m.length) (he : ¬ l[k] = m[k]) : ¬ l = m := by
  intro h
  subst h
  exact he rfl

def SamePost (l m : List Int) (w : World) (e : Ending) (w' : World) : Prop := e = .returned (.bool (decide (l = m))) ∧ Below w.heap.size w w'

set_option maxHeartbeats 1000000 in
theorem same_any (v u : Value) (l m : List Int) (w : World) (hv : Reads w .i32 v l) (hu : Reads w .i32 u m) (hl : l.length ≤ 1000000000) :
    Calls Try.prog 8 #[v, u] w (SamePost l m w) := by
  obtain ⟨ao, ca, rfl, hv⟩ := hv
  obtain ⟨bo, cb, rfl, hu⟩ := hu
  by_cases hn : l.length = m.length
  · by_cases h0 : l = []
    · subst h0
      have hm : m = [] := List.eq_nil_of_length_eq_zero (by simpa using hn.symm)
      subst hm
      clear hv hu hl hn
      simp only [List.length_nil]
      go_enter Try.func8, Try.ntmps8
      go_wp2
      refine wp_loop_rounds 1 ?_
      rw [rounds_succ]
      go_wp2
      go_ret
      exact ⟨rfl, Below.refl _ _⟩
    · have h0' : m ≠ [] := by intro h; subst h; exact h0 (List.eq_nil_of_length_eq_zero (by simpa using hn))
      obtain ⟨g, hg, hag, hvc⟩ := hv h0
      obtain ⟨g', hg', hbg, huc⟩ := hu h0'
      clear hv hu
      subst hag hbg
      clear h0 h0'
      rw [← hn]
      have HN := Lib.hid hn
      clear hn
      obtain ⟨n, hnn⟩ : ∃ n, n = l.length := ⟨_, rfl⟩
      rw [← hnn] at hl ⊢
      have HL := Lib.hid hnn
      clear hnn
      have HV := Lib.hid hvc
      have HU := Lib.hid huc
      clear hvc huc
      go_enter Try.func8, Try.ntmps8
      go_wp2
      go_loopw [5] (fun i wr => ∃ k : Nat, k ≤ n ∧ i = .int .i64 k ∧ Below w.heap.size w wr ∧ l.take k = m.take k) (fun i _ => n - (intOf i).toNat)
      case atStart => exact ⟨0, Nat.zero_le _, rfl, Below.refl _ _, by simp⟩
      case round =>
        obtain ⟨k, hk, rfl, hb, heq⟩ := hrel
        have HE := Lib.hid heq
        clear heq
        by_cases hlt : k < n
        · have hl1 : k < l.length := by rw [← HL.out]; exact hlt
          have hm1 : k < m.length := by rw [← HN.out, ← HL.out]; exact hlt
          have hca : wr.cell? ⟨g, k, none⟩ = some (.int .i32 l[k]) := by rw [hb.cell (p := ⟨g, k, none⟩) hg]; exact HV.out k hl1
          have hcb : wr.cell? ⟨g', k, none⟩ = some (.int .i32 m[k]) := by rw [hb.cell (p := ⟨g', k, none⟩) hg']; exact HU.out k hm1
          obtain ⟨x, hx⟩ : ∃ x, x = l[k] := ⟨_, rfl⟩
          obtain ⟨y, hy⟩ : ∃ y, y = m[k] := ⟨_, rfl⟩
          rw [← hx] at hca
          rw [← hy] at hcb
          have HX := Lib.hid hx
          have HY := Lib.hid hy
          clear hx hy
          by_cases hxy : x = y
          · subst hxy
            go_wp2
            go_quiet (fail)
            go_wp2
            go_roundw
            case rel => exact ⟨k + 1, by omega, by go_num, hb.trans ⟨rfl, rfl, rfl, Nat.le_refl _, fun _ _ => rfl⟩, prefix_succ HE.out hl1 hm1 (HX.out.symm.trans HY.out)⟩
            case measure => simp [intOf]; omega
          · have hne : (x != y) = true := by simpa using hxy
            clear hxy
            go_wp2
            go_quiet (fail)
            go_wp2
            go_ret
            have hno : ¬ l = m := prefix_not hl1 hm1 (by rw [← HX.out, ← HY.out]; simpa using hne)
            exact ⟨by rw [decide_eq_false hno]; rfl, hb.trans ⟨rfl, rfl, rfl, Nat.le_refl _, fun _ _ => rfl⟩⟩
        · go_wp2
          go_ret
          have hkn : k = n := by omega
          have hll := HL.out
          have hlm := HN.out
          have heq := HE.out
          rw [List.take_of_length_le (by omega), List.take_of_length_le (by omega)] at heq
          exact ⟨by rw [decide_eq_true heq]; rfl, hb⟩
  · have hne : ¬ ((l.length : Int) = m.length) := by omega
    have hno : ¬ l = m := fun h => hn (by rw [h])
    have HN := Lib.hid hno
    clear hv hu hn hno
    go_enter Try.func8, Try.ntmps8
    go_wp2
    go_ret
    exact ⟨by rw [decide_eq_false HN.out]; rfl, Below.refl _ _⟩

set_option maxHeartbeats 1000000 in
theorem sameInts_any (v u : Value) (l m : List Int) (w : World) (hv : Reads w .i64 v l) (hu : Reads w .i64 u m) (hl : l.length ≤ 1000000000) :
    Calls Try.prog 9 #[v, u] w (SamePost l m w) := by
  obtain ⟨ao, ca, rfl, hv⟩ := hv
  obtain ⟨bo, cb, rfl, hu⟩ := hu
  by_cases hn : l.length = m.length
  · by_cases h0 : l = []
    · subst h0
      have hm : m = [] := List.eq_nil_of_length_eq_zero (by simpa using hn.symm)
      subst hm
      clear hv hu hl hn
      simp only [List.length_nil]
      go_enter Try.func9, Try.ntmps9
      go_wp2
      refine wp_loop_rounds 1 ?_
      rw [rounds_succ]
      go_wp2
      go_ret
      exact ⟨rfl, Below.refl _ _⟩
    · have h0' : m ≠ [] := by intro h; subst h; exact h0 (List.eq_nil_of_length_eq_zero (by simpa using hn))
      obtain ⟨g, hg, hag, hvc⟩ := hv h0
      obtain ⟨g', hg', hbg, huc⟩ := hu h0'
      clear hv hu
      subst hag hbg
      clear h0 h0'
      rw [← hn]
      have HN := Lib.hid hn
      clear hn
      obtain ⟨n, hnn⟩ : ∃ n, n = l.length := ⟨_, rfl⟩
      rw [← hnn] at hl ⊢
      have HL := Lib.hid hnn
      clear hnn
      have HV := Lib.hid hvc
      have HU := Lib.hid huc
      clear hvc huc
      go_enter Try.func9, Try.ntmps9
      go_wp2
      go_loopw [5] (fun i wr => ∃ k : Nat, k ≤ n ∧ i = .int .i64 k ∧ Below w.heap.size w wr ∧ l.take k = m.take k) (fun i _ => n - (intOf i).toNat)
      case atStart => exact ⟨0, Nat.zero_le _, rfl, Below.refl _ _, by simp⟩
      case round =>
        obtain ⟨k, hk, rfl, hb, heq⟩ := hrel
        have HE := Lib.hid heq
        clear heq
        by_cases hlt : k < n
        · have hl1 : k < l.length := by rw [← HL.out]; exact hlt
          have hm1 : k < m.length := by rw [← HN.out, ← HL.out]; exact hlt
          have hca : wr.cell? ⟨g, k, none⟩ = some (.int .i64 l[k]) := by rw [hb.cell (p := ⟨g, k, none⟩) hg]; exact HV.out k hl1
          have hcb : wr.cell? ⟨g', k, none⟩ = some (.int .i64 m[k]) := by rw [hb.cell (p := ⟨g', k, none⟩) hg']; exact HU.out k hm1
          obtain ⟨x, hx⟩ : ∃ x, x = l[k] := ⟨_, rfl⟩
          obtain ⟨y, hy⟩ : ∃ y, y = m[k] := ⟨_, rfl⟩
          rw [← hx] at hca
          rw [← hy] at hcb
          have HX := Lib.hid hx
          have HY := Lib.hid hy
          clear hx hy
          by_cases hxy : x = y
          · subst hxy
            go_wp2
            go_quiet (fail)
            go_wp2
            go_roundw
            case rel => exact ⟨k + 1, by omega, by go_num, hb.trans ⟨rfl, rfl, rfl, Nat.le_refl _, fun _ _ => rfl⟩, prefix_succ HE.out hl1 hm1 (HX.out.symm.trans HY.out)⟩
            case measure => simp [intOf]; omega
          · have hne : (x != y) = true := by simpa using hxy
            clear hxy
            go_wp2
            go_quiet (fail)
            go_wp2
            go_ret
            have hno : ¬ l = m := prefix_not hl1 hm1 (by rw [← HX.out, ← HY.out]; simpa using hne)
            exact ⟨by rw [decide_eq_false hno]; rfl, hb.trans ⟨rfl, rfl, rfl, Nat.le_refl _, fun _ _ => rfl⟩⟩
        · go_wp2
          go_ret
          have hkn : k = n := by omega
          have hll := HL.out
          have hlm := HN.out
          have heq := HE.out
          rw [List.take_of_length_le (by omega), List.take_of_length_le (by omega)] at heq
          exact ⟨by rw [decide_eq_true heq]; rfl, hb⟩
  · have hne : ¬ ((l.length : Int) = m.length) := by omega
    have hno : ¬ l = m := fun h => hn (by rw [h])
    have HN := Lib.hid hno
    clear hv hu hn hno
    go_enter Try.func9, Try.ntmps9
    go_wp2
    go_ret
    exact ⟨by rw [decide_eq_false HN.out]; rfl, Below.refl _ _⟩

end Go.Proofs.Ytfciilkngmdlbaa
