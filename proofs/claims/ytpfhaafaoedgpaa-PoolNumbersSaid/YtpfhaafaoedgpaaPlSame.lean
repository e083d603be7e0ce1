/-
  The comparison of two lists of numbers.
-/
import Derived.Test.YtpfhaafaoedgpaaPlMem
import Derived.Deep.QuietTactic
import Derived.BigQuiet
import Derived.Deep.LoopGhost
import Derived.WalkSmall
namespace Go.Proofs.Ytpfhaafaoedgpaa.Pl
open Go Go.RowKit

theorem prefix_next {l m : List Int} {k : Nat} (h : l.take k = m.take k) (hl : k < l.length) (hm : k < m.length) (he : l[k] = m[k]) : l.take (k + 1) = m.take (k + 1) := by
  rw [List.take_succ_eq_append_getElem hl, List.take_succ_eq_append_getElem hm, h, he]
theorem prefix_parts {l m : List Int} {k : Nat} (hl : k < l.length) (hm : k < m.length) (he : ¬ l[k] = m[k]) : ¬ l = m := by
  intro h
  subst h
  exact he rfl

set_option maxHeartbeats 1000000 in
theorem same_fn {P Q : Nat → Prop} (v u : Value) (l m : List Int) (w : World) (hv : LstP P w v (ints l)) (hu : LstP Q w u (ints m)) (hl : l.length ≤ 1000000000) :
    Calls Try.prog 23 #[v, u] w fun e w' => e = .returned (.bool (decide (l = m))) ∧ Below w.heap.size w w' := by
  obtain ⟨ao, ca, rfl, -, hv⟩ := hv
  obtain ⟨bo, cb, rfl, -, hu⟩ := hu
  rw [ints_len, ints_len] at *
  obtain ⟨Z, hZ⟩ : ∃ Z, Z = decide (l = m) := ⟨_, rfl⟩
  rw [← hZ]
  have HZ := Lib.hid hZ
  clear hZ
  by_cases hn : l.length = m.length
  · rw [← hn]
    have HN := Lib.hid hn
    clear hn
    obtain ⟨n, hnn⟩ : ∃ n, n = l.length := ⟨_, rfl⟩
    rw [← hnn] at hl ⊢
    have HL := Lib.hid hnn
    clear hnn
    have HV := Lib.hid hv
    have HU := Lib.hid hu
    clear hv hu
    go_enter Try.func23, Try.ntmps23
    go_wp2_with fail
    go_loopg [5] n (fun r i wr => ∃ k : Nat, r = n - k ∧ i = .int .i64 k ∧ k ≤ n ∧ Below w.heap.size w wr ∧ l.take k = m.take k)
    case atStart => exact ⟨0, rfl, rfl, Nat.zero_le _, Below.refl _ _, rfl⟩
    case round =>
      obtain ⟨k, rfl, rfl, hk, hb, heq⟩ := hrel
      have HE := Lib.hid heq
      clear heq
      by_cases hlt : k < n
      · have hlt' : (k : Int) < n := by omega
        have hl1 : k < l.length := by rw [← HL.out]; exact hlt
        have hm1 : k < m.length := by rw [← HN.out, ← HL.out]; exact hlt
        obtain ⟨g, off, -, hg, rfl, hx⟩ := HV.out (fun h => by
          have := List.map_eq_nil_iff.1 h
          rw [this] at hl1
          exact absurd hl1 (Nat.not_lt_zero _))
        obtain ⟨g', off', -, hg', rfl, hy⟩ := HU.out (fun h => by
          have := List.map_eq_nil_iff.1 h
          rw [this] at hm1
          exact absurd hm1 (Nat.not_lt_zero _))
        have hca : wr.cell? ⟨g, off + k, none⟩ = some (.int .i64 l[k]) := by rw [hb.cell (p := ⟨g, off + k, none⟩) hg, hx k (by rw [ints_len]; exact hl1), ints_get _ _ hl1]
        have hcb : wr.cell? ⟨g', off' + k, none⟩ = some (.int .i64 m[k]) := by rw [hb.cell (p := ⟨g', off' + k, none⟩) hg', hy k (by rw [ints_len]; exact hm1), ints_get _ _ hm1]
        clear hx hy
        have HX := Lib.hid (fun h => prefix_next HE.out hl1 hm1 h)
        have HY := Lib.hid (fun h => prefix_parts hl1 hm1 h)
        generalize l[k] = x at *
        generalize m[k] = y at *
        have HB := Lib.hid hb
        have e0 := IntWalk.i64_in ((k : Int) + 1) (by omega)
        clear hb
        by_cases hxy : x = y
        · subst hxy
          have HX2 := Lib.hid (HX.out rfl)
          clear HX HY
          go_wp2_with fail
          go_quiet (fail)
          go_wp2_with fail
          go_roundg (n - (k + 1))
          case measure => omega
          case rel => exact ⟨k + 1, rfl, by go_num, by omega, HB.out.trans ⟨rfl, rfl, rfl, Nat.le_refl _, fun _ _ => rfl⟩, HX2.out⟩
        · have hne : (x != y) = true := by simpa using hxy
          have HY2 := Lib.hid (HY.out hxy)
          clear hxy HX HY
          go_wp2_with fail
          go_quiet (fail)
          go_wp2_with fail
          go_ret
          exact ⟨ret_bool (by rw [HZ.out, decide_eq_false HY2.out]), HB.out.trans ⟨rfl, rfl, rfl, Nat.le_refl _, fun _ _ => rfl⟩⟩
      · have HB := Lib.hid hb
        clear hb
        go_wp2_with fail
        go_ret
        have hkn : k = n := by omega
        have hll := HL.out
        have hlm := HN.out
        have heq := HE.out
        rw [List.take_of_length_le (by omega), List.take_of_length_le (by omega)] at heq
        exact ⟨ret_bool (by rw [HZ.out, decide_eq_true heq]), HB.out⟩
  · have hne : ¬ ((l.length : Int) = m.length) := by omega
    have hno : ¬ l = m := fun h => hn (by rw [h])
    have HN := Lib.hid hno
    clear hv hu hn hno
    go_enter Try.func23, Try.ntmps23
    go_wp2_with fail
    go_ret
    exact ⟨ret_bool (by rw [HZ.out, decide_eq_false HN.out]), Below.refl _ _⟩
end Go.Proofs.Ytpfhaafaoedgpaa.Pl
