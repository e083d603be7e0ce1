/-
  Layer 9: slices.Contains, of kinds and of truths.
-/
import Derived.Test.YtnnjkejejlhkdaaDoorRtMem
import Derived.Deep.LoopGhost
import Derived.Deep.DeepCutAuto
namespace Go.Proofs.YtnnjkejejlhkdaaDoor.Rt
open Go Go.RowKit

def kinds (l : List Nat) : List Value := l.map fun (k : Nat) => Value.int .u8 (k : Int)
theorem kinds_len (l : List Nat) : (kinds l).length = l.length := List.length_map _

set_option maxHeartbeats 1000000 in
set_option maxRecDepth 100000 in
theorem index_kinds (B : Nat) (w : World) (v : Value) (l : List Nat) (x : Nat) (hv : LstB B w v (kinds l)) :
    Calls Tryd.prog 62 #[v, .int .u8 (x : Int)] w fun e w' => w' = w ∧ ∃ z : Int, e = .returned (.int .i64 z) ∧ -1 ≤ z ∧ z < 9223372036854775807 ∧ decide (0 ≤ z) = l.contains x := by
  obtain ⟨ao, cap, rfl, hl⟩ := hv.slice
  have HV := Lib.hid hv
  clear hv
  rw [kinds_len] at hl ⊢
  obtain ⟨n, hn⟩ : ∃ n, n = l.length := ⟨_, rfl⟩
  rw [← hn] at hl ⊢
  have HN := Lib.hid hn
  clear hn
  unfold Len at hl
  go_enter Tryd.func62, Tryd.ntmps62
  go_wp2_with fail
  go_loopg [8] n (fun r y wr => ∃ k : Nat, r = n - k ∧ k ≤ n ∧ y = .int .i64 (k : Int) ∧ wr = w ∧ (l.drop k).contains x = l.contains x)
  case atStart => exact ⟨0, rfl, Nat.zero_le _, rfl, rfl, rfl⟩
  case round =>
    obtain ⟨k, rfl, hk, rfl, rfl, hd⟩ := hrel
    have HD := Lib.hid hd
    clear hd
    by_cases hlt : k < n
    · have hlt' : (k : Int) < n := by omega
      have hkl : k < l.length := by have := HN.out; omega
      obtain ⟨g, off, cap, hg, hv, _, c0⟩ := HV.out.item (i := k) (by rw [kinds_len]; exact hkl)
      injection hv with e1 e2 e3
      subst e1
      subst e3
      unfold kinds at c0
      rw [List.getElem_map] at c0
      clear e2
      have hcons : (l.drop k).contains x = (x == l[k] || (l.drop (k + 1)).contains x) := by rw [List.drop_eq_getElem_cons hkl, List.contains_cons]
      have HC := Lib.hid hcons
      clear hcons
      generalize l[k] = y at *
      by_cases hy : y = x
      · subst hy
        go_wp2_with fail
        go_ret
        exact ⟨rfl, k, rfl, by omega, by omega, by rw [← HD.out, HC.out, beq_self_eq_true, Bool.true_or]; exact decide_eq_true (by omega)⟩
      · have hne : (x == y) = false := by rw [beq_eq_false_iff_ne]; exact fun h => hy h.symm
        have HE := Lib.hid hne
        have hyi : ¬ (x : Int) = (y : Int) := fun h => hy (by omega)
        clear hy hne
        go_wp2_with fail
        go_roundg (n - (k + 1))
        case rel => exact ⟨k + 1, rfl, by omega, by go_num, rfl, by rw [← HD.out, HC.out, HE.out, Bool.false_or]⟩
        case measure => omega
    · obtain rfl : k = n := by omega
      go_wp2_with fail
      go_ret
      exact ⟨rfl, -1, rfl, by omega, by omega, by rw [← HD.out, HN.out, List.drop_length]; rfl⟩

set_option maxRecDepth 100000 in
theorem contains_kinds (B : Nat) (w : World) (v : Value) (l : List Nat) (x : Nat) (hv : LstB B w v (kinds l)) :
    Calls Tryd.prog 57 #[v, .int .u8 (x : Int)] w fun e w' => w' = w ∧ e = .returned (.bool (l.contains x)) := by
  have c := index_kinds B w v l x hv
  obtain ⟨ao, cap, rfl, hl⟩ := hv.slice
  clear hv
  go_enter Tryd.func57, Tryd.ntmps57
  go_wp2_with fail
  refine c.mono ?_
  rintro e w1 ⟨rfl, z, rfl, h1, h2, h3⟩
  have H3 := Lib.hid h3
  clear h3 c
  go_wp2_with fail
  go_ret
  exact ⟨rfl, by rw [← H3.out]; rfl⟩

set_option maxHeartbeats 1000000 in
set_option maxRecDepth 100000 in
theorem index_bools (B : Nat) (w : World) (v : Value) (l : List Bool) (x : Bool) (hv : LstB B w v (bools l)) :
    Calls Tryd.prog 51 #[v, .bool x] w fun e w' => w' = w ∧ ∃ z : Int, e = .returned (.int .i64 z) ∧ -1 ≤ z ∧ z < 9223372036854775807 ∧ decide (0 ≤ z) = l.contains x := by
  obtain ⟨ao, cap, rfl, hl⟩ := hv.slice
  have HV := Lib.hid hv
  clear hv
  rw [bools_len] at hl ⊢
  obtain ⟨n, hn⟩ : ∃ n, n = l.length := ⟨_, rfl⟩
  rw [← hn] at hl ⊢
  have HN := Lib.hid hn
  clear hn
  unfold Len at hl
  go_enter Tryd.func51, Tryd.ntmps51
  go_wp2_with fail
  go_loopg [8] n (fun r y wr => ∃ k : Nat, r = n - k ∧ k ≤ n ∧ y = .int .i64 (k : Int) ∧ wr = w ∧ (l.drop k).contains x = l.contains x)
  case atStart => exact ⟨0, rfl, Nat.zero_le _, rfl, rfl, rfl⟩
  case round =>
    obtain ⟨k, rfl, hk, rfl, rfl, hd⟩ := hrel
    have HD := Lib.hid hd
    clear hd
    by_cases hlt : k < n
    · have hlt' : (k : Int) < n := by omega
      have hkl : k < l.length := by have := HN.out; omega
      obtain ⟨g, off, cap, hg, hv, _, c0⟩ := HV.out.item (i := k) (by rw [bools_len]; exact hkl)
      injection hv with e1 e2 e3
      subst e1
      subst e3
      unfold bools at c0
      rw [List.getElem_map] at c0
      clear e2
      have hcons : (l.drop k).contains x = (x == l[k] || (l.drop (k + 1)).contains x) := by rw [List.drop_eq_getElem_cons hkl, List.contains_cons]
      have HC := Lib.hid hcons
      clear hcons
      generalize l[k] = y at *
      by_cases hy : y = x
      · subst hy
        go_wp2_with fail
        go_ret
        exact ⟨rfl, k, rfl, by omega, by omega, by rw [← HD.out, HC.out, beq_self_eq_true, Bool.true_or]; exact decide_eq_true (by omega)⟩
      · have hne : (x == y) = false := by rw [beq_eq_false_iff_ne]; exact fun h => hy h.symm
        have HE := Lib.hid hne
        have hyi := hne
        clear hy hne
        go_wp2_with fail
        go_roundg (n - (k + 1))
        case rel => exact ⟨k + 1, rfl, by omega, by go_num, rfl, by rw [← HD.out, HC.out, HE.out, Bool.false_or]⟩
        case measure => omega
    · obtain rfl : k = n := by omega
      go_wp2_with fail
      go_ret
      exact ⟨rfl, -1, rfl, by omega, by omega, by rw [← HD.out, HN.out, List.drop_length]; rfl⟩

set_option maxRecDepth 100000 in
theorem contains_bools (B : Nat) (w : World) (v : Value) (l : List Bool) (x : Bool) (hv : LstB B w v (bools l)) :
    Calls Tryd.prog 40 #[v, .bool x] w fun e w' => w' = w ∧ e = .returned (.bool (l.contains x)) := by
  have c := index_bools B w v l x hv
  obtain ⟨ao, cap, rfl, hl⟩ := hv.slice
  clear hv
  go_enter Tryd.func40, Tryd.ntmps40
  go_wp2_with fail
  refine c.mono ?_
  rintro e w1 ⟨rfl, z, rfl, h1, h2, h3⟩
  have H3 := Lib.hid h3
  clear h3 c
  go_wp2_with fail
  go_ret
  exact ⟨rfl, by rw [← H3.out]; rfl⟩

end Go.Proofs.YtnnjkejejlhkdaaDoor.Rt
