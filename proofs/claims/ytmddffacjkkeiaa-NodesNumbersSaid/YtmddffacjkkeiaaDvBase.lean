/-
  Layer 5: lists of kinds in memory, functions of kinds, and the library's searches.
-/
import Derived.Test.YtmddffacjkkeiaaNdSyn
import Derived.Test.YtmddffacjkkeiaaDvSpec
import Derived.RangeFuncOwn
import Derived.Shelf.Abstract
namespace Go.Proofs.Ytmddffacjkkeiaa.Nd
open Go Go.RowKit Go.ChangeShapes Go.WideShapes Go.Shelf

theorem ret_bool {x y : Bool} (h : x = y) : Ending.returned (Value.bool x) = .returned (.bool y) := by rw [h]

/-- A list of kinds. -/
def Kl (w : World) (v : Value) (ks : List Nat) : Prop :=
  ∃ ao cap, v = .slice ao ks.length cap ∧ ks.length ≤ cap ∧ ks.length ≤ 1000000000 ∧ (∀ k ∈ ks, k < 256) ∧ (ks ≠ [] → ∃ g off, g < w.heap.size ∧ ao = some ⟨g, off, none⟩ ∧ ∀ (j : Nat) (h : j < ks.length), w.cell? ⟨g, off + j, none⟩ = some (.int .u8 (ks[j] : Int)))
theorem Kl.below {w w' : World} {v : Value} {ks : List Nat} (h : Kl w v ks) (hb : Below w.heap.size w w') : Kl w' v ks := by
  obtain ⟨ao, cap, rfl, hl, hc2, h256, hc⟩ := h
  refine ⟨ao, cap, rfl, hl, hc2, h256, fun hne => ?_⟩
  obtain ⟨g, off, hg, rfl, hx⟩ := hc hne
  exact ⟨g, off, Nat.lt_of_lt_of_le hg hb.size, rfl, fun j h => by rw [hb.cell (p := ⟨g, off + j, none⟩) hg]; exact hx j h⟩
theorem Kl.at {w : World} {ao : Option Addr} {n cap : Nat} {ks : List Nat} (h : Kl w (.slice ao n cap) ks) {j : Nat} (hj : j < ks.length) : ∃ g off, ao = some ⟨g, off, none⟩ ∧ w.cell? ⟨g, off + j, none⟩ = some (.int .u8 (ks[j] : Int)) ∧ ks[j] < 256 := by
  obtain ⟨ao', cap', e, _, _, h256, hc⟩ := h
  cases e
  obtain ⟨g, off, _, rfl, hx⟩ := hc (fun h => by rw [h] at hj; cases hj)
  exact ⟨g, off, rfl, hx j hj, h256 _ (List.getElem_mem hj)⟩

/-- A function that says p of a kind, and leaves all as it was. -/
def Fn1 (w : World) (fv : Value) (p : Nat → Bool) : Prop :=
  ∃ f caps, fv = .func (.func f) #[] caps ∧ (∀ args W, (callFunc f args).run Try.prog W = .ok (.enter f args) W) ∧ ∀ W (k : Nat), Below w.heap.size w W → k < 256 → Calls Try.prog f (#[.int .u8 (k : Int)] ++ caps) W fun e W' => e = .returned (.bool (p k)) ∧ Below W.heap.size W W'
theorem Fn1.below {w w' : World} {fv : Value} {p : Nat → Bool} (h : Fn1 w fv p) (hb : Below w.heap.size w w') : Fn1 w' fv p := by
  obtain ⟨f, caps, rfl, he, hc⟩ := h
  exact ⟨f, caps, rfl, he, fun W k hW hk => hc W k (hb.trans (hW.mono hb.size)) hk⟩

theorem own_stat (k : Nat) (w : World) (hk : k < 256) : Calls Try.prog 26 #[.int .u8 (k : Int)] w fun e w' => e = .returned (.bool (statK k)) ∧ w = w' := by
  have e : statK k = (decide ((2 : Int) ≤ k) && decide ((k : Int) ≤ 15)) := by unfold statK; rw [Bool.eq_iff_iff]; simp; omega
  rw [e]
  clear e
  have hk0 : (0 : Int) ≤ k := Int.natCast_nonneg k
  have hk1 : (k : Int) < 256 := by omega
  clear hk
  generalize (k : Int) = z at *
  go_enter Try.func26, Try.ntmps26
  go_wp2
  all_goals
    go_ret
    refine ⟨ret_bool ?_, rfl⟩
    first
      | (simp_all; done)
      | (simp_all; omega)
      | (rw [Bool.eq_iff_iff]; simp; omega)
      | (trace_state; fail)
theorem own_expr (k : Nat) (w : World) (hk : k < 256) : Calls Try.prog 27 #[.int .u8 (k : Int)] w fun e w' => e = .returned (.bool (exprK k)) ∧ w = w' := by
  have e : exprK k = ((decide ((20 : Int) ≤ k) && decide ((k : Int) ≤ 35)) || decide ((k : Int) = 38)) := by unfold exprK; rw [Bool.eq_iff_iff]; simp; omega
  rw [e]
  clear e
  have hk0 : (0 : Int) ≤ k := Int.natCast_nonneg k
  have hk1 : (k : Int) < 256 := by omega
  clear hk
  generalize (k : Int) = z at *
  go_enter Try.func27, Try.ntmps27
  go_wp2
  all_goals
    go_ret
    refine ⟨ret_bool ?_, rfl⟩
    first
      | (simp_all; done)
      | (simp_all; omega)
      | (rw [Bool.eq_iff_iff]; simp; omega)
      | (trace_state; fail)
theorem fn_stat (w : World) : Fn1 w (.func (.func 26) #[] #[]) statK :=
  ⟨_, #[], rfl, enters_of Try.func26 (by kernel_rfl) rfl, fun W k _ hk => (own_stat k W hk).mono fun _ _ h => ⟨h.1, h.2 ▸ Below.refl _ _⟩⟩
theorem fn_expr (w : World) : Fn1 w (.func (.func 27) #[] #[]) exprK :=
  ⟨_, #[], rfl, enters_of Try.func27 (by kernel_rfl) rfl, fun W k _ hk => (own_expr k W hk).mono fun _ _ h => ⟨h.1, h.2 ▸ Below.refl _ _⟩⟩


theorem index_k (v : Value) (ks : List Nat) (x : Nat) (w : World) (hK : Kl w v ks) :
    Calls Try.prog 60 #[v, .int .u8 (x : Int)] w fun e w' => (∃ i : Int, e = .returned (.int .i64 i) ∧ (0 ≤ i ↔ x ∈ ks) ∧ -1 ≤ i ∧ i ≤ 1000000000) ∧ w = w' := by
  have HK := Lib.hid hK
  obtain ⟨ao, cap, rfl, hl, hc2, _, _⟩ := hK
  obtain ⟨n, hn⟩ : ∃ n, n = ks.length := ⟨_, rfl⟩
  rw [← hn] at hl hc2
  rw [← hn] at HK ⊢
  have HN := Lib.hid hn
  clear hn
  go_enter Try.func60, Try.ntmps60
  go_wp2_with fail
  go_loopg [8] n (fun r i wr => ∃ k : Nat, r = n - k ∧ i = .int .i64 (k : Int) ∧ k ≤ n ∧ wr = w ∧ ∀ i (hi : i < k), ks[i]? ≠ some x)
  case atStart => exact ⟨0, rfl, rfl, Nat.zero_le _, rfl, fun i hi => absurd hi (by omega)⟩
  case round =>
    obtain ⟨k, rfl, rfl, hk, rfl, hno⟩ := hrel
    have HNO := Lib.hid hno
    clear hno
    by_cases hlt : k < n
    · have hkl : k < ks.length := by have := HN.out; omega
      obtain ⟨g, off, rfl, hcell, h256⟩ := HK.out.at hkl
      obtain ⟨y, hy⟩ : ∃ y, ks[k] = y := ⟨_, rfl⟩
      rw [hy] at hcell h256
      have HY := Lib.hid hy
      clear hy
      have hlt' : (k : Int) < n := by omega
      by_cases he : x = y
      · have he' : (x : Int) = y := by omega
        go_wp2_with fail
        go_ret
        refine ⟨⟨_, rfl, ?_, by omega, by omega⟩, rfl⟩
        refine ⟨fun _ => ?_, fun _ => by omega⟩
        rw [he, ← HY.out]
        exact List.getElem_mem hkl
      · have he' : ¬ (x : Int) = y := by omega
        go_wp2_with fail
        go_roundg (n - (k + 1))
        case measure => omega
        case rel => exact ⟨k + 1, rfl, by go_num, by omega, rfl, fun i hi h => by
          rcases Nat.lt_or_ge i k with h1 | h1
          · exact HNO.out i h1 h
          · obtain rfl : i = k := by omega
            rw [List.getElem?_eq_getElem hkl, HY.out] at h
            exact he (Option.some.inj h).symm⟩
    · obtain rfl : k = n := by omega
      have hlt' : ¬ (k : Int) < k := by omega
      go_wp2_with fail
      go_ret
      refine ⟨⟨-1, rfl, ?_, by omega, by omega⟩, rfl⟩
      refine ⟨fun h => absurd h (by omega), fun hm => ?_⟩
      exfalso
      obtain ⟨i, hi, e⟩ := List.getElem_of_mem hm
      exact HNO.out i (by have := HN.out; omega) (by rw [List.getElem?_eq_getElem hi, e])

theorem contains_k (v : Value) (ks : List Nat) (x : Nat) (w : World) (hK : Kl w v ks) :
    Calls Try.prog 40 #[v, .int .u8 (x : Int)] w fun e w' => e = .returned (.bool (ks.contains x)) ∧ w = w' := by
  have c := index_k v ks x w hK
  obtain ⟨ao, cap, rfl, _⟩ := hK
  go_enter Try.func40, Try.ntmps40
  go_wp2_with fail
  refine c.mono ?_
  rintro e w1 ⟨⟨i, rfl, hi, h1, h2⟩, rfl⟩
  have HI := Lib.hid hi
  clear hi c
  by_cases h0 : 0 ≤ i
  · go_wp2_with fail
    go_ret
    exact ⟨ret_bool (by rw [List.contains_eq_mem, eq_comm, decide_eq_true_iff]; exact HI.out.1 h0), rfl⟩
  · go_wp2_with fail
    go_ret
    exact ⟨ret_bool (by rw [List.contains_eq_mem]; exact decide_eq_decide.2 HI.out), rfl⟩

theorem index_n (v : Value) (ks : List Nat) (x : Nat) (w : World) (hK : Kl w v ks) :
    Calls Try.prog 63 #[v, .int .u8 (x : Int)] w fun e w' => (∃ i : Int, e = .returned (.int .i64 i) ∧ (0 ≤ i ↔ x ∈ ks) ∧ -1 ≤ i ∧ i ≤ 1000000000) ∧ w = w' := by
  have HK := Lib.hid hK
  obtain ⟨ao, cap, rfl, hl, hc2, _, _⟩ := hK
  obtain ⟨n, hn⟩ : ∃ n, n = ks.length := ⟨_, rfl⟩
  rw [← hn] at hl hc2
  rw [← hn] at HK ⊢
  have HN := Lib.hid hn
  clear hn
  go_enter Try.func63, Try.ntmps63
  go_wp2_with fail
  go_loopg [8] n (fun r i wr => ∃ k : Nat, r = n - k ∧ i = .int .i64 (k : Int) ∧ k ≤ n ∧ wr = w ∧ ∀ i (hi : i < k), ks[i]? ≠ some x)
  case atStart => exact ⟨0, rfl, rfl, Nat.zero_le _, rfl, fun i hi => absurd hi (by omega)⟩
  case round =>
    obtain ⟨k, rfl, rfl, hk, rfl, hno⟩ := hrel
    have HNO := Lib.hid hno
    clear hno
    by_cases hlt : k < n
    · have hkl : k < ks.length := by have := HN.out; omega
      obtain ⟨g, off, rfl, hcell, h256⟩ := HK.out.at hkl
      obtain ⟨y, hy⟩ : ∃ y, ks[k] = y := ⟨_, rfl⟩
      rw [hy] at hcell h256
      have HY := Lib.hid hy
      clear hy
      have hlt' : (k : Int) < n := by omega
      by_cases he : x = y
      · have he' : (x : Int) = y := by omega
        go_wp2_with fail
        go_ret
        refine ⟨⟨_, rfl, ?_, by omega, by omega⟩, rfl⟩
        refine ⟨fun _ => ?_, fun _ => by omega⟩
        rw [he, ← HY.out]
        exact List.getElem_mem hkl
      · have he' : ¬ (x : Int) = y := by omega
        go_wp2_with fail
        go_roundg (n - (k + 1))
        case measure => omega
        case rel => exact ⟨k + 1, rfl, by go_num, by omega, rfl, fun i hi h => by
          rcases Nat.lt_or_ge i k with h1 | h1
          · exact HNO.out i h1 h
          · obtain rfl : i = k := by omega
            rw [List.getElem?_eq_getElem hkl, HY.out] at h
            exact he (Option.some.inj h).symm⟩
    · obtain rfl : k = n := by omega
      have hlt' : ¬ (k : Int) < k := by omega
      go_wp2_with fail
      go_ret
      refine ⟨⟨-1, rfl, ?_, by omega, by omega⟩, rfl⟩
      refine ⟨fun h => absurd h (by omega), fun hm => ?_⟩
      exfalso
      obtain ⟨i, hi, e⟩ := List.getElem_of_mem hm
      exact HNO.out i (by have := HN.out; omega) (by rw [List.getElem?_eq_getElem hi, e])

theorem contains_n (v : Value) (ks : List Nat) (x : Nat) (w : World) (hK : Kl w v ks) :
    Calls Try.prog 57 #[v, .int .u8 (x : Int)] w fun e w' => e = .returned (.bool (ks.contains x)) ∧ w = w' := by
  have c := index_n v ks x w hK
  obtain ⟨ao, cap, rfl, _⟩ := hK
  go_enter Try.func57, Try.ntmps57
  go_wp2_with fail
  refine c.mono ?_
  rintro e w1 ⟨⟨i, rfl, hi, h1, h2⟩, rfl⟩
  have HI := Lib.hid hi
  clear hi c
  by_cases h0 : 0 ≤ i
  · go_wp2_with fail
    go_ret
    exact ⟨ret_bool (by rw [List.contains_eq_mem, eq_comm, decide_eq_true_iff]; exact HI.out.1 h0), rfl⟩
  · go_wp2_with fail
    go_ret
    exact ⟨ret_bool (by rw [List.contains_eq_mem]; exact decide_eq_decide.2 HI.out), rfl⟩

end Go.Proofs.Ytmddffacjkkeiaa.Nd
