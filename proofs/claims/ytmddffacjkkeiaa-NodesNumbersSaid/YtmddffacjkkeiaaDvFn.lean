/-
  Layer 5: functions of kinds that the code makes, and what it asks of a list of kinds with them.
-/
import Derived.Test.YtmddffacjkkeiaaDvBase
namespace Go.Proofs.Ytmddffacjkkeiaa.Nd
open Go Go.RowKit Go.ChangeShapes Go.WideShapes Go.Shelf

theorem own_of (v : Value) (these : List Nat) (w : World) (hK : Kl w v these) :
    Calls Try.prog 38 #[v] w fun e w' => ∃ fv, e = .returned fv ∧ Fn1 w' fv (isB these) ∧ Below w.heap.size w w' := by
  have HK := Lib.hid hK
  obtain ⟨ao, cap, rfl, hr⟩ := hK
  clear hr
  generalize these.length = n at *
  go_enter Try.func38, Try.ntmps38
  go_wp2_with fail
  go_ret
  have hal : Below w.heap.size w (w.alloc (.cells #[.slice ao n cap] 42)) := (Below.refl _ _).alloc (Nat.le_refl _) _
  have hbox := new_block w (.cells #[.slice ao n cap] 42)
  have hsz : (w.alloc (.cells #[.slice ao n cap] 42)).heap.size = w.heap.size + 1 := by simp
  refine ⟨_, rfl, ⟨56, _, rfl, enters_of Try.func56 (by kernel_rfl) rfl, fun W k hW hk => ?_⟩, hal⟩
  have hc := cell_of ((hW.block w.heap.size (by omega)).trans hbox) 0 _ rfl
  have hKW := (HK.out.below hal).below hW
  have c := contains_n _ these k W hKW
  clear hKW hW hbox hal hsz
  generalize w.heap.size = b at *
  go_enter Try.func56, Try.ntmps56
  go_wp2_with fail
  refine c.mono ?_
  rintro e w1 ⟨rfl, rfl⟩
  go_wp2_with fail
  go_ret
  exact ⟨ret_bool (by unfold isB; rw [List.contains_eq_mem]), Below.refl _ _⟩

theorem indexFunc (v fv : Value) (ks : List Nat) (p : Nat → Bool) (w : World) (hK : Kl w v ks) (hF : Fn1 w fv p) :
    Calls Try.prog 64 #[v, fv] w fun e w' => (∃ i : Int, e = .returned (.int .i64 i) ∧ (0 ≤ i ↔ ∃ k ∈ ks, p k = true) ∧ -1 ≤ i ∧ i ≤ 1000000000) ∧ Below w.heap.size w w' := by
  have HK := Lib.hid hK
  obtain ⟨ao, cap, rfl, hl, hc2, _, _⟩ := hK
  obtain ⟨n, hn⟩ : ∃ n, n = ks.length := ⟨_, rfl⟩
  rw [← hn] at hl hc2
  rw [← hn] at HK ⊢
  have HN := Lib.hid hn
  clear hn
  obtain ⟨f, caps, rfl, he, hcalls⟩ := hF
  have HF := Lib.hid hcalls
  clear hcalls
  go_enter Try.func64, Try.ntmps64
  go_wp2_with fail
  go_loopg [8] n (fun r i wr => ∃ k : Nat, r = n - k ∧ i = .int .i64 (k : Int) ∧ k ≤ n ∧ Below w.heap.size w wr ∧ ∀ i (hi : i < k) y, ks[i]? = some y → p y = false)
  case atStart => exact ⟨0, rfl, rfl, Nat.zero_le _, Below.refl _ _, fun i hi => absurd hi (by omega)⟩
  case round =>
    obtain ⟨k, rfl, rfl, hk, hb, hno⟩ := hrel
    have HNO := Lib.hid hno
    have HB := Lib.hid hb
    clear hno hb
    by_cases hlt : k < n
    · have hkl : k < ks.length := by have := HN.out; omega
      obtain ⟨g, off, rfl, hcell, h256⟩ := (HK.out.below HB.out).at hkl
      obtain ⟨y, hy⟩ : ∃ y, ks[k] = y := ⟨_, rfl⟩
      rw [hy] at hcell h256
      have HY := Lib.hid hy
      clear hy
      have hlt' : (k : Int) < n := by omega
      have c := HF.out wr y HB.out h256
      obtain ⟨b, hb⟩ : ∃ b, p y = b := ⟨_, rfl⟩
      rw [hb] at c
      have HPB := Lib.hid hb
      clear hb
      cases b with
      | true =>
        go_wp2_with fail
        refine c.mono ?_
        rintro e w1 ⟨rfl, b1⟩
        have HB1 := Lib.hid b1
        clear b1
        go_wp2_with fail
        go_ret
        exact ⟨⟨_, rfl, ⟨fun _ => ⟨y, by rw [← HY.out]; exact List.getElem_mem hkl, HPB.out⟩, fun _ => by omega⟩, by omega, by omega⟩, grew_trans HB.out HB1.out⟩
      | false =>
        go_wp2_with fail
        refine c.mono ?_
        rintro e w1 ⟨rfl, b1⟩
        have HB1 := Lib.hid b1
        clear b1
        go_wp2_with fail
        go_roundg (n - (k + 1))
        case measure => omega
        case rel => exact ⟨k + 1, rfl, by go_num, by omega, grew_trans HB.out HB1.out, fun i hi z h => by
          rcases Nat.lt_or_ge i k with h1 | h1
          · exact HNO.out i h1 z h
          · obtain rfl : i = k := by omega
            rw [List.getElem?_eq_getElem hkl, HY.out] at h
            rw [← Option.some.inj h]; exact HPB.out⟩
    · obtain rfl : k = n := by omega
      have hlt' : ¬ (k : Int) < k := by omega
      go_wp2_with fail
      go_ret
      refine ⟨⟨-1, rfl, ⟨fun h => absurd h (by omega), fun ⟨y, hm, hp⟩ => ?_⟩, by omega, by omega⟩, HB.out⟩
      exfalso
      obtain ⟨i, hi, e⟩ := List.getElem_of_mem hm
      have := HNO.out i (by have := HN.out; omega) y (by rw [List.getElem?_eq_getElem hi, e])
      rw [hp] at this; cases this

theorem containsFunc (v fv : Value) (ks : List Nat) (p : Nat → Bool) (w : World) (hK : Kl w v ks) (hF : Fn1 w fv p) :
    Calls Try.prog 58 #[v, fv] w fun e w' => e = .returned (.bool (ks.any p)) ∧ Below w.heap.size w w' := by
  have c := indexFunc v fv ks p w hK hF
  obtain ⟨ao, cap, rfl, _⟩ := hK
  obtain ⟨f, caps, rfl, _⟩ := hF
  have hany : (∃ k ∈ ks, p k = true) ↔ ks.any p = true := by rw [List.any_eq_true]
  have HA := Lib.hid hany
  clear hany
  generalize ks.any p = b at *
  go_enter Try.func58, Try.ntmps58
  go_wp2_with fail
  refine c.mono ?_
  rintro e w1 ⟨⟨i, rfl, hi, h1, h2⟩, b1⟩
  have HI := Lib.hid (hi.trans HA.out)
  have HB1 := Lib.hid b1
  clear hi c b1
  by_cases h0 : 0 ≤ i
  · have hb := HI.out.1 h0
    go_wp2_with fail
    go_ret
    exact ⟨ret_bool (by simp [hb]), HB1.out⟩
  · have hb : b = false := by
      cases hb : b with
      | false => rfl
      | true => exact absurd (HI.out.2 hb) h0
    go_wp2_with fail
    go_ret
    exact ⟨ret_bool (by simp [h0, hb]), HB1.out⟩

/-- A part of a list of kinds. -/
theorem Kl.part {w : World} {ao : Option Addr} {n cap : Nat} {ks : List Nat} (h : Kl w (.slice ao n cap) ks) (lo hi : Nat) (h1 : lo ≤ hi) (h2 : hi ≤ ks.length) :
    ∃ ao' c', (Instr.slice 43 (.slice ao n cap) (some (.int .i64 (lo : Int))) (some (.int .i64 (hi : Int))) none).run Try.prog w = .ok (.slice ao' (hi - lo) c') w ∧ Kl w (.slice ao' (hi - lo) c') ((ks.drop lo).take (hi - lo)) := by
  obtain ⟨ao0, cap0, e, hl, hc2, h256, hc⟩ := h
  cases e
  have ht : Try.prog.underlying 43 = some (.slice (Try.prog.elem 43)) := by kernel_rfl
  have hz : ∀ w, (Go.sizeOf (Try.prog.elem 43)).run Try.prog w = .ok 1 w := fun w => by
    have he : Try.prog.elem 43 = 26 := by kernel_rfl
    rw [he]
    simp
  have hlen : ((ks.drop lo).take (hi - lo)).length = hi - lo := by rw [List.length_take, List.length_drop]; omega
  have hrun := run_slice_lh w 43 ao ks.length cap ht .i64 .i64 (lo : Int) (hi : Int) (by omega) (by omega) (by omega)
  rw [hz] at hrun
  refine ⟨if cap = lo then ao else ao.map (·.add (lo * 1)), cap - lo, ?_, ?_⟩
  · rw [hrun]
    simp [Result.andThen, sliced]
  · refine ⟨_, _, by rw [hlen], by rw [hlen]; omega, by rw [hlen]; omega, fun k hk => h256 k (List.mem_of_mem_drop (List.mem_of_mem_take hk)), fun hne => ?_⟩
    have hpos : lo < hi := by
      rcases Nat.lt_or_ge lo hi with h | h
      · exact h
      · exfalso
        apply hne
        rw [show hi - lo = 0 by omega, List.take_zero]
    obtain ⟨g, off, hg, rfl, hx⟩ := hc (fun h => by rw [h, List.length_nil] at h2; omega)
    refine ⟨g, off + lo, hg, ?_, fun j hj => ?_⟩
    · rw [if_neg (by omega)]
      simp [Addr.add]
    · rw [hlen] at hj
      rw [Nat.add_assoc, hx (lo + j) (by omega)]
      simp

theorem own_are (v fv : Value) (ks : List Nat) (lo hi : Int) (p : Nat → Bool) (w : World) (hK : Kl w v ks) (hF : Fn1 w fv p) :
    Calls Try.prog 39 #[v, .int .i64 lo, .int .i64 hi, fv] w fun e w' => e = .returned (.bool (areB ks lo hi p)) ∧ Below w.heap.size w w' := by
  have HK := Lib.hid hK
  have HF := Lib.hid hF
  obtain ⟨ao, cap, rfl, hl, hc2, _, _⟩ := hK
  obtain ⟨f, caps, rfl, _⟩ := hF
  obtain ⟨n, hn⟩ : ∃ n, n = ks.length := ⟨_, rfl⟩
  rw [← hn] at hl hc2
  rw [← hn] at HK ⊢
  have HN := Lib.hid hn
  obtain ⟨B, hB⟩ : ∃ B, areB ks lo hi p = B := ⟨_, rfl⟩
  rw [hB]
  by_cases hg : 0 ≤ lo ∧ lo ≤ hi ∧ hi ≤ (n : Int)
  · obtain ⟨g1, g2, g3⟩ := hg
    obtain ⟨a, rfl⟩ := Int.eq_ofNat_of_zero_le g1
    obtain ⟨b, rfl⟩ := Int.eq_ofNat_of_zero_le (show 0 ≤ hi by omega)
    have hB2 : B = ((ks.drop a).take (b - a)).all p := by
      rw [← hB]
      unfold areB
      rw [decide_eq_true (by rw [← hn]; exact ⟨g1, g2, g3⟩), Bool.true_and]
      rfl
    have HB2 := Lib.hid hB2
    have k1 : ¬ ((a : Int) < 0) := by omega
    have k2 : ¬ ((b : Int) < a) := by omega
    have k3 : ¬ ((n : Int) < b) := by omega
    have hal : Below w.heap.size w (w.alloc (.cells #[.func (.func f) #[] caps] 56)) := (Below.refl _ _).alloc (Nat.le_refl _) _
    have hbox := new_block w (.cells #[.func (.func f) #[] caps] 56)
    obtain ⟨ao', c', hrun, hpart⟩ := (HK.out.below hal).part a b (by omega) (by omega)
    have hsz : (w.alloc (.cells #[.func (.func f) #[] caps] 56)).heap.size = w.heap.size + 1 := by simp
    have hF1 := HF.out.below hal
    clear hB hB2 hn g1 g2 g3
    have HAL := Lib.hid hal
    clear hal
    have hfn : Fn1 (w.alloc (.cells #[.func (.func f) #[] caps] 56)) (.func (.func 59) #[] #[.pointer (some ⟨w.heap.size, 0, none⟩)]) (fun k => !p k) := by
      refine ⟨59, _, rfl, enters_of Try.func59 (by kernel_rfl) rfl, fun W k hW hk => ?_⟩
      have hc := cell_of ((hW.block w.heap.size (by omega)).trans hbox) 0 _ rfl
      obtain ⟨f', caps', e', he', hcalls⟩ := hF1.below hW
      cases e'
      have c := hcalls W k (Below.refl _ _) hk
      clear hcalls hrun hpart hW hbox hsz HK HAL hF1
      generalize w.heap.size = q at *
      obtain ⟨bb, hbb⟩ : ∃ bb, p k = bb := ⟨_, rfl⟩
      dsimp only
      rw [hbb] at c ⊢
      clear hbb
      go_enter Try.func59, Try.ntmps59
      go_wp2_with fail
      refine c.mono ?_
      rintro e w1 ⟨rfl, b1⟩
      have HB1 := Lib.hid b1
      clear b1
      go_wp2_with fail
      go_ret
      exact ⟨rfl, HB1.out⟩
    have c := containsFunc _ _ _ _ _ hpart hfn
    clear hpart hfn hbox hsz hF1
    have hall : B = !((ks.drop a).take (b - a)).any fun k => !p k := by
      rw [HB2.out, List.all_eq_not_any_not]
    have HALL := Lib.hid hall
    clear hall
    obtain ⟨A, hA⟩ : ∃ A, ((ks.drop a).take (b - a)).any (fun k => !p k) = A := ⟨_, rfl⟩
    rw [hA] at c HALL
    clear hA
    go_enter Try.func39, Try.ntmps39
    go_wp2_with fail
    refine c.mono ?_
    rintro e w1 ⟨rfl, b1⟩
    have HB1 := Lib.hid b1
    clear b1
    go_wp2_with fail
    go_ret
    exact ⟨ret_bool HALL.out.symm, HAL.out.trans (HB1.out.mono (by simp))⟩
  · have hBf : B = false := by
      rw [← hB]
      unfold areB
      rw [decide_eq_false (by rw [← hn]; exact hg), Bool.false_and]
    subst hBf
    clear hB hn
    have hal : Below w.heap.size w (w.alloc (.cells #[.func (.func f) #[] caps] 56)) := (Below.refl _ _).alloc (Nat.le_refl _) _
    have HAL := Lib.hid hal
    clear hal
    by_cases h1 : lo < 0
    · go_enter Try.func39, Try.ntmps39
      go_wp2_with fail
      go_ret
      exact ⟨rfl, HAL.out⟩
    · by_cases h2 : hi < lo
      · go_enter Try.func39, Try.ntmps39
        go_wp2_with fail
        go_ret
        exact ⟨rfl, HAL.out⟩
      · have h3 : (n : Int) < hi := by omega
        go_enter Try.func39, Try.ntmps39
        go_wp2_with fail
        go_ret
        exact ⟨rfl, HAL.out⟩

end Go.Proofs.Ytmddffacjkkeiaa.Nd
