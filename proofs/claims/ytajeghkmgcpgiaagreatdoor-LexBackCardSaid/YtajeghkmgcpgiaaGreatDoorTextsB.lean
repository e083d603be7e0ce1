/-
  twinstepref03: number, letter, has, by contracts.
-/
import Derived.Test.YtajeghkmgcpgiaaGreatDoorTextsA
import Derived.Lib.IndexMore
namespace Go.Proofs.YtajeghkmgcpgiaaGreatDoor
open Go.RowKit

/-! ### number -/
theorem drop_more (l : List UInt8) (i j : Nat) (h : l.length ≤ i + j) : l.drop (i + j) = [] := List.drop_of_length_le h

theorem stop_yes {s : ByteArray} {base m p a v : Nat} (h : p < s.size) (ha : a < 2147483648) (hb : hexB (byteAt s p) = true) (hv : hexV (byteAt s p) = v) (hd : v < base) :
    stopN base (m + 1) (s.data.toList.drop p) a = ((stopN base m (s.data.toList.drop (p + 1)) (a * base + v)).1, (stopN base m (s.data.toList.drop (p + 1)) (a * base + v)).2 + 1) := by
  obtain ⟨c, e, hdr⟩ := drop_at s p h
  have hx := hexD_some hb
  rw [hv, Int.toNat_natCast] at hx
  rw [hdr, stopN, if_neg (by omega), e, hx]
  simp only []
  rw [if_pos hd]
theorem stop_no {s : ByteArray} {base m p a v : Nat} (h : p < s.size) (ha : a < 2147483648) (hv : hexV (byteAt s p) = v) (hb : hexB (byteAt s p) = false ∨ base ≤ v) :
    stopN base (m + 1) (s.data.toList.drop p) a = (a, 0) := by
  obtain ⟨c, e, hdr⟩ := drop_at s p h
  rw [hdr, stopN, if_neg (by omega), e]
  cases hh : hexB (byteAt s p) with
  | false => rw [hexD_none hh]
  | true =>
    have hx := hexD_some hh
    rw [hv, Int.toNat_natCast] at hx
    rw [hx]
    simp only []
    rw [if_neg]
    rcases hb with g | g
    · rw [hh] at g; cases g
    · omega
theorem stop_over {base m a : Nat} (l : List UInt8) (ha : 2147483648 ≤ a) : stopN base m l a = (a, 0) := by
  cases m with
  | zero => rfl
  | succ m =>
    cases l with
    | nil => rfl
    | cons c r => rw [stopN, if_pos ha]
theorem stop_end {base m a p : Nat} {s : ByteArray} (h : s.size ≤ p) : stopN base m (s.data.toList.drop p) a = (a, 0) := by
  rw [List.drop_of_length_le (by have : s.data.toList.length = s.size := rfl
                                 omega)]
  cases m <;> rfl
theorem stop_zero {base a : Nat} (l : List UInt8) : stopN base 0 l a = (a, 0) := rfl

theorem ret_ii {a b c d : Int} (h : a = b) (h' : c = d) : Ending.returned (.tuple #[.int .i64 a, .int .i64 c]) = .returned (.tuple #[.int .i64 b, .int .i64 d]) := by rw [h, h']

set_option maxHeartbeats 1000000 in
set_option maxRecDepth 100000 in
theorem ref_number (s : ByteArray) (p base most : Nat) (w : World) (hs : s.size ≤ 1000000000) (hp : p ≤ 1000000010) (hbase : base ≤ 16) (hm : most ≤ 1000000000) :
    Calls Tryz.prog 100 #[.string s, .int .i64 p, .int .i64 base, .int .i64 most] w fun e w' =>
      e = .returned (.tuple #[.int .i64 (stopN base most (s.data.toList.drop p) 0).1, .int .i64 (stopN base most (s.data.toList.drop p) 0).2]) ∧ w = w' := by
  go_enter Tryz.func100, Tryz.ntmps100
  go_wp2
  go_loop [10, 11] (fun v i => ∃ (k a : Nat) (x : Int), k ≤ most ∧ i = .int .i64 k ∧ v = .int .i64 x ∧ 0 ≤ x ∧ x ≤ 34359738399 ∧ Hid (x = a) ∧ (stopN base (most - k) (s.data.toList.drop (p + k)) a).1 = (stopN base most (s.data.toList.drop p) 0).1 ∧
    (stopN base (most - k) (s.data.toList.drop (p + k)) a).2 + k = (stopN base most (s.data.toList.drop p) 0).2) (fun _ i => most - (intOf i).toNat)
  case atStart => exact ⟨0, 0, 0, by omega, rfl, rfl, by omega, by omega, Lib.hid rfl, rfl, rfl⟩
  case round =>
    obtain ⟨k, a, x, hk, rfl, rfl, hx0, hxm, HX, h1, h2⟩ := hrel
    have out : stopN base (most - k) (s.data.toList.drop (p + k)) a = (a, 0) → a = (stopN base most (s.data.toList.drop p) 0).1 ∧ k = (stopN base most (s.data.toList.drop p) 0).2 := by
      intro h
      rw [h] at h1 h2
      exact ⟨h1, by rw [← h2]; simp⟩
    by_cases hkm : k < most
    · by_cases hps : p + k < s.size
      · by_cases ha2 : a < 2147483648
        · have hx2 : x < 2147483648 := by rw [HX.out]; omega
          have hps' : (p : Int) + k < s.size := by omega
          have hx := run_index_at (P := Tryz.prog) 9 s ((p : Int) + k) (p + k) Tryz.underlying9 hps (by omega)
          have cs := fun w => ref_hex (byteAt s (p + k)) w (byteAt_lt s _)
          have hvr := hexV_range (byteAt s (p + k))
          obtain ⟨v, hv⟩ : ∃ v : Nat, hexV (byteAt s (p + k)) = v := ⟨(hexV (byteAt s (p + k))).toNat, by omega⟩
          have hv15 : v ≤ 15 := by omega
          obtain ⟨m, hmm⟩ : ∃ m, most - k = m + 1 := ⟨most - k - 1, by omega⟩
          have hyes := stop_yes (base := base) (m := m) (v := v) hps ha2
          have hno := stop_no (base := base) (m := m) (v := v) hps ha2 hv
          rw [hmm] at h1 h2 out
          rw [hv] at cs
          cases hb : hexB (byteAt s (p + k))
          · have HO := Lib.hid (out (hno (.inl hb)))
            rw [hb] at cs
            clear hyes hno hv hvr hb h1 h2 out hmm ha2
            generalize byteAt s (p + k) = y at *
            go_wp2_with fail
            refine (cs _).mono ?_
            rintro e w1 ⟨rfl, rfl⟩
            go_wp2
            go_ret2
            exact ⟨ret_ii (by rw [← HO.out.1, HX.out]) (by rw [← HO.out.2]), rfl⟩
          · rw [hb] at cs
            by_cases hd : v < base
            · have hy := hyes hb hv hd
              rw [hy] at h1 h2
              have H1 := Lib.hid h1
              have H2 := Lib.hid h2
              have hdi : decide ((base : Int) ≤ v) = false := by simp; omega
              have hdi2 : (v : Int) < base := by omega
              have hmul : x * base ≤ 2147483648 * 16 := Int.mul_le_mul (by omega) (by omega) (by omega) (by omega)
              have hmul0 : 0 ≤ x * base := Int.mul_nonneg (by omega) (by omega)
              clear hyes hno hv hvr hb h1 h2 out hy ha2
              generalize byteAt s (p + k) = y at *
              go_wp2_with fail
              refine (cs _).mono ?_
              rintro e w1 ⟨rfl, rfl⟩
              go_wp2
              go_round
              case rel => exact ⟨k + 1, a * base + v, x * base + v, by omega, by go_num, rfl, by omega, by omega, Lib.hid (by rw [HX.out]; simp), by rw [show most - (k + 1) = m from by omega]; exact H1.out, by rw [show most - (k + 1) = m from by omega, show p + (k + 1) = p + k + 1 from rfl]; have := H2.out; omega⟩
              case measure => simp only [intOf]; omega
            · have HO := Lib.hid (out (hno (.inr (by omega))))
              have hdi2 : (base : Int) ≤ v := by omega
              clear hyes hno hv hvr hb h1 h2 out hmm ha2
              generalize byteAt s (p + k) = y at *
              go_wp2_with fail
              refine (cs _).mono ?_
              rintro e w1 ⟨rfl, rfl⟩
              go_wp2
              go_ret2
              exact ⟨ret_ii (by rw [← HO.out.1, HX.out]) (by rw [← HO.out.2]), rfl⟩
        · have HO := Lib.hid (out (stop_over _ (by omega)))
          have ha2' : 2147483648 ≤ x := by rw [HX.out]; omega
          clear h1 h2 out ha2
          go_wp2
          go_ret2
          exact ⟨ret_ii (by rw [← HO.out.1, HX.out]) (by rw [← HO.out.2]), rfl⟩
      · have HO := Lib.hid (out (stop_end (by omega)))
        have hps' : ¬ (p : Int) + k < s.size := by omega
        clear h1 h2 out
        go_wp2
        go_ret2
        exact ⟨ret_ii (by rw [← HO.out.1, HX.out]) (by rw [← HO.out.2]), rfl⟩
    · obtain rfl : k = most := by omega
      have HO := Lib.hid (out (by rw [Nat.sub_self]; rfl))
      clear h1 h2 out
      go_wp2
      go_ret2
      exact ⟨ret_ii (by rw [← HO.out.1, HX.out]) (by rw [← HO.out.2]), rfl⟩

/-- Where the number is below 2^31 the reference reads as many digits as there are. -/
theorem run_ge (base : Nat) (hb : 1 ≤ base) : ∀ (m : Nat) (l : List UInt8) (a : Nat), a ≤ (runN base m l a).1
  | 0, _, a => Nat.le_refl a
  | m + 1, [], a => Nat.le_refl a
  | m + 1, c :: r, a => by
    unfold runN
    cases hexD c.toNat with
    | none => exact Nat.le_refl a
    | some d =>
      simp only []
      split
      · have := run_ge base hb m r (a * base + d)
        have h2 : a ≤ a * base := Nat.le_mul_of_pos_right a hb
        simp only []
        omega
      · exact Nat.le_refl a
theorem stop_run (base : Nat) (hb : 1 ≤ base) : ∀ (m : Nat) (l : List UInt8) (a : Nat), (runN base m l a).1 < 2147483648 → stopN base m l a = runN base m l a
  | 0, _, a, _ => rfl
  | m + 1, [], a, _ => rfl
  | m + 1, c :: r, a, h => by
    have ha : a < 2147483648 := Nat.lt_of_le_of_lt (run_ge base hb (m + 1) (c :: r) a) h
    unfold runN at h ⊢
    unfold stopN
    rw [if_neg (by omega)]
    cases hd : hexD c.toNat with
    | none => rfl
    | some d =>
      rw [hd] at h
      simp only [] at h ⊢
      split
      · rename_i hlt
        rw [if_pos hlt] at h
        rw [stop_run base hb m r _ h]
      · rfl
theorem stop_great (base : Nat) : ∀ (m : Nat) (l : List UInt8) (a : Nat), 2147483648 ≤ (runN base m l a).1 → 2147483648 ≤ (stopN base m l a).1
  | 0, _, a, h => h
  | m + 1, [], a, h => h
  | m + 1, c :: r, a, h => by
    by_cases ha : 2147483648 ≤ a
    · rw [stop_over _ ha]; exact ha
    · unfold runN at h
      unfold stopN
      rw [if_neg ha]
      cases hd : hexD c.toNat with
      | none => rw [hd] at h; exact h
      | some d =>
        rw [hd] at h
        simp only [] at h ⊢
        split
        · rename_i hlt
          rw [if_pos hlt] at h
          exact stop_great base m r _ h
        · rename_i hlt
          rw [if_neg hlt] at h
          exact h
theorem run_most (base : Nat) : ∀ (m n : Nat) (l : List UInt8) (a : Nat), l.length ≤ m → l.length ≤ n → runN base m l a = runN base n l a
  | 0, 0, _, _, _, _ => rfl
  | 0, n + 1, [], a, _, _ => rfl
  | 0, n + 1, c :: r, a, h, _ => by simp at h
  | m + 1, 0, [], a, _, _ => rfl
  | m + 1, 0, c :: r, a, _, h => by simp at h
  | m + 1, n + 1, [], a, _, _ => rfl
  | m + 1, n + 1, c :: r, a, h1, h2 => by
    unfold runN
    cases hexD c.toNat with
    | none => rfl
    | some d => simp only []; rw [run_most base m n r _ (by simpa using h1) (by simpa using h2)]

/-! ### letter -/
def theLetters : ByteArray := ⟨#[97, 98, 102, 110, 114, 116, 118, 92, 39, 34]⟩
def theirs : List Int := [7, 8, 12, 10, 13, 9, 11, 92, 39, 34]
/-- As the reference tells it. -/
def letterI (b : Nat) : Int := match letterN b with | some v => v | none => -1
theorem letter_hit : ∀ k < 10, letterI (byteAt theLetters k) = theirs.getD k 0 := by decide +kernel
theorem letter_miss : ∀ b < 256, (∀ k, k < 10 → ¬ byteAt theLetters k = b) → letterI b = -1 := by decide +kernel

set_option maxHeartbeats 1000000 in
theorem ref_letter (b : Nat) (w : World) (hb : b < 256) :
    Calls Tryz.prog 99 #[.int .u8 b] w fun e w' => e = .returned (.int .i64 (letterI b)) ∧ Below w.heap.size w w' := by
  go_enter Tryz.func99, Tryz.ntmps99
  go_wp2
  obtain ⟨W, hW⟩ : ∃ W, W = w.alloc (.cells (theirs.map (Value.int .i64)).toArray 3) := ⟨_, rfl⟩
  have hcell : ∀ k, k < 10 → W.cell? ⟨w.heap.size, k, none⟩ = some (.int .i64 (theirs.getD k 0)) := fun k hk => by
    rw [hW, World.cell?_alloc_mark]
    have : k < theirs.length := hk
    simp [this]
  have hbW : Below w.heap.size w W := by rw [hW]; exact (Below.refl _ _).alloc (Nat.le_refl _) _
  have hWe : w.alloc (.cells #[.int .i64 7, .int .i64 8, .int .i64 12, .int .i64 10, .int .i64 13, .int .i64 9, .int .i64 11, .int .i64 92, .int .i64 39, .int .i64 34] 3) = W := by rw [hW]; rfl
  rw [hWe]
  have HC := Lib.hid hcell
  clear hW hWe hcell
  go_loop [5] (fun i => ∃ k : Nat, k ≤ 10 ∧ i = .int .i64 k ∧ ∀ j, j < k → ¬ byteAt theLetters j = b) (fun i => 10 - (intOf i).toNat)
  case atStart => exact ⟨0, by omega, rfl, fun j h => by omega⟩
  case round =>
    obtain ⟨k, hk, rfl, ha⟩ := hrel
    have HA := Lib.hid ha
    clear ha
    by_cases hlt : k < 10
    · have hx := run_index_at (P := Tryz.prog) 9 theLetters (k : Int) k Tryz.underlying9 hlt rfl
      unfold theLetters at hx
      have hxl : byteAt theLetters k = byteAt ⟨#[97, 98, 102, 110, 114, 116, 118, 92, 39, 34]⟩ k := rfl
      rw [← hxl] at hx
      have hc := HC.out k hlt
      have hv := letter_hit k hlt
      have hmore : ¬ byteAt theLetters k = b → ∀ j, j < k + 1 → ¬ byteAt theLetters j = b := fun hn j hj => by
        by_cases e : j = k
        · rw [e]; exact hn
        · exact HA.out j (by omega)
      have HM := Lib.hid hmore
      clear hmore hxl
      generalize byteAt theLetters k = x at *
      generalize theirs.getD k 0 = v at *
      by_cases e : x = b
      · subst e
        have HV := Lib.hid hv
        have t1 : ((x : Int) == (x : Int)) = true := by simp
        clear hv
        go_wp2
        go_ret
        exact ⟨ret_i64 HV.out.symm, hbW⟩
      · have t1 : ((x : Int) == (b : Int)) = false := by simp; omega
        have HN := Lib.hid (HM.out e)
        clear e hv
        go_wp2
        go_round
        case rel => exact ⟨k + 1, by omega, by go_num, HN.out⟩
        case measure => simp only [intOf]; omega
    · have HN := Lib.hid (letter_miss b hb fun j hj => HA.out j (by omega))
      obtain rfl : k = 10 := by omega
      go_wp2
      go_ret
      exact ⟨ret_i64 HN.out.symm, hbW⟩

end Go.Proofs.YtajeghkmgcpgiaaGreatDoor
