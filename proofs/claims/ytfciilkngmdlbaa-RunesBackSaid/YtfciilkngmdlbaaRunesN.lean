/-
  RunesBack: the numbers that are characters.
-/
import Derived.Test.YtfciilkngmdlbaaRunesM
import Derived.Deep.QuietTactic
import Derived.BigQuiet
namespace Go.Proofs.Ytfciilkngmdlbaa
open Go.RowKit

/-- A slice that reads as one number. -/
theorem reads_one {w : World} {k : IntKind} {v : Value} {x : Int} (h : Reads w k v [x]) : ∃ g cap, v = .slice (some ⟨g, 0, none⟩) 1 cap ∧ w.cell? ⟨g, 0, none⟩ = some (.int k x) := by
  obtain ⟨ao, cap, rfl, h⟩ := h
  obtain ⟨g, _, rfl, hc⟩ := h (by simp)
  exact ⟨g, cap, rfl, hc 0 (by simp)⟩

set_option maxRecDepth 100000 in
set_option maxHeartbeats 2000000 in
theorem runesBack_invalid (n : Int) (a b : ByteArray) (w : World) (ha : (a.size : Int) ≤ 3000) (hb : (b.size : Int) ≤ 3000) (h0 : 0 ≤ n) (h1 : n ≤ 1114111) (hs : n < 55296 ∨ 57343 < n) (hva : validAt a 0 = false) :
    Calls Try.prog 5 #[.int .i64 n, .string a, .string b] w (Done w) := by
  have hv := valid_enc n h0 h1 hs
  have he := each_enc n h0 h1 hs
  have hvb := valid_behind a n h0 h1 hva
  have hl := encI_len n
  have hz := encS_size n h0 (by omega)
  have hz1 : (1 : Int) ≤ (encS n).size := by omega
  have hz6 : ((encS n).size : Int) ≤ 6 := by omega
  have hsz : (encS n).size ≤ 1000000000 := by omega
  have hsa : a.size ≤ 1000000000 := by omega
  have hsas : (a ++ encS n).size ≤ 1000000000 := by rw [ByteArray.size_append]; omega
  have HV := Lib.hid hv
  have HE := Lib.hid (show (eachAt (encS n) 0).map (·.1) = [n] ∧ (eachAt (encS n) 0).map (·.2) = [0] by rw [he]; exact ⟨rfl, rfl⟩)
  have HVA := Lib.hid hva
  have HVB := Lib.hid hvb
  clear hv he hvb hva hl hz
  rcases hs with hn | hn
  all_goals
    go_enter Try.func5, Try.ntmps5
    go_wp2_with fail
    refine (encode_in n _ h0 (by omega)).mono ?_
    rintro e w1 ⟨rfl, b1⟩
    go_wp2_with fail
    refine (each_at _ [n] [0] _ hsz HE.out.1 HE.out.2).mono ?_
    rintro e w2 ⟨v, u, rfl, hv, hu, b2⟩
    obtain ⟨g, cap, hvv, hc⟩ := reads_one hv
    obtain ⟨g', cap', huu, hc'⟩ := reads_one hu
    subst hvv huu
    clear hv hu
    go_wp2_with fail
    refine (valid_at _ true _ hsz HV.out).mono ?_
    rintro e w3 ⟨rfl, b3⟩
    clear hc hc'
    go_wp2_with fail
    refine (valid_at _ false _ hsa HVA.out).mono ?_
    rintro e w4 ⟨rfl, b4⟩
    go_wp2_with fail
    refine (valid_at _ false _ hsas HVB.out).mono ?_
    rintro e w5 ⟨rfl, b5⟩
    go_wp2_with fail
    refine (awake_any _).mono ?_
    rintro e w6 ⟨rfl, b6⟩
    go_wp2
    go_ret
    exact ⟨rfl, grew_trans (grew_trans (grew_trans (grew_trans (grew_trans b1 b2) b3) b4) b5) b6⟩

/-- What the loop of the law reads: the first characters of the whole are those of the text ahead. -/
structure Ahead (Q1 Q2 W1 W2 : List Int) (lq lw : Nat) (n sz : Int) : Prop where
  q1 : Q1.length = lq
  q2 : Q2.length = lq
  w1 : W1.length = lw
  w2 : W2.length = lw
  lt : lq < lw
  at1 : ∀ h : lq < W1.length, W1[lq] = n
  at2 : ∀ h : lq < W2.length, W2[lq] = sz
  eq1 : ∀ (i : Nat) (h : i < W1.length) (h' : i < Q1.length), W1[i] = Q1[i]
  eq2 : ∀ (i : Nat) (h : i < W2.length) (h' : i < Q2.length), W2[i] = Q2[i]

theorem ahead_of (Q W rest : List (Int × Int)) (n sz : Int) (h : W = Q ++ (n, sz) :: rest) : Ahead (Q.map (·.1)) (Q.map (·.2)) (W.map (·.1)) (W.map (·.2)) Q.length W.length n sz := by
  subst h
  refine ⟨by simp, by simp, by simp, by simp, by simp, fun h => by simp, fun h => by simp, fun i h h' => ?_, fun i h h' => ?_⟩
  · have : i < Q.length := by simpa using h'
    simp [List.getElem_append_left, this]
  · have : i < Q.length := by simpa using h'
    simp [List.getElem_append_left, this]

/-- A slice that reads as a list, its length named. -/
theorem reads_len {w : World} {k : IntKind} {v : Value} {l : List Int} {n : Nat} (h : Reads w k v l) (hn : l.length = n) : ∃ ao cap, v = .slice ao n cap ∧ (0 < n → ∃ g, g < w.heap.size ∧ ao = some ⟨g, 0, none⟩ ∧ ∀ (i : Nat) (h : i < l.length), w.cell? ⟨g, i, none⟩ = some (.int k l[i])) := by
  obtain ⟨ao, cap, rfl, h⟩ := h
  subst hn
  exact ⟨ao, cap, rfl, fun hp => h (by intro e; rw [e] at hp; simp at hp)⟩

set_option maxRecDepth 100000 in
set_option maxHeartbeats 4000000 in
theorem runesBack_valid (n : Int) (a b : ByteArray) (w : World) (ha : (a.size : Int) ≤ 3000) (hb : (b.size : Int) ≤ 3000) (h0 : 0 ≤ n) (h1 : n ≤ 1114111) (hs : n < 55296 ∨ 57343 < n) (hva : validAt a 0 = true) :
    Calls Try.prog 5 #[.int .i64 n, .string a, .string b] w (Done w) := by
  have hv := valid_enc n h0 h1 hs
  have he := each_enc n h0 h1 hs
  obtain ⟨rest, haround⟩ := each_around a b n h0 h1 hs
  have hahead := ahead_of (eachAt a 0) (eachAt (a ++ encS n ++ b) 0) rest n a.size haround
  have hl := encI_len n
  have hz := encS_size n h0 (by omega)
  have hz1 : (1 : Int) ≤ (encS n).size := by omega
  have hz6 : ((encS n).size : Int) ≤ 6 := by omega
  have hsz : (encS n).size ≤ 1000000000 := by omega
  have hsa : a.size ≤ 1000000000 := by omega
  have hst : (a ++ encS n ++ b).size ≤ 6006 := by rw [ByteArray.size_append, ByteArray.size_append]; omega
  have hst9 : (a ++ encS n ++ b).size ≤ 1000000000 := by omega
  have hlw : (eachAt (a ++ encS n ++ b) 0).length ≤ 6006 := by have := eachAt_length (a ++ encS n ++ b) (a ++ encS n ++ b).size 0 (by omega); omega
  have hlq := hahead.lt
  have HV := Lib.hid hv
  have HE := Lib.hid (show (eachAt (encS n) 0).map (·.1) = [n] ∧ (eachAt (encS n) 0).map (·.2) = [0] by rw [he]; exact ⟨rfl, rfl⟩)
  have HVA := Lib.hid hva
  obtain ⟨lq, hlqe⟩ : ∃ lq, lq = (eachAt a 0).length := ⟨_, rfl⟩
  obtain ⟨lw, hlwe⟩ : ∃ lw, lw = (eachAt (a ++ encS n ++ b) 0).length := ⟨_, rfl⟩
  rw [← hlqe, ← hlwe] at hahead hlq
  rw [← hlwe] at hlw
  obtain ⟨Q1, hq1⟩ : ∃ Q1, (eachAt a 0).map (·.1) = Q1 := ⟨_, rfl⟩
  obtain ⟨Q2, hq2⟩ : ∃ Q2, (eachAt a 0).map (·.2) = Q2 := ⟨_, rfl⟩
  obtain ⟨W1, hw1⟩ : ∃ W1, (eachAt (a ++ encS n ++ b) 0).map (·.1) = W1 := ⟨_, rfl⟩
  obtain ⟨W2, hw2⟩ : ∃ W2, (eachAt (a ++ encS n ++ b) 0).map (·.2) = W2 := ⟨_, rfl⟩
  rw [hq1, hq2, hw1, hw2] at hahead
  have HA := Lib.hid hahead
  have HQ1 := Lib.hid hq1
  have HQ2 := Lib.hid hq2
  have HW1 := Lib.hid hw1
  have HW2 := Lib.hid hw2
  clear hv he haround hahead hva hl hz hlqe hlwe hq1 hq2 hw1 hw2 hst
  have hlq' : (lq : Int) < lw := by omega
  rcases hs with hn | hn
  all_goals
    go_enter Try.func5, Try.ntmps5
    go_wp2_with fail
    refine (encode_in n _ h0 (by omega)).mono ?_
    rintro e w1 ⟨rfl, b1⟩
    go_wp2_with fail
    refine (each_at _ [n] [0] _ hsz HE.out.1 HE.out.2).mono ?_
    rintro e w2 ⟨v, u, rfl, hv, hu, b2⟩
    obtain ⟨g, cap, hvv, hc⟩ := reads_one hv
    obtain ⟨g', cap', huu, hc'⟩ := reads_one hu
    subst hvv huu
    clear hv hu
    go_wp2_with fail
    refine (valid_at _ true _ hsz HV.out).mono ?_
    rintro e w3 ⟨rfl, b3⟩
    clear hc hc'
    go_wp2_with fail
    refine (valid_at _ true _ hsa HVA.out).mono ?_
    rintro e w4 ⟨rfl, b4⟩
    go_wp2_with fail
    refine (each_at _ Q1 Q2 _ hsa HQ1.out HQ2.out).mono ?_
    rintro e w5 ⟨vq, uq, rfl, hvq, huq, b5⟩
    go_wp2_with fail
    refine (each_at _ W1 W2 _ hst9 HW1.out HW2.out).mono ?_
    rintro e w6 ⟨vw, uw, rfl, hvw, huw, b6⟩
    have b16 := grew_trans (grew_trans (grew_trans (grew_trans (grew_trans b1 b2) b3) b4) b5) b6
    have hvq6 := hvq.below b6
    have huq6 := huq.below b6
    obtain ⟨vao, vcap, hvqe, hvqc⟩ := reads_len hvq6 HA.out.q1
    obtain ⟨uao, ucap, huqe, huqc⟩ := reads_len huq6 HA.out.q2
    obtain ⟨wao, wcap, hvwe, hvwc⟩ := reads_len hvw HA.out.w1
    obtain ⟨xao, xcap, huwe, huwc⟩ := reads_len huw HA.out.w2
    obtain ⟨g1, hg1, hwao, hwc⟩ := hvwc (by omega)
    obtain ⟨g2, hg2, hxao, hxc⟩ := huwc (by omega)
    subst hwao hxao hvqe huqe hvwe huwe
    have hcw : w6.cell? ⟨g1, lq, none⟩ = some (.int .i32 n) := by rw [hwc lq (by rw [HA.out.w1]; exact hlq), HA.out.at1]
    have hcx : w6.cell? ⟨g2, lq, none⟩ = some (.int .i64 a.size) := by rw [hxc lq (by rw [HA.out.w2]; exact hlq), HA.out.at2]
    have HWC := Lib.hid hwc
    have HXC := Lib.hid hxc
    have HVC := Lib.hid hvqc
    have HUC := Lib.hid huqc
    clear hvq huq hvw huw hvq6 huq6 hvqc huqc hvwc huwc hwc hxc b1 b2 b3 b4 b5 b6
    go_wp2
    clear hcw hcx
    go_loopw [15] (fun i wr => ∃ k : Nat, k ≤ lq ∧ i = .int .i64 k ∧ Below w6.heap.size w6 wr) (fun i _ => lq - (intOf i).toNat)
    case atStart => exact ⟨0, by omega, rfl, Below.refl _ _⟩
    case round =>
      obtain ⟨k, hk, rfl, hb6⟩ := hrel
      by_cases hlt : k < lq
      · obtain ⟨g3, hg3, hvao, hvc⟩ := HVC.out (by omega)
        obtain ⟨g4, hg4, huao, huc⟩ := HUC.out (by omega)
        subst hvao huao
        have k1 : k < Q1.length := by rw [HA.out.q1]; exact hlt
        have k2 : k < Q2.length := by rw [HA.out.q2]; exact hlt
        have k3 : k < W1.length := by rw [HA.out.w1]; omega
        have k4 : k < W2.length := by rw [HA.out.w2]; omega
        have c1 : wr.cell? ⟨g1, k, none⟩ = some (.int .i32 Q1[k]) := by rw [hb6.cell (p := ⟨g1, k, none⟩) hg1, HWC.out k k3, HA.out.eq1 k k3 k1]
        have c2 : wr.cell? ⟨g2, k, none⟩ = some (.int .i64 Q2[k]) := by rw [hb6.cell (p := ⟨g2, k, none⟩) hg2, HXC.out k k4, HA.out.eq2 k k4 k2]
        have c3 : wr.cell? ⟨g3, k, none⟩ = some (.int .i32 Q1[k]) := by rw [hb6.cell (p := ⟨g3, k, none⟩) hg3]; exact hvc k k1
        have c4 : wr.cell? ⟨g4, k, none⟩ = some (.int .i64 Q2[k]) := by rw [hb6.cell (p := ⟨g4, k, none⟩) hg4]; exact huc k k2
        obtain ⟨x, hx⟩ : ∃ x, x = Q1[k] := ⟨_, rfl⟩
        obtain ⟨y, hy⟩ : ∃ y, y = Q2[k] := ⟨_, rfl⟩
        rw [← hx] at c1 c3
        rw [← hy] at c2 c4
        have klw : (k : Int) < lw := by omega
        clear hx hy hvc huc k1 k2 k3 k4
        go_wp2
        go_quiet (fail)
        go_wp2
        go_roundw
        case rel => exact ⟨k + 1, by omega, by go_num, hb6.trans ⟨rfl, rfl, rfl, Nat.le_refl _, fun _ _ => rfl⟩⟩
        case measure => simp only [intOf]; omega
      · go_wp2_with fail
        refine (awake_any _).mono ?_
        rintro e w9 ⟨rfl, b9⟩
        go_wp2
        go_ret
        exact ⟨rfl, grew_trans (grew_trans b16 hb6) b9⟩

theorem runesBack_walk (n : Int) (a b : ByteArray) (w : World) :
    Calls Try.prog 5 #[.int .i64 n, .string a, .string b] w fun e w' => e = .returned (.bool true) ∧ Below w.heap.size w w' := by
  by_cases hlong : 3000 < a.size ∨ 3000 < b.size
  · exact runesBack_long n a b w hlong
  by_cases hout : n < 0 ∨ 2147483647 < n
  · exact runesBack_out n a b w (by omega) (by omega) hout
  by_cases hno : 1114111 < n ∨ 55296 ≤ n ∧ n ≤ 57343
  · exact runesBack_none n a b w (by omega) (by omega) (by omega) (by omega) hno
  by_cases hva : validAt a 0 = true
  · exact runesBack_valid n a b w (by omega) (by omega) (by omega) (by omega) (by omega) hva
  · exact runesBack_invalid n a b w (by omega) (by omega) (by omega) (by omega) (by omega) (by simpa using hva)

end Go.Proofs.Ytfciilkngmdlbaa
