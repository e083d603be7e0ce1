/-
  Layer 5: slices.Equal of texts, alike.
-/
import Derived.Test.YtmddffacjkkeiaaDvNode
import Derived.Deep.RegionHeld3
import Derived.Deep.QuietTactic
import Derived.BigQuiet
namespace Go.Proofs.Ytmddffacjkkeiaa.Nd
open Go Go.RowKit Go.ChangeShapes Go.WideShapes Go.Shelf

theorem text_inj {x y : ByteArray} (h : x.toList = y.toList) : x = y := by
  rw [ByteArray.toList_eq, ByteArray.toList_eq] at h
  exact ByteArray.ext (Array.ext' h)

set_option maxHeartbeats 4000000 in
theorem own_equal (an am : Option Addr) (cn cm : Nat) (xs ys : List ByteArray) (w : World) (hX : Lst w (.slice an xs.length cn) (xs.map .string)) (hY : Lst w (.slice am ys.length cm) (ys.map .string)) (h1 : xs.length ≤ 1000000000000000) (h2 : ys.length ≤ 1000000000000000) :
    Calls Try.prog 49 #[.slice an xs.length cn, .slice am ys.length cm] w fun e w' => e = .returned (.bool (decide (xs = ys))) ∧ Below w.heap.size w w' := by
  have HX := Lib.hid hX
  have HY := Lib.hid hY
  obtain ⟨Z, hZ⟩ : ∃ Z, decide (xs = ys) = Z := ⟨_, rfl⟩
  rw [hZ]
  have HZ := Lib.hid hZ
  obtain ⟨n, hn⟩ : ∃ n, n = xs.length := ⟨_, rfl⟩
  obtain ⟨m, hm⟩ : ∃ m, m = ys.length := ⟨_, rfl⟩
  rw [← hn] at HX h1 ⊢
  rw [← hm] at HY h2 ⊢
  have HN := Lib.hid hn
  have HM := Lib.hid hm
  clear hX hY hZ hn hm
  by_cases hnm : n = m
  case neg =>
    have e1 : ((n : Int) != (m : Int)) = true := by rw [bne_iff_ne]; omega
    have HNM := Lib.hid hnm
    clear hnm
    go_enter Try.func49, Try.ntmps49
    go_wp2_with fail
    go_ret
    exact ⟨ret_bool (by rw [← HZ.out]; exact (decide_eq_false (fun h => HNM.out (by rw [HN.out, HM.out, h]))).symm), Below.refl _ _⟩
  subst hnm
  go_enter Try.func49, Try.ntmps49
  go_wp2_with fail
  go_loopg [13] n (fun r i wr => ∃ k : Nat, r = n - k ∧ i = .int .i64 (k : Int) ∧ k ≤ n ∧ Below w.heap.size w wr ∧ ∀ i, i < k → xs[i]? = ys[i]?)
  case atStart => exact ⟨0, rfl, rfl, Nat.zero_le _, Below.refl _ _, fun i hi => absurd hi (by omega)⟩
  case round =>
    obtain ⟨k, rfl, rfl, hk, hb, heq⟩ := hrel
    have HEQ := Lib.hid heq
    have HB := Lib.hid hb
    clear heq hb
    by_cases hlt : k < n
    · have hk1 : k < xs.length := by have := HN.out; omega
      have hk2 : k < ys.length := by have := HM.out; omega
      obtain ⟨g, off, rfl, c1⟩ := (HX.out.below HB.out).text hk1
      obtain ⟨g', off', rfl, c2⟩ := (HY.out.below HB.out).text hk2
      obtain ⟨x, hx⟩ : ∃ x, xs[k] = x := ⟨_, rfl⟩
      obtain ⟨y, hy⟩ : ∃ y, ys[k] = y := ⟨_, rfl⟩
      rw [hx] at c1
      rw [hy] at c2
      have hxo : xs[k]? = some x := by rw [List.getElem?_eq_getElem hk1, hx]
      have hyo : ys[k]? = some y := by rw [List.getElem?_eq_getElem hk2, hy]
      have HXO := Lib.hid hxo
      have HYO := Lib.hid hyo
      clear hx hy hxo hyo
      have hlt' : (k : Int) < n := by omega
      by_cases hxy : x = y
      · subst hxy
        have e1 : (x.toList == x.toList) = true := by rw [beq_iff_eq]
        go_wp2_with fail
        go_quiet (fail)
        go_wp2_with fail
        go_roundg (n - (k + 1))
        case measure => omega
        case rel => exact ⟨k + 1, rfl, by go_num, by omega, below_drewN HB.out nq, fun i hi => by
          rcases Nat.lt_or_ge i k with h1 | h1
          · exact HEQ.out i h1
          · obtain rfl : i = k := by omega
            rw [HXO.out, HYO.out]⟩
      · have e1 : (x.toList == y.toList) = false := by rw [beq_eq_false_iff_ne]; exact fun h => hxy (text_inj h)
        have HXY := Lib.hid hxy
        go_wp2_with fail
        go_quiet (fail)
        go_wp2_with fail
        go_ret
        exact ⟨ret_bool (by rw [← HZ.out]; exact (decide_eq_false (fun h => HXY.out (by
          have h1 := HXO.out
          have h2 := HYO.out
          rw [h, h2] at h1
          exact (Option.some.inj h1).symm))).symm), below_drewN HB.out nq⟩
    · obtain rfl : k = n := by omega
      have hlt' : ¬ (k : Int) < k := by omega
      go_wp2_with fail
      go_ret
      exact ⟨ret_bool (by rw [← HZ.out]; exact (decide_eq_true (by
        refine List.ext_getElem? fun i => ?_
        rcases Nat.lt_or_ge i k with h1 | h1
        · exact HEQ.out i h1
        · rw [List.getElem?_eq_none (by have := HN.out; omega), List.getElem?_eq_none (by have := HM.out; omega)])).symm), HB.out⟩

def likeB (n m : Nd) : Bool := decide (n.k = m.k) && decide (n.n = m.n) && decide (n.name = m.name) && decide (n.names = m.names) && decide (n.kids.length = m.kids.length)
theorem likeB_iff {n m : Nd} : likeB n m = true ↔ Like n m := by
  unfold likeB Like
  simp only [Bool.and_eq_true, decide_eq_true_iff, and_assoc]

set_option maxHeartbeats 8000000 in
theorem alike_at (k1 k2 : Nat) (n1 n2 : Int) (s1 s2 : ByteArray) (an1 an2 ak1 ak2 : Option Addr) (xs ys : List ByteArray) (cn1 cn2 lk1 lk2 ck1 ck2 : Nat) (li1 li2 : Int) (w : World)
    (hX : Lst w (.slice an1 xs.length cn1) (xs.map .string)) (hY : Lst w (.slice an2 ys.length cn2) (ys.map .string)) (h1 : xs.length ≤ 1000000000000000) (h2 : ys.length ≤ 1000000000000000) (R : Bool)
    (hR : (decide (k1 = k2) && decide (n1 = n2) && decide (s1 = s2) && decide (xs = ys) && decide (lk1 = lk2)) = R) :
    Calls Try.prog 31 #[.agg #[.int .u8 (k1 : Int), .int .i64 n1, .string s1, .slice an1 xs.length cn1, .slice ak1 lk1 ck1, .int .i64 li1], .agg #[.int .u8 (k2 : Int), .int .i64 n2, .string s2, .slice an2 ys.length cn2, .slice ak2 lk2 ck2, .int .i64 li2]] w fun e w' => e = .returned (.bool R) ∧ Below w.heap.size w w' := by
  obtain ⟨q1, hq1⟩ : ∃ q1, xs.length = q1 := ⟨_, rfl⟩
  obtain ⟨q2, hq2⟩ : ∃ q2, ys.length = q2 := ⟨_, rfl⟩
  obtain ⟨E, hE⟩ : ∃ E, decide (xs = ys) = E := ⟨_, rfl⟩
  have ce : ∀ W, Below w.heap.size w W → Calls Try.prog 49 #[.slice an1 q1 cn1, .slice an2 q2 cn2] W fun e w' => e = .returned (.bool E) ∧ Below W.heap.size W w' := fun W hW => by
    rw [← hq1, ← hq2, ← hE]
    exact own_equal an1 an2 cn1 cn2 xs ys W (hX.below hW) (hY.below hW) h1 h2
  rw [hE] at hR
  rw [hq1, hq2]
  have hB : Below w.heap.size w ((w.alloc (.cells #[.int .u8 (k1 : Int), .int .i64 n1, .string s1, .slice an1 q1 cn1, .slice ak1 lk1 ck1, .int .i64 li1] 30)).alloc (.cells #[.int .u8 (k2 : Int), .int .i64 n2, .string s2, .slice an2 q2 cn2, .slice ak2 lk2 ck2, .int .i64 li2] 30)) := ((Below.refl _ _).alloc (Nat.le_refl _) _).alloc (by simp) _
  have hX1 : ((w.alloc (.cells #[.int .u8 (k1 : Int), .int .i64 n1, .string s1, .slice an1 q1 cn1, .slice ak1 lk1 ck1, .int .i64 li1] 30)).alloc (.cells #[.int .u8 (k2 : Int), .int .i64 n2, .string s2, .slice an2 q2 cn2, .slice ak2 lk2 ck2, .int .i64 li2] 30)).heap[w.heap.size]? = some (.cells #[.int .u8 (k1 : Int), .int .i64 n1, .string s1, .slice an1 q1 cn1, .slice ak1 lk1 ck1, .int .i64 li1] 30 (0, 0)) := (Below.heap_alloc _ _ _ (by simp)).trans (new_block w _)
  have hX2 : ((w.alloc (.cells #[.int .u8 (k1 : Int), .int .i64 n1, .string s1, .slice an1 q1 cn1, .slice ak1 lk1 ck1, .int .i64 li1] 30)).alloc (.cells #[.int .u8 (k2 : Int), .int .i64 n2, .string s2, .slice an2 q2 cn2, .slice ak2 lk2 ck2, .int .i64 li2] 30)).heap[w.heap.size + 1]? = some (.cells #[.int .u8 (k2 : Int), .int .i64 n2, .string s2, .slice an2 q2 cn2, .slice ak2 lk2 ck2, .int .i64 li2] 30 (0, 0)) := by
    have := new_block (w.alloc (.cells #[.int .u8 (k1 : Int), .int .i64 n1, .string s1, .slice an1 q1 cn1, .slice ak1 lk1 ck1, .int .i64 li1] 30)) (.cells #[.int .u8 (k2 : Int), .int .i64 n2, .string s2, .slice an2 q2 cn2, .slice ak2 lk2 ck2, .int .i64 li2] 30)
    rwa [World.size_alloc] at this
  have HB := Lib.hid hB
  have HX1 := Lib.hid hX1
  have HX2 := Lib.hid hX2
  have CE := Lib.hid ce
  have a0 := cell_of hX1 0 _ rfl
  have a1 := cell_of hX1 1 _ rfl
  have a2 := cell_of hX1 2 _ rfl
  have a3 := cell_of hX1 3 _ rfl
  have a4 := cell_of hX1 4 _ rfl
  have b0 := cell_of hX2 0 _ rfl
  have b1 := cell_of hX2 1 _ rfl
  have b2 := cell_of hX2 2 _ rfl
  have b3 := cell_of hX2 3 _ rfl
  have b4 := cell_of hX2 4 _ rfl
  clear hX hY h1 h2 hq1 hq2 hE ce hB hX1 hX2
  by_cases d1 : k1 = k2
  case neg =>
    have e1 : ((k1 : Int) == (k2 : Int)) = false := by rw [beq_eq_false_iff_ne]; omega
    rw [decide_eq_false d1] at hR
    have HR := Lib.hid hR
    clear hR d1
    go_enter Try.func31, Try.ntmps31
    go_wp2_with fail
    go_ret
    exact ⟨ret_bool (by rw [← HR.out]; rfl), HB.out⟩
  have e1 : ((k1 : Int) == (k2 : Int)) = true := by rw [beq_iff_eq]; omega
  rw [decide_eq_true d1] at hR
  clear d1
  by_cases d2 : n1 = n2
  case neg =>
    have e2 : (n1 == n2) = false := by rw [beq_eq_false_iff_ne]; exact d2
    rw [decide_eq_false d2] at hR
    have HR := Lib.hid hR
    clear hR d2
    go_enter Try.func31, Try.ntmps31
    go_wp2_with fail
    go_ret
    exact ⟨ret_bool (by rw [← HR.out]; rfl), HB.out⟩
  have e2 : (n1 == n2) = true := by rw [beq_iff_eq]; exact d2
  rw [decide_eq_true d2] at hR
  clear d2
  by_cases d3 : s1 = s2
  case neg =>
    have e3 : (s1.toList == s2.toList) = false := by rw [beq_eq_false_iff_ne]; exact fun h => d3 (text_inj h)
    rw [decide_eq_false d3] at hR
    have HR := Lib.hid hR
    clear hR d3
    go_enter Try.func31, Try.ntmps31
    go_wp2_with fail
    go_ret
    exact ⟨ret_bool (by rw [← HR.out]; rfl), HB.out⟩
  have e3 : (s1.toList == s2.toList) = true := by rw [beq_iff_eq, d3]
  rw [decide_eq_true d3] at hR
  clear d3
  cases E with
  | false =>
    have HR := Lib.hid hR
    clear hR
    go_enter Try.func31, Try.ntmps31
    go_wp2_with fail
    refine (CE.out _ HB.out).mono ?_
    rintro e w' ⟨rfl, b⟩
    have HB' := Lib.hid (HB.out.trans (b.mono HB.out.size))
    clear b
    go_wp2_with fail
    go_ret
    exact ⟨ret_bool (by rw [← HR.out]; rfl), HB'.out⟩
  | true =>
    have HF : ∀ w', Below ((w.alloc (.cells #[.int .u8 (k1 : Int), .int .i64 n1, .string s1, .slice an1 q1 cn1, .slice ak1 lk1 ck1, .int .i64 li1] 30)).alloc (.cells #[.int .u8 (k2 : Int), .int .i64 n2, .string s2, .slice an2 q2 cn2, .slice ak2 lk2 ck2, .int .i64 li2] 30)).heap.size ((w.alloc (.cells #[.int .u8 (k1 : Int), .int .i64 n1, .string s1, .slice an1 q1 cn1, .slice ak1 lk1 ck1, .int .i64 li1] 30)).alloc (.cells #[.int .u8 (k2 : Int), .int .i64 n2, .string s2, .slice an2 q2 cn2, .slice ak2 lk2 ck2, .int .i64 li2] 30)) w' → w'.cell? ⟨w.heap.size, 4, none⟩ = some (.slice ak1 lk1 ck1) ∧ w'.cell? ⟨w.heap.size + 1, 4, none⟩ = some (.slice ak2 lk2 ck2) := fun w' b =>
      ⟨cell_of ((b.block _ ((Array.getElem?_eq_some_iff.1 HX1.out).1)).trans HX1.out) 4 _ rfl, cell_of ((b.block _ ((Array.getElem?_eq_some_iff.1 HX2.out).1)).trans HX2.out) 4 _ rfl⟩
    have HF2 := Lib.hid HF
    clear HF
    by_cases d5 : lk1 = lk2
    · have e5 : ((lk1 : Int) == (lk2 : Int)) = true := by rw [beq_iff_eq]; omega
      rw [decide_eq_true d5] at hR
      have HR := Lib.hid hR
      clear hR d5
      go_enter Try.func31, Try.ntmps31
      go_wp2_with fail
      refine (CE.out _ HB.out).mono ?_
      rintro e w' ⟨rfl, b⟩
      obtain ⟨f1, f2⟩ := HF2.out w' b
      have HB' := Lib.hid (HB.out.trans (b.mono HB.out.size))
      clear b
      go_wp2_with fail
      go_ret
      exact ⟨ret_bool (by rw [← HR.out]; rfl), HB'.out⟩
    · have e5 : ((lk1 : Int) == (lk2 : Int)) = false := by rw [beq_eq_false_iff_ne]; omega
      rw [decide_eq_false d5] at hR
      have HR := Lib.hid hR
      clear hR d5
      go_enter Try.func31, Try.ntmps31
      go_wp2_with fail
      refine (CE.out _ HB.out).mono ?_
      rintro e w' ⟨rfl, b⟩
      obtain ⟨f1, f2⟩ := HF2.out w' b
      have HB' := Lib.hid (HB.out.trans (b.mono HB.out.size))
      clear b
      go_wp2_with fail
      go_ret
      exact ⟨ret_bool (by rw [← HR.out]; rfl), HB'.out⟩

/-- alike(x, y): all but the line and the kids' places. -/
theorem own_alike (vx vy : Value) (n m : Nd) (w : World) (hx : NdV w vx n) (hy : NdV w vy m) :
    Calls Try.prog 31 #[vx, vy] w fun e w' => e = .returned (.bool (likeB n m)) ∧ Below w.heap.size w w' := by
  obtain ⟨an1, cn1, ak1, ck1, rfl, l1, _, f1⟩ := hx
  obtain ⟨an2, cn2, ak2, ck2, rfl, l2, _, f2⟩ := hy
  exact alike_at _ _ _ _ _ _ _ _ _ _ n.names m.names _ _ _ _ _ _ _ _ w l1 l2 (by have := f1.2.2.2.2.2.1; omega) (by have := f2.2.2.2.2.2.1; omega) _ rfl

end Go.Proofs.Ytmddffacjkkeiaa.Nd
