/-
  Layer 5: lists of kinds against lists of functions: list, row, pairs.
-/
import Derived.Test.YtmddffacjkkeiaaDvFn
namespace Go.Proofs.Ytmddffacjkkeiaa.Nd
open Go Go.RowKit Go.ChangeShapes Go.WideShapes Go.Shelf

/-- Functions of kinds, in a row. -/
def Fs (w : World) (v : Value) (ps : List (Nat → Bool)) : Prop :=
  ∃ ao cap, v = .slice ao ps.length cap ∧ ps.length ≤ 1000 ∧ (ps ≠ [] → ∃ g off, g < w.heap.size ∧ ao = some ⟨g, off, none⟩ ∧ ∀ (j : Nat) (h : j < ps.length), ∃ fv, w.cell? ⟨g, off + j, none⟩ = some fv ∧ Fn1 w fv ps[j])
theorem Fs.below {w w' : World} {v : Value} {ps : List (Nat → Bool)} (h : Fs w v ps) (hb : Below w.heap.size w w') : Fs w' v ps := by
  obtain ⟨ao, cap, rfl, hl, hc⟩ := h
  refine ⟨ao, cap, rfl, hl, fun hne => ?_⟩
  obtain ⟨g, off, hg, rfl, hx⟩ := hc hne
  refine ⟨g, off, Nat.lt_of_lt_of_le hg hb.size, rfl, fun j h => ?_⟩
  obtain ⟨fv, h1, h2⟩ := hx j h
  exact ⟨fv, by rw [hb.cell (p := ⟨g, off + j, none⟩) hg]; exact h1, h2.below hb⟩
theorem Fs.at {w : World} {ao : Option Addr} {n cap : Nat} {ps : List (Nat → Bool)} (h : Fs w (.slice ao n cap) ps) {j : Nat} (hj : j < ps.length) : ∃ g off f caps, ao = some ⟨g, off, none⟩ ∧ w.cell? ⟨g, off + j, none⟩ = some (.func (.func f) #[] caps) ∧ (∀ args W, (callFunc f args).run Try.prog W = .ok (.enter f args) W) ∧ ∀ W (k : Nat), Below w.heap.size w W → k < 256 → Calls Try.prog f (#[.int .u8 (k : Int)] ++ caps) W fun e W' => e = .returned (.bool (ps[j] k)) ∧ Below W.heap.size W W' := by
  obtain ⟨ao', cap', e, _, hc⟩ := h
  cases e
  obtain ⟨g, off, _, rfl, hx⟩ := hc (fun h => by rw [h] at hj; cases hj)
  obtain ⟨fv, h1, f, caps, rfl, he, hcalls⟩ := hx j hj
  exact ⟨g, off, f, caps, rfl, h1, he, hcalls⟩

theorem rowL_iff : ∀ (ks : List Nat) (ps : List (Nat → Bool)), rowL ks ps = true ↔ ks.length = ps.length ∧ ∀ (i k : Nat) (p : Nat → Bool), ks[i]? = some k → ps[i]? = some p → p k = true
  | [], [] => ⟨fun _ => ⟨rfl, fun i k p h => (by cases h)⟩, fun _ => rfl⟩
  | [], _ :: _ => ⟨fun h => (by cases h), fun h => (by cases h.1)⟩
  | _ :: _, [] => ⟨fun h => (by cases h), fun h => (by cases h.1)⟩
  | k :: ks, p :: ps => by
    rw [rowL, Bool.and_eq_true, rowL_iff ks ps]
    constructor
    · rintro ⟨h1, h2, h3⟩
      refine ⟨by rw [List.length_cons, List.length_cons, h2], fun i k' p' hk hp => ?_⟩
      cases i with
      | zero => cases hk; cases hp; exact h1
      | succ i => exact h3 i k' p' hk hp
    · rintro ⟨h1, h2⟩
      exact ⟨h2 0 k p rfl rfl, by rw [List.length_cons, List.length_cons] at h1; omega, fun i k' p' hk hp => h2 (i + 1) k' p' hk hp⟩

theorem own_row (v vs : Value) (ks : List Nat) (ps : List (Nat → Bool)) (w : World) (hK : Kl w v ks) (hF : Fs w vs ps) :
    Calls Try.prog 41 #[v, vs] w fun e w' => e = .returned (.bool (rowL ks ps)) ∧ Below w.heap.size w w' := by
  have HK := Lib.hid hK
  have HF := Lib.hid hF
  obtain ⟨ao, cap, rfl, hl, hc2, _, _⟩ := hK
  obtain ⟨ap, capp, rfl, hlp, _⟩ := hF
  have HR := Lib.hid (rowL_iff ks ps)
  obtain ⟨B, hB⟩ : ∃ B, rowL ks ps = B := ⟨_, rfl⟩
  rw [hB] at HR ⊢
  clear hB
  obtain ⟨n, hn⟩ : ∃ n, n = ks.length := ⟨_, rfl⟩
  obtain ⟨m, hm⟩ : ∃ m, m = ps.length := ⟨_, rfl⟩
  rw [← hn] at hl hc2
  rw [← hm] at hlp
  rw [← hn] at HK ⊢
  rw [← hm] at HF ⊢
  rw [← hn, ← hm] at HR
  have HN := Lib.hid hn
  have HM := Lib.hid hm
  clear hn hm
  by_cases hnm : n = m
  · subst hnm
    go_enter Try.func41, Try.ntmps41
    go_wp2_with fail
    go_loopg [14] n (fun r i wr => ∃ k : Nat, r = n - k ∧ i = .int .i64 (k : Int) ∧ k ≤ n ∧ Below w.heap.size w wr ∧ ∀ i (hi : i < k) (y : Nat) (p : Nat → Bool), ks[i]? = some y → ps[i]? = some p → p y = true)
    case atStart => exact ⟨0, rfl, rfl, Nat.zero_le _, Below.refl _ _, fun i hi => absurd hi (by omega)⟩
    case round =>
      obtain ⟨k, rfl, rfl, hk, hb, hno⟩ := hrel
      have HNO := Lib.hid hno
      have HB := Lib.hid hb
      clear hno hb
      by_cases hlt : k < n
      · have hkl : k < ks.length := by have := HN.out; omega
        have hkp : k < ps.length := by have := HM.out; omega
        obtain ⟨g, off, rfl, hcell, h256⟩ := (HK.out.below HB.out).at hkl
        obtain ⟨y, hy⟩ : ∃ y, ks[k] = y := ⟨_, rfl⟩
        rw [hy] at hcell h256
        have HY := Lib.hid hy
        clear hy
        obtain ⟨gp, offp, f, caps, rfl, hcellp, he, hcalls⟩ := (HF.out.below HB.out).at hkp
        obtain ⟨p, hp⟩ : ∃ p, ps[k] = p := ⟨_, rfl⟩
        rw [hp] at hcalls
        have HP := Lib.hid hp
        clear hp
        have hlt' : (k : Int) < n := by omega
        have c := hcalls wr y (Below.refl _ _) h256
        clear hcalls
        obtain ⟨b, hb⟩ : ∃ b, p y = b := ⟨_, rfl⟩
        rw [hb] at c
        have HPB := Lib.hid hb
        clear hb
        cases b with
        | false =>
          go_wp2_with fail
          refine c.mono ?_
          rintro e w1 ⟨rfl, b1⟩
          have HB1 := Lib.hid b1
          clear b1
          go_wp2_with fail
          go_ret
          refine ⟨ret_bool ?_, grew_trans HB.out HB1.out⟩
          cases B with
          | false => rfl
          | true =>
            exfalso
            have := (HR.out.1 rfl).2 k y p (by rw [List.getElem?_eq_getElem hkl, HY.out]) (by rw [List.getElem?_eq_getElem hkp, HP.out])
            rw [HPB.out] at this
            cases this
        | true =>
          go_wp2_with fail
          refine c.mono ?_
          rintro e w1 ⟨rfl, b1⟩
          have HB1 := Lib.hid b1
          clear b1
          go_wp2_with fail
          go_roundg (n - (k + 1))
          case measure => omega
          case rel => exact ⟨k + 1, rfl, by go_num, by omega, grew_trans HB.out HB1.out, fun i hi z q h h' => by
            rcases Nat.lt_or_ge i k with h1 | h1
            · exact HNO.out i h1 z q h h'
            · obtain rfl : i = k := by omega
              rw [List.getElem?_eq_getElem hkl, HY.out] at h
              rw [List.getElem?_eq_getElem hkp, HP.out] at h'
              rw [← Option.some.inj h, ← Option.some.inj h']; exact HPB.out⟩
      · obtain rfl : k = n := by omega
        have hlt' : ¬ (k : Int) < k := by omega
        go_wp2_with fail
        go_ret
        refine ⟨ret_bool ?_, HB.out⟩
        exact (HR.out.2 ⟨by first | trivial | rfl, fun i y p h h' => HNO.out i (by have := (List.getElem?_eq_some_iff.1 h).1; have := HN.out; omega) y p h h'⟩).symm
  · have hnm' : ¬ ((n : Int) = m) := by omega
    have hBf : B = false := by
      cases B with
      | false => rfl
      | true => exact absurd (HR.out.1 rfl).1 hnm
    subst hBf
    go_enter Try.func41, Try.ntmps41
    go_wp2_with fail
    go_ret
    exact ⟨rfl, Below.refl _ _⟩

theorem own_list (v : Value) (ks : List Nat) (lo hi least : Int) (w : World) (hK : Kl w v ks) (h1 : 0 ≤ lo) (h2 : lo ≤ 1000000000) (h3 : -1 ≤ hi) (h4 : hi ≤ 1000000000) :
    Calls Try.prog 42 #[v, .int .i64 lo, .int .i64 hi, .int .i64 least] w fun e w' => e = .returned (.bool (listB ks lo hi least)) ∧ Below w.heap.size w w' := by
  have c := own_are v (.func (.func 27) #[] #[]) ks lo hi exprK w hK (fn_expr w)
  obtain ⟨ao, cap, rfl, hl, hc2, _, hr⟩ := hK
  clear hr
  have e1 : IntKind.i64.wrap (hi - lo) = hi - lo := IntWalk.i64_in _ (by omega)
  unfold listB
  generalize areB ks lo hi exprK = A at *
  generalize ks.length = n at *
  by_cases g1 : least ≤ hi - lo
  · by_cases g2 : hi - lo ≤ 200
    · rw [decide_eq_true ⟨g1, g2⟩, Bool.true_and]
      go_enter Try.func42, Try.ntmps42
      go_wp2_with fail
      refine c.mono ?_
      rintro e w1 ⟨rfl, b1⟩
      have HB1 := Lib.hid b1
      clear b1
      go_wp2_with fail
      go_ret
      exact ⟨rfl, HB1.out⟩
    · rw [decide_eq_false (fun h => g2 h.2), Bool.false_and]
      go_enter Try.func42, Try.ntmps42
      go_wp2_with fail
      go_ret
      exact ⟨rfl, Below.refl _ _⟩
  · rw [decide_eq_false (fun h => g1 h.1), Bool.false_and]
    go_enter Try.func42, Try.ntmps42
    go_wp2_with fail
    go_ret
    exact ⟨rfl, Below.refl _ _⟩

/-- A literal of kinds, just laid. -/
theorem kl_lit (w : World) (t : TypeId) (cs : Array Value) (ks : List Nat) (g n : Nat) (he : cs.toList = ks.map (fun (k : Nat) => Value.int .u8 (k : Int))) (hl : ks.length ≤ 1000000000) (h256 : ∀ k ∈ ks, k < 256) (hg : g = w.heap.size) (hn : n = ks.length) :
    Kl (w.alloc (.cells cs t)) (.slice (some ⟨g, 0, none⟩) n n) ks := by
  subst hg hn
  refine ⟨_, _, rfl, Nat.le_refl _, hl, h256, fun _ => ⟨w.heap.size, 0, by simp, rfl, fun j h => ?_⟩⟩
  rw [Nat.zero_add, World.cell?_alloc_mark]
  rw [← Array.getElem?_toList, he, List.getElem?_map, List.getElem?_eq_getElem h]
  rfl
/-- A literal of functions. -/
theorem fs_lit (w : World) (t : TypeId) (cs : Array Value) (ps : List (Nat → Bool)) (g n : Nat) (hl : ps.length ≤ 1000) (hg : g = w.heap.size) (hn : n = ps.length) (h : ∀ (j : Nat) (hj : j < ps.length), ∃ fv, cs[j]? = some fv ∧ Fn1 w fv ps[j]) :
    Fs (w.alloc (.cells cs t)) (.slice (some ⟨g, 0, none⟩) n n) ps := by
  subst hg hn
  refine ⟨_, _, rfl, hl, fun _ => ⟨w.heap.size, 0, by simp, rfl, fun j hj => ?_⟩⟩
  obtain ⟨fv, h1, h2⟩ := h j hj
  refine ⟨fv, ?_, h2.below ((Below.refl _ _).alloc (Nat.le_refl _) _)⟩
  rw [Nat.zero_add, World.cell?_alloc_mark]
  exact h1

end Go.Proofs.Ytmddffacjkkeiaa.Nd
