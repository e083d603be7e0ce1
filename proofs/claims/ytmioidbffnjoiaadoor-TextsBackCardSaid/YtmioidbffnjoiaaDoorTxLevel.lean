/-
  The least level of brackets that a text does not close: mathematics, and level, has, by contracts.
-/
import Derived.Test.YtmioidbffnjoiaaDoorTxMath
import Derived.Test.YtmioidbffnjoiaaDoorTextsH
import Derived.Maps.OwnSet
import Derived.Maps.Views
import Derived.Deep.LoopGhost
namespace Go.Proofs.YtmioidbffnjoiaaDoor
open Go.RowKit Go.Maps

/-! ### Where a closing bracket of level k stands -/
/-- A ] at j, k times = behind it, a ] behind these. -/
def ClosesAt (t : ByteArray) (j k : Nat) : Prop := byteAt t j = 93 ∧ (∀ x, j < x → x ≤ j + k → byteAt t x = 61) ∧ byteAt t (j + k + 1) = 93
/-- .. within the first i bytes. -/
def Closed (t : ByteArray) (k i : Nat) : Prop := ∃ j, j + k + 1 < i ∧ ClosesAt t j k
/-- A ] at j, nothing but = behind it up to i. -/
def OpenAt (t : ByteArray) (j i : Nat) : Prop := j < i ∧ byteAt t j = 93 ∧ ∀ x, j < x → x < i → byteAt t x = 61

theorem open_one {t : ByteArray} {i j j' : Nat} (h : OpenAt t j i) (h' : OpenAt t j' i) : j = j' := by
  obtain ⟨h1, h2, h3⟩ := h
  obtain ⟨g1, g2, g3⟩ := h'
  rcases Nat.lt_trichotomy j j' with h | h | h
  · have := h3 j' h g1; omega
  · exact h
  · have := g3 j h h1; omega

/-- What is closed within one byte more. -/
theorem closed_more {t : ByteArray} {k i : Nat} : Closed t k (i + 1) ↔ Closed t k i ∨ (byteAt t i = 93 ∧ ∃ j, OpenAt t j i ∧ j + k + 1 = i) := by
  constructor
  · rintro ⟨j, h, h1, h2, h3⟩
    by_cases e : j + k + 1 < i
    · exact .inl ⟨j, e, h1, h2, h3⟩
    · obtain rfl : j + k + 1 = i := by omega
      exact .inr ⟨h3, j, ⟨by omega, h1, fun x hx hx' => h2 x hx (by omega)⟩, rfl⟩
  · rintro (⟨j, h, r⟩ | ⟨h, j, ⟨h1, h2, h3⟩, rfl⟩)
    · exact ⟨j, by omega, r⟩
    · exact ⟨j, by omega, h2, fun x hx hx' => h3 x hx (by omega), h⟩

theorem open_more_eq {t : ByteArray} {j i : Nat} (h : byteAt t i = 61) : OpenAt t j (i + 1) ↔ OpenAt t j i := by
  constructor
  · rintro ⟨h1, h2, h3⟩
    have : j ≠ i := fun e => by subst e; omega
    exact ⟨by omega, h2, fun x hx hx' => h3 x hx (by omega)⟩
  · rintro ⟨h1, h2, h3⟩
    refine ⟨by omega, h2, fun x hx hx' => ?_⟩
    by_cases e : x = i
    · rw [e]; exact h
    · exact h3 x hx (by omega)
theorem open_more_at {t : ByteArray} {i : Nat} (h : byteAt t i = 93) : OpenAt t i (i + 1) := ⟨by omega, h, fun x hx hx' => by omega⟩
theorem open_more_no {t : ByteArray} {i : Nat} (h1 : byteAt t i ≠ 93) (h2 : byteAt t i ≠ 61) : ∀ j, ¬ OpenAt t j (i + 1) := by
  rintro j ⟨g1, g2, g3⟩
  by_cases e : j = i
  · subst e; exact h1 g2
  · exact h2 (g3 i (by omega) (by omega))

/-- The place of the last ] that has = alone behind it, as level keeps it. -/
def OpenIs (t : ByteArray) (o : Int) (i : Nat) : Prop := (o = -1 ∧ ∀ j, ¬ OpenAt t j i) ∨ ∃ j : Nat, o = j ∧ OpenAt t j i

/-! ### By the words of the document -/
theorem at_some {t : ByteArray} {x : Nat} {c : UInt8} : t.data.toList[x]? = some c ↔ x < t.size ∧ byteAt t x = c.toNat := by
  constructor
  · intro h
    exact ⟨(List.getElem?_eq_some_iff.1 h).1, byte_of h⟩
  · rintro ⟨h, e⟩
    have hx : x < t.data.toList.length := h
    rw [List.getElem?_eq_getElem hx]
    have := byte_of (s := t) (i := x) (List.getElem?_eq_getElem hx)
    rw [e] at this
    rw [UInt8.toNat_inj.1 this]
theorem run_prefix : ∀ (k : Nat) (l : List UInt8), (List.replicate k (61 : UInt8) ++ [93]).isPrefixOf l = true ↔ (∀ x, x < k → l[x]? = some 61) ∧ l[k]? = some 93
  | 0, [] => by simp
  | 0, c :: l => by
    simp only [List.replicate_zero, List.nil_append, List.isPrefixOf, Bool.and_true, beq_iff_eq, List.getElem?_cons_zero, Option.some.injEq]
    exact ⟨fun h => ⟨fun x hx => by omega, h.symm⟩, fun h => h.2.symm⟩
  | k + 1, [] => by simp [List.replicate_succ]
  | k + 1, c :: l => by
    have ih := run_prefix k l
    simp only [List.replicate_succ, List.cons_append, List.isPrefixOf, Bool.and_eq_true, beq_iff_eq, ih, List.getElem?_cons_succ]
    constructor
    · rintro ⟨rfl, h1, h2⟩
      refine ⟨fun x hx => ?_, h2⟩
      cases x with
      | zero => rfl
      | succ x => rw [List.getElem?_cons_succ]; exact h1 x (by omega)
    · rintro ⟨h1, h2⟩
      refine ⟨?_, fun x hx => ?_, h2⟩
      · have := h1 0 (by omega)
        simpa using this.symm
      · have := h1 (x + 1) (by omega)
        simpa using this
theorem closes_occ {t : ByteArray} {j k : Nat} : Lib.occAt t.data.toList (closeL k) j = true ↔ j + k + 1 < t.size ∧ ClosesAt t j k := by
  have e1 : Lib.occAt t.data.toList (closeL k) j = true ↔ t.data.toList[j]? = some 93 ∧ (List.replicate k (61 : UInt8) ++ [93]).isPrefixOf (t.data.toList.drop (j + 1)) = true := by
    unfold Lib.occAt closeL
    by_cases h : j < t.size
    · have hx : j < t.data.toList.length := h
      rw [List.drop_eq_getElem_cons hx, List.getElem?_eq_getElem hx]
      simp only [List.isPrefixOf, Bool.and_eq_true, beq_iff_eq, Option.some.injEq]
      exact ⟨fun ⟨h1, h2⟩ => ⟨h1.symm, h2⟩, fun ⟨h1, h2⟩ => ⟨h1.symm, h2⟩⟩
    · have hl : t.data.toList.length ≤ j := Nat.le_of_not_lt h
      rw [List.drop_of_length_le hl, List.getElem?_eq_none hl]
      simp [List.isPrefixOf]
  rw [e1, run_prefix, at_some]
  simp only [List.getElem?_drop, at_some]
  unfold ClosesAt
  rw [show (93 : UInt8).toNat = 93 from rfl, show (61 : UInt8).toNat = 61 from rfl]
  constructor
  · rintro ⟨⟨h1, h2⟩, h3, h4, h5⟩
    refine ⟨by omega, h2, fun x hx hx' => ?_, by rw [show j + k + 1 = j + 1 + k from by omega]; exact h5⟩
    have := (h3 (x - (j + 1)) (by omega)).2
    rwa [show j + 1 + (x - (j + 1)) = x from by omega] at this
  · rintro ⟨h0, h1, h2, h3⟩
    exact ⟨⟨by omega, h1⟩, fun x hx => ⟨by omega, h2 _ (by omega) (by omega)⟩, by omega, by rw [show j + 1 + k = j + k + 1 from by omega]; exact h3⟩
theorem contains_occ {s sub : List UInt8} : Lib.contains s sub = true ↔ ∃ j, j ≤ s.length ∧ Lib.occAt s sub j = true := by
  constructor
  · intro h
    refine Classical.byContradiction fun hn => ?_
    have h1 := Lib.index_none (s := s) (sub := sub) (fun j hj => by
      cases ho : Lib.occAt s sub j
      · rfl
      · exact absurd ⟨j, hj, ho⟩ hn)
    unfold Lib.contains at h
    rw [h1] at h
    simp at h
  · rintro ⟨j, hj, ho⟩
    induction j using Nat.strongRecOn with
    | ind j ih =>
      by_cases he : ∃ i, i < j ∧ Lib.occAt s sub i = true
      · obtain ⟨i, hi, hoi⟩ := he
        exact ih i hi (by omega) hoi
      · have h1 := Lib.index_first hj ho (fun i hi => by
          cases hoi : Lib.occAt s sub i
          · rfl
          · exact absurd ⟨i, hi, hoi⟩ he)
        unfold Lib.contains
        rw [h1, decide_eq_true (by omega)]
theorem closed_all {t : ByteArray} {k : Nat} : Lib.contains t.data.toList (closeL k) = true ↔ Closed t k t.size := by
  rw [contains_occ]
  constructor
  · rintro ⟨j, _, h⟩
    exact ⟨j, closes_occ.1 h⟩
  · rintro ⟨j, h⟩
    exact ⟨j, by have := h.1; show j ≤ t.size; omega, closes_occ.2 h⟩

/-! ### The set of the levels that were met -/
def setIs (D : DataW Unit) (t : ByteArray) (i : Nat) : Prop := IsMap D ∧ ∀ k : Nat, has D (.int .i64 (k : Int)) = true ↔ Closed t k i

theorem set_empty (t : ByteArray) : setIs (.map []) t 0 := ⟨isMap_empty, fun k => ⟨fun h => by simp [has] at h, fun ⟨j, h, _⟩ => by omega⟩⟩
theorem key_ne {x y : Int} (h : x ≠ y) : (Lit.int .i64 x) ≠ .int .i64 y := fun e => h (by injection e)
theorem set_put {D : DataW Unit} {t : ByteArray} {i j : Nat} (h : setIs D t i) (h93 : byteAt t i = 93) (ho : OpenAt t j i) : setIs (D.put (.int .i64 ((i : Int) - j - 1)) (.agg [])) t (i + 1) := by
  obtain ⟨hm, hk⟩ := h
  have hji := ho.1
  refine ⟨hm.put _ _, fun k => ?_⟩
  rw [closed_more]
  by_cases e : j + k + 1 = i
  · have e2 : (i : Int) - j - 1 = k := by omega
    rw [e2]
    refine ⟨fun _ => .inr ⟨h93, j, ho, e⟩, fun _ => has_put_same hm (by simp [WideAt.IsKeyLit]) _⟩
  · rw [has_put_other (key_ne (by omega)), hk]
    refine ⟨.inl, fun g => g.elim id fun ⟨_, j', h2, h3⟩ => ?_⟩
    have := open_one ho h2
    omega
theorem set_none {D : DataW Unit} {t : ByteArray} {i : Nat} (h : setIs D t i) (hn : byteAt t i ≠ 93 ∨ ∀ j, ¬ OpenAt t j i) : setIs D t (i + 1) := by
  refine ⟨h.1, fun k => ?_⟩
  rw [h.2, closed_more]
  refine ⟨.inl, fun g => g.elim id fun ⟨h1, j, h2, _⟩ => ?_⟩
  rcases hn with g | g
  · exact absurd h1 g
  · exact absurd h2 (g j)

theorem open_next_close {t : ByteArray} {i : Nat} (h : byteAt t i = 93) : OpenIs t (i : Int) (i + 1) := .inr ⟨i, rfl, open_more_at h⟩
theorem open_next_eq {t : ByteArray} {i : Nat} {o : Int} (h : byteAt t i = 61) (ho : OpenIs t o i) : OpenIs t o (i + 1) := by
  rcases ho with ⟨h1, h2⟩ | ⟨j, h1, h2⟩
  · exact .inl ⟨h1, fun j g => h2 j ((open_more_eq h).1 g)⟩
  · exact .inr ⟨j, h1, (open_more_eq h).2 h2⟩
theorem open_next_no {t : ByteArray} {i : Nat} (h1 : byteAt t i ≠ 93) (h2 : byteAt t i ≠ 61) : OpenIs t (-1) (i + 1) := .inl ⟨rfl, open_more_no h1 h2⟩
theorem open_none (t : ByteArray) : OpenIs t (-1) 0 := .inl ⟨rfl, fun j h => absurd h.1 (by omega)⟩

/-! ### The least level -/
theorem from_spec (l : List UInt8) : ∀ (f k : Nat), (∀ j, j < k → meets l j = true) → l.length + 1 ≤ f + k → (∀ j, j < longFrom l f k → meets l j = true) ∧ meets l (longFrom l f k) = false
  | 0, k, h, hf => by
    refine ⟨h, ?_⟩
    cases hm : meets l k
    · exact hm
    · have := meets_room hm; omega
  | f + 1, k, h, hf => by
    rw [longFrom]
    cases hm : meets l k
    · exact ⟨h, hm⟩
    · refine from_spec l f (k + 1) (fun j hj => ?_) (by omega)
      by_cases e : j = k
      · rw [e]; exact hm
      · exact h j (by omega)
theorem longK_spec (l : List UInt8) : (∀ j, j < longK l → meets l j = true) ∧ meets l (longK l) = false ∧ longK l ≤ l.length := by
  have h := from_spec l (l.length + 1) 0 (fun j hj => by omega) (by omega)
  refine ⟨h.1, h.2, ?_⟩
  refine Nat.le_of_not_lt fun hlt => ?_
  have := meets_room (h.1 l.length hlt)
  omega

/-! ### has, level -/
theorem Tryd.keyInt : Keyed Tryd.prog 3 := int_keyed Tryd.underlying3
theorem zero_unit (w : World) : (zeroValue 59).run Tryd.prog w = .ok (.agg #[]) w := by kernel_rfl
theorem key_int (x : Int) (h0 : 0 ≤ x) (h1 : x ≤ 1000000000) : keyOf Tryd.prog 3 (.int .i64 x) = some (.int .i64 x) :=
  keyOf_int_mk Tryd.underlying3 (by
    show (decide (IntKind.i64.min ≤ x) && decide (x ≤ IntKind.i64.max)) = true
    rw [decide_eq_true (show IntKind.i64.min ≤ x from by rw [show IntKind.i64.min = -9223372036854775808 from rfl]; omega), decide_eq_true (show x ≤ IntKind.i64.max from by rw [show IntKind.i64.max = 9223372036854775807 from rfl]; omega)]; rfl)

theorem map_below {w w' : World} {b n : Nat} {D : DataW Unit} (h : w.ownsMap Tryd.prog 3 unitElem b n D) (hb : Below w.heap.size w w') : w'.ownsMap Tryd.prog 3 unitElem b n D := by
  have hlt := h.lt
  obtain ⟨es, clock, h1, r⟩ := h
  exact ⟨es, clock, by rw [hb.block b hlt]; exact h1, r⟩

set_option maxHeartbeats 1000000 in
theorem own_has (b n : Nat) (D : DataW Unit) (k : Nat) (x : Bool) (w : World) (h : w.ownsMap Tryd.prog 3 unitElem b n D) (hk : k ≤ 1000000000) (hx : has D (.int .i64 (k : Int)) = x) :
    Calls Tryd.prog 40 #[.map (some b), .int .i64 k] w fun e w' => e = .returned (.bool x) ∧ Below w.heap.size w w' := by
  subst hx
  have hkey := key_int (k : Int) (by omega) (by omega)
  go_enter Tryd.func40, Tryd.ntmps40
  go_wp2_with (at_lookup; refine wpList_lookup_own_unit _ rfl _ _ 58 rfl 3 59 Tryd.keyInt Tryd.underlying58 (zero_unit _) b n D rfl h _ _ rfl hkey ?_)
  go_ret
  exact ⟨rfl, (Below.refl _ _).alloc (Nat.le_refl _) _⟩

set_option maxHeartbeats 2000000 in
theorem own_level (t : ByteArray) (K : Nat) (w : World) (hs : t.size ≤ 900000000) (hK1 : ∀ k, k < K → Closed t k t.size) (hK2 : ¬ Closed t K t.size) (hK3 : K ≤ t.size) :
    Calls Tryd.prog 23 #[.string t] w fun e w' => e = .returned (.int .i64 K) ∧ Below w.heap.size w w' := by
  have hmm := @run_makeMap Tryd.prog
  have H1 := Lib.hid hK1
  have H2 := Lib.hid hK2
  clear hK1 hK2
  go_enter Tryd.func23, Tryd.ntmps23
  go_wp2_with fail
  go_loopw [4, 10] (fun o i wr => ∃ (k : Nat) (ov : Int) (D : DataW Unit), o = .int .i64 ov ∧ i = .int .i64 k ∧ k ≤ t.size ∧ OpenIs t ov k ∧ setIs D t k ∧ wr.ownsMap Tryd.prog 3 unitElem w.heap.size k D ∧ Below w.heap.size w wr) (fun _ i _ => t.size - (intOf i).toNat)
  case atStart => exact ⟨0, -1, .map [], rfl, rfl, Nat.zero_le _, open_none t, set_empty t, World.ownsMap_made _ _ _ _, (Below.refl _ _).alloc (Nat.le_refl _) _⟩
  case round =>
    obtain ⟨k, ov, D, rfl, rfl, hk, ho, hset, hown, hb⟩ := hrel
    have HS := Lib.hid hset
    have HB := Lib.hid hb
    have HW := Lib.hid hown
    clear hset hb hown
    by_cases hlt : k < t.size
    · have hlt' : (k : Int) < t.size := by omega
      have hx := run_index_at (P := Tryd.prog) 9 t (k : Int) k Tryd.underlying9 hlt rfl
      by_cases h93 : byteAt t k = 93
      · have t1 : (((byteAt t k : Nat) : Int) == 93) = true := by rw [beq_iff_eq]; omega
        have HN := Lib.hid (open_next_close h93)
        rcases ho with ⟨rfl, hno⟩ | ⟨j, rfl, hop⟩
        · have HP := Lib.hid (set_none HS.out (.inr hno))
          clear hno h93
          generalize byteAt t k = b at *
          go_wp2_with fail
          go_roundw
          case rel => exact ⟨k + 1, _, D, rfl, by go_num, by omega, HN.out, HP.out, HW.out.mono (Nat.le_succ _), HB.out⟩
          case measure => simp only [intOf]; omega
        · have HP := Lib.hid (set_put HS.out h93 hop)
          have hjk := hop.1
          have hj9 : (j : Int) + 1 ≤ k := by omega
          have hkey := key_int ((k : Int) - j - 1) (by omega) (by omega)
          clear hop h93
          generalize byteAt t k = b at *
          go_wp2_with (at_mapUpdate; refine wpList_mapUpdate_own _ rfl _ _ _ 58 rfl 3 59 Tryd.keyInt Tryd.underlying58 (unitElem (H := Unit)) w.heap.size k D rfl HW.out (by unfold maxLen; omega) _ _ _ rfl rfl hkey _ [] unitElem_mk ?_; intro w1 hown1 hgrow1)
          have HO := Lib.hid hown1
          have HG := Lib.hid (HB.out.grown hgrow1 HB.out.size (fun j hj => by cases hj; exact Nat.le_refl _))
          clear hown1 hgrow1
          go_wp2_with fail
          go_roundw
          case rel => exact ⟨k + 1, _, _, rfl, by go_num, by omega, HN.out, HP.out, HO.out, HG.out⟩
          case measure => simp only [intOf]; omega
      · have t1 : (((byteAt t k : Nat) : Int) == 93) = false := by rw [beq_eq_false_iff_ne]; omega
        have HP := Lib.hid (set_none HS.out (.inl h93))
        by_cases h61 : byteAt t k = 61
        · have t2 : (((byteAt t k : Nat) : Int) == 61) = true := by rw [beq_iff_eq]; omega
          have HN := Lib.hid (open_next_eq h61 ho)
          clear h93 h61 ho
          generalize byteAt t k = b at *
          go_wp2_with fail
          go_roundw
          case rel => exact ⟨k + 1, _, D, rfl, by go_num, by omega, HN.out, HP.out, HW.out.mono (Nat.le_succ _), HB.out⟩
          case measure => simp only [intOf]; omega
        · have t2 : (((byteAt t k : Nat) : Int) == 61) = false := by rw [beq_eq_false_iff_ne]; omega
          have HN := Lib.hid (open_next_no h93 h61)
          clear h93 h61 ho
          generalize byteAt t k = b at *
          go_wp2_with fail
          go_roundw
          case rel => exact ⟨k + 1, _, D, rfl, by go_num, by omega, HN.out, HP.out, HW.out.mono (Nat.le_succ _), HB.out⟩
          case measure => simp only [intOf]; omega
    · obtain rfl : k = t.size := by omega
      have HK := Lib.hid HS.out.2
      clear HS ho hmm
      go_wp2_with fail
      obtain ⟨wo, rfl⟩ : ∃ wo : World, wo = wr := ⟨_, rfl⟩
      go_loopw [6] (fun v wr => ∃ k : Nat, v = .int .i64 k ∧ k ≤ K ∧ wr.ownsMap Tryd.prog 3 unitElem w.heap.size t.size D ∧ Below w.heap.size w wr) (fun v _ => K - (intOf v).toNat)
      case atStart => exact ⟨0, rfl, Nat.zero_le _, HW.out, HB.out⟩
      case round =>
        obtain ⟨k, rfl, hk, hown, hb⟩ := hrel
        have HB2 := Lib.hid hb
        have HW2 := Lib.hid hown
        clear hb hown
        by_cases hlt : k < K
        · have c := own_has w.heap.size t.size D k true wr HW2.out (by omega) ((HK.out k).2 (H1.out k hlt))
          go_wp2_with fail
          refine c.mono ?_
          rintro e w1 ⟨rfl, b1⟩
          have HB3 := Lib.hid (HB2.out.trans (b1.mono HB2.out.size))
          have HW3 := Lib.hid (map_below HW2.out b1)
          clear b1 c
          go_wp2_with fail
          go_roundw
          case rel => exact ⟨k + 1, by go_num, by omega, HW3.out, HB3.out⟩
          case measure => simp only [intOf]; omega
        · obtain rfl : k = K := by omega
          have c := own_has w.heap.size t.size D k false wr HW2.out (by omega) (by
            cases hh : has D (.int .i64 (k : Int))
            · rfl
            · exact absurd ((HK.out k).1 hh) H2.out)
          go_wp2_with fail
          refine c.mono ?_
          rintro e w1 ⟨rfl, b1⟩
          have HB3 := Lib.hid (HB2.out.trans (b1.mono HB2.out.size))
          clear b1 c
          go_wp2_with fail
          go_ret
          exact ⟨rfl, HB3.out⟩

end Go.Proofs.YtmioidbffnjoiaaDoor
