/-
  twinstepref04.long, by contract.
-/
import Derived.Test.YtajeghkmgcpgiaaGreatDoorLexA
import Derived.Deep.DeepCutAuto
import Derived.Deep.CutBlock
import Derived.Deep.LoopGhost
namespace Go.Proofs.YtajeghkmgcpgiaaGreatDoor.Lex
open Go.RowKit

/-! ### The body of a long bracket, step by step -/
theorem close_head (k : Nat) {d : UInt8} {r : List UInt8} (h : d.toNat ≠ 93) : (closeL k).isPrefixOf (d :: r) = false := by
  unfold closeL
  simp only [List.isPrefixOf, Bool.and_eq_false_iff]
  left
  rw [beq_eq_false_iff_ne]
  intro e; apply h; rw [← e]; rfl
theorem body_cons (cl : List UInt8) (first : Bool) (p : Nat) (c : UInt8) (r : List UInt8) : bodyL cl first p (c :: r) = if cl.isPrefixOf (c :: r) = true then some ([], cl.length)
    else if lfB c.toNat = true then
      (if p + c.toNat = 23 then (bodyL cl false 0 r).map fun x => (x.1, x.2 + 1)
      else (bodyL cl false c.toNat r).map fun x => (if first then x.1 else 10 :: x.1, x.2 + 1))
    else (bodyL cl false 0 r).map fun x => (c :: x.1, x.2 + 1) := rfl
theorem body_after {cl : List UInt8} {c : UInt8} {r : List UInt8} (hc : lfB c.toNat = true) (h : startsWith (23 - c.toNat) r = false) : bodyL cl false c.toNat r = bodyL cl false 0 r := by
  have hc' := lf_is.1 hc
  cases r with
  | nil => rfl
  | cons d r =>
    rw [startsWith] at h
    have hd' : d.toNat ≠ 23 - c.toNat := by simpa using h
    rw [body_cons, body_cons]
    cases hp : cl.isPrefixOf (d :: r)
    · cases hl : lfB d.toNat
      · simp only [Bool.false_eq_true, if_false]
      · have := lf_is.1 hl
        simp only [Bool.false_eq_true, if_false, if_true]
        rw [if_neg (show ¬ c.toNat + d.toNat = 23 by omega), if_neg (show ¬ 0 + d.toNat = 23 by omega)]
    · simp only [if_true]
theorem body_close {cl : List UInt8} {f : Bool} {l : List UInt8} (h0 : l ≠ []) (h : cl.isPrefixOf l = true) : bodyL cl f 0 l = some ([], cl.length) := by
  cases l with
  | nil => exact absurd rfl h0
  | cons c r => rw [bodyL, if_pos h]
theorem body_zero {cl : List UInt8} {f : Bool} {c : UInt8} {r : List UInt8} (h : cl.isPrefixOf (c :: r) = false) (he : endK (c :: r) = 0) :
    bodyL cl f 0 (c :: r) = (bodyL cl false 0 r).map fun x => ([c] ++ x.1, x.2 + 1) := by
  have : lfB c.toNat = false := by
    cases hl : lfB c.toNat
    · rfl
    · rw [endK, if_pos hl] at he; split at he <;> omega
  rw [bodyL, if_neg (by rw [h]; decide), if_neg (by rw [this]; decide)]; rfl
theorem body_one {cl : List UInt8} {f : Bool} {c : UInt8} {r : List UInt8} (h : cl.isPrefixOf (c :: r) = false) (he : endK (c :: r) = 1) :
    bodyL cl f 0 (c :: r) = (bodyL cl false 0 r).map fun x => ((if f then [] else [10]) ++ x.1, x.2 + 1) := by
  rw [endK] at he
  cases hl : lfB c.toNat
  · rw [hl] at he; simp at he
  · rw [if_pos hl] at he
    cases hs : startsWith (23 - c.toNat) r
    · have hc := lf_is.1 hl
      rw [bodyL, if_neg (by rw [h]; decide), if_pos hl, if_neg (by omega), body_after hl hs]
      cases f <;> rfl
    · rw [hs, if_pos rfl] at he; omega
theorem body_two {k : Nat} {f : Bool} {c : UInt8} {r : List UInt8} (h : (closeL k).isPrefixOf (c :: r) = false) (he : endK (c :: r) = 2) :
    bodyL (closeL k) f 0 (c :: r) = (bodyL (closeL k) false 0 (r.drop 1)).map fun x => ((if f then [] else [10]) ++ x.1, x.2 + 2) := by
  rw [endK] at he
  cases hl : lfB c.toNat
  · rw [hl] at he; simp at he
  · rw [if_pos hl] at he
    cases hs : startsWith (23 - c.toNat) r
    · rw [hs] at he; simp at he
    · cases r with
      | nil => cases hs
      | cons d r =>
        have hc := lf_is.1 hl
        have hd' : d.toNat = 23 - c.toNat := by rw [startsWith] at hs; simpa using hs
        have hdl : lfB d.toNat = true := lf_is.2 (by omega)
        rw [bodyL, if_neg (by rw [h]; decide), if_pos hl, if_neg (by omega), bodyL, if_neg (by rw [close_head k (by omega)]; decide), if_pos hdl, if_pos (by omega), Option.map_map, List.drop_one, List.tail_cons]
        congr 1
        cases f <;> rfl

/-! ### What long answers -/
def longT (l : List UInt8) : ByteArray := match longL l with | some (some (t, _)) => ⟨t.toArray⟩ | _ => ⟨#[]⟩
def longN (l : List UInt8) : Nat := match longL l with | some (some (_, n)) => n | _ => 0
def longB (l : List UInt8) : Bool := (longL l).isSome
def LongSays (l : List UInt8) (w : World) (e : Ending) (w' : World) : Prop := e = .returned (.tuple #[.string (longT l), .int .i64 (longN l : Nat), .bool (longB l)]) ∧ w = w'
theorem long_none {l : List UInt8} {w : World} (h : longL l = none) : LongSays l w (.returned (.tuple #[.string ⟨#[]⟩, .int .i64 0, .bool false])) w := by
  refine ⟨?_, rfl⟩
  rw [longT, longN, longB, h]; rfl
theorem long_open {l : List UInt8} {w : World} (h : longL l = some none) : LongSays l w (.returned (.tuple #[.string ⟨#[]⟩, .int .i64 0, .bool true])) w := by
  refine ⟨?_, rfl⟩
  rw [longT, longN, longB, h]; rfl
theorem long_some {l t : List UInt8} {T : ByteArray} {n : Nat} {x : Int} {w : World} (h : longL l = some (some (t, n))) (hT : T.data.toList = t) (hx : x = n) : LongSays l w (.returned (.tuple #[.string T, .int .i64 x, .bool true])) w := by
  refine ⟨?_, rfl⟩
  obtain ⟨⟨u⟩⟩ := T
  subst hT hx
  rw [longT, longN, longB, h]; rfl

theorem eqs_yes {s : ByteArray} {p : Nat} (h : hd (s.data.toList.drop p) = 61) : p < s.size ∧ eqsL (s.data.toList.drop p) = eqsL (s.data.toList.drop (p + 1)) + 1 := by
  by_cases hlt : p < s.size
  · obtain ⟨c, e, hl⟩ := drop_at s p hlt
    refine ⟨hlt, ?_⟩
    rw [hl] at h ⊢
    rw [eqsL, if_pos (show c.toNat = 61 from h)]
  · rw [hd_end (by omega)] at h; omega
theorem eqs_no {s : ByteArray} {p : Nat} (h : hd (s.data.toList.drop p) ≠ 61) : eqsL (s.data.toList.drop p) = 0 := by
  by_cases hlt : p < s.size
  · obtain ⟨c, e, hl⟩ := drop_at s p hlt
    rw [hl] at h ⊢
    rw [eqsL, if_neg (show ¬ c.toNat = 61 from h)]
  · rw [List.drop_of_length_le (show s.data.toList.length ≤ p from Nat.le_of_not_lt hlt)]; rfl
/-- What stands at a place, if it is a bracket of level e. -/
theorem long_at {s : ByteArray} {i e : Nat} (h0 : hd (s.data.toList.drop i) = 91) (he : eqsL (s.data.toList.drop (i + 1)) = e) :
    longL (s.data.toList.drop i) = if hd (s.data.toList.drop (i + 1 + e)) = 91 then some ((bodyL (closeL e) true 0 (s.data.toList.drop (i + e + 2))).map fun x => (x.1, x.2 + (e + 2))) else none := by
  by_cases hlt : i < s.size
  · obtain ⟨c, ec, hl⟩ := drop_at s i hlt
    rw [hl] at h0 ⊢
    have hc : c.toNat = 91 := h0
    rw [longL, he, List.drop_drop, List.drop_drop, show i + 1 + (e + 1) = i + e + 2 from by omega]
    by_cases g : hd (s.data.toList.drop (i + 1 + e)) = 91
    · rw [if_pos ⟨hc, g⟩, if_pos g]
    · rw [if_neg (fun q => g q.2), if_neg g]
  · rw [hd_end (by omega)] at h0; omega
theorem long_not {s : ByteArray} {i : Nat} (h0 : hd (s.data.toList.drop i) ≠ 91) : longL (s.data.toList.drop i) = none := by
  cases hl : s.data.toList.drop i with
  | nil => rfl
  | cons c r =>
    rw [hl] at h0
    rw [longL, if_neg (fun q => h0 q.1)]
theorem sq_more (e : Nat) : (⟨#[93]⟩ : ByteArray) ++ eqT e ++ ⟨#[61]⟩ = ⟨#[93]⟩ ++ eqT (e + 1) := by
  rw [ByteArray.append_assoc, eqT_more]

theorem two_room {s : ByteArray} {p : Nat} {c : UInt8} (h : endK (c :: s.data.toList.drop (p + 1)) = 2) (_hl : s.data.toList.drop p = c :: s.data.toList.drop (p + 1)) : p + 2 ≤ s.size := by
  obtain ⟨_, hne⟩ := lines_two h
  have : (s.data.toList.drop (p + 1)).length ≠ 0 := fun h => hne (List.eq_nil_of_length_eq_zero h)
  rw [List.length_drop] at this
  have hl : s.data.toList.length = s.size := rfl
  omega
theorem body_next {X Y Z : Option (List UInt8 × Nat)} {T u T' : List UInt8} {st p d : Nat} (h : X = Y.map fun x => (T ++ x.1, x.2 + (p - st))) (h' : Y = Z.map fun x => (u ++ x.1, x.2 + d)) (hT : T' = T ++ u) (hp : st ≤ p) :
    X = Z.map fun x => (T' ++ x.1, x.2 + (p + d - st)) := by
  rw [h, h', Option.map_map, hT]
  congr 1
  funext x
  simp only [Function.comp_apply, List.append_assoc, Prod.mk.injEq, true_and]
  omega

set_option maxHeartbeats 4000000 in
theorem ref_long (s : ByteArray) (i : Nat) (w : World) (hs : s.size ≤ 100000000) (hi : i ≤ s.size) :
    Calls Tryz.prog 49 #[.string s, .int .i64 i] w (LongSays (s.data.toList.drop i) w) := by
  have c0 := fun w => ref_at s i w
  by_cases h0 : hd (s.data.toList.drop i) = 91
  · have HL := fun e => long_at (e := e) h0
    rw [h0] at c0
    go_enter Tryz.func49, Tryz.ntmps49
    go_wp2_with fail
    refine (c0 _).mono ?_
    rintro e w1 ⟨rfl, rfl⟩
    go_wp2_with fail
    have hlt : i < s.size := by
      refine Nat.lt_of_not_le fun h => ?_
      rw [hd_end h] at h0; omega
    have HL := Lib.hid HL
    clear h0 c0
    go_loop [7, 8] (fun cl k => ∃ e : Nat, cl = .string (⟨#[93]⟩ ++ eqT e) ∧ k = .int .i64 ((i : Int) + 1 + e) ∧ i + 1 + e ≤ s.size ∧ e + eqsL (s.data.toList.drop (i + 1 + e)) = eqsL (s.data.toList.drop (i + 1))) (fun _ k => s.size - (intOf k).toNat)
    case atStart => exact ⟨0, rfl, by simp, by omega, by rw [Nat.add_zero, Nat.zero_add]⟩
    case round =>
      obtain ⟨e, rfl, rfl, hke, he⟩ := hrel
      have c := fun w => ref_at s (i + 1 + e) w
      rw [show ((i + 1 + e : Nat) : Int) = (i : Int) + 1 + e from by omega] at c
      have ek := eqT_size e
      by_cases h61 : hd (s.data.toList.drop (i + 1 + e)) = 61
      · obtain ⟨hlt2, hmore⟩ := eqs_yes h61
        rw [h61] at c
        have HE := Lib.hid (show (e + 1) + eqsL (s.data.toList.drop (i + 1 + (e + 1))) = eqsL (s.data.toList.drop (i + 1)) by rw [← he, hmore, show i + 1 + e + 1 = i + 1 + (e + 1) from rfl]; omega)
        have hz : ((⟨#[93]⟩ : ByteArray) ++ eqT e).size = e + 1 := by rw [ByteArray.size_append, ek]; show 1 + e = _; omega
        have k1 := fun w => run_string_add_sum (P := Tryz.prog) (w := w) (⟨#[93]⟩ ++ eqT e) ⟨#[61]⟩ (by rw [hz]; show e + 1 + 1 ≤ _; omega)
        rw [sq_more] at k1
        clear he hmore h61 hz ek
        have EQ := Lib.hid (show ((⟨#[93]⟩ : ByteArray) ++ eqT (e + 1)) = ⟨#[93]⟩ ++ eqT (e + 1) from rfl)
        generalize hg : (⟨#[93]⟩ : ByteArray) ++ eqT e = A at *
        generalize hg2 : (⟨#[93]⟩ : ByteArray) ++ eqT (e + 1) = B at *
        have HB := Lib.hid hg2
        clear hg hg2 EQ
        go_wp2_with fail
        refine (c _).mono ?_
        rintro e w1 ⟨rfl, rfl⟩
        go_wp2_with fail
        go_round
        case rel => exact ⟨e + 1, by rw [HB.out], by congr 1 <;> omega, by omega, HE.out⟩
        case measure => simp only [intOf]; omega
      · have hE : eqsL (s.data.toList.drop (i + 1)) = e := by rw [← he, eqs_no h61, Nat.add_zero]
        have HQ := HL.out e hE
        have t1 : (((hd (s.data.toList.drop (i + 1 + e)) : Nat) : Int) == 61) = false := by rw [beq_eq_false_iff_ne]; omega
        by_cases h91 : hd (s.data.toList.drop (i + 1 + e)) = 91
        · rw [if_pos h91] at HQ
          rw [h91] at c
          have hlt2 : i + 1 + e < s.size := by
            refine Nat.lt_of_not_le fun h => ?_
            rw [hd_end h] at h91; omega
          have HQ := Lib.hid HQ
          clear t1 h91 h61 he hE HL
          go_wp2_with fail
          refine (c _).mono ?_
          rintro e w1 ⟨rfl, rfl⟩
          have hz : ((⟨#[93]⟩ : ByteArray) ++ eqT e).size = e + 1 := by rw [ByteArray.size_append, ek]; show 1 + e = _; omega
          have k1 := fun w => run_string_add_sum (P := Tryz.prog) (w := w) (⟨#[93]⟩ ++ eqT e) ⟨#[93]⟩ (by rw [hz]; show e + 1 + 1 ≤ _; omega)
          have hCl := close_list e
          have hCz : ((⟨#[93]⟩ : ByteArray) ++ eqT e ++ ⟨#[93]⟩).size = e + 2 := by rw [ByteArray.size_append, hz]; rfl
          have HCl := Lib.hid hCl
          have HCz := Lib.hid hCz
          clear hz ek hCl hCz
          generalize (⟨#[93]⟩ : ByteArray) ++ eqT e ++ ⟨#[93]⟩ = C at *
          generalize (⟨#[93]⟩ : ByteArray) ++ eqT e = A at *
          go_wp2_with fail
          refine (c _).mono ?_
          rintro e w1 ⟨rfl, rfl⟩
          clear c
          go_wp2_with fail
          clear k1
          go_loop [8, 9, 10] (fun k o f => ∃ (p : Nat) (T : ByteArray) (b : Bool), k = .int .i64 p ∧ o = .string T ∧ f = .bool b ∧ i + e + 2 ≤ p ∧ p ≤ s.size ∧ T.size ≤ p ∧
            bodyL (closeL e) true 0 (s.data.toList.drop (i + e + 2)) = (bodyL (closeL e) b 0 (s.data.toList.drop p)).map fun x => (T.data.toList ++ x.1, x.2 + (p - (i + e + 2)))) (fun k _ _ => s.size - (intOf k).toNat)
          case atStart => exact ⟨i + e + 2, ⟨#[]⟩, true, by congr 1 <;> omega, rfl, rfl, by omega, by omega, by show 0 ≤ _; omega, by simp⟩
          case round =>
            obtain ⟨p, T, b, rfl, rfl, rfl, hp1, hp2, hT, hbody⟩ := hrel
            by_cases hlt3 : p < s.size
            · have hlt3' : (p : Int) < s.size := by omega
              have cs := fun w => ref_starts s C p w (by omega) (by have := HCz.out; omega) hp2
              obtain ⟨ch, ec, hl⟩ := drop_at s p hlt3
              have hst : startsAt s C p = (closeL e).isPrefixOf (s.data.toList.drop p) := by unfold startsAt; rw [HCl.out]
              have hz : (C.size : Int) = (e : Int) + 2 := by have := HCz.out; omega
              cases hs2 : startsAt s C p
              · rw [hs2] at cs hst
                have ce := fun w => ref_ending s p w (by omega)
                have h2 := endK_le (s.data.toList.drop p)
                rcases (show endK (s.data.toList.drop p) = 0 ∨ endK (s.data.toList.drop p) = 1 ∨ endK (s.data.toList.drop p) = 2 from by omega) with he | he | he
                · have hb1 := body_zero (f := b) (by rw [← hl]; exact hst.symm) (by rw [← hl]; exact he)
                  rw [he] at ce
                  have ho := one_list hlt3
                  rw [← ec, UInt8.ofNat_toNat] at ho
                  have HB := Lib.hid (body_next (T' := (T ++ s.extract p (p + 1)).data.toList) hbody (by rw [hl]; exact hb1) (by rw [cat_list, ho]) hp1)
                  have hoz : (s.extract p (p + 1)).size = 1 := by
                    have : (s.extract p (p + 1)).data.toList.length = 1 := by rw [ho]; rfl
                    exact this
                  have hsl := run_slice_at (P := Tryz.prog) 9 s (p : Int) ((p : Int) + 1) p (p + 1) Tryz.underlying9 (by omega) (by omega) rfl (by omega)
                  have hzT : (T ++ s.extract p (p + 1)).size ≤ p + 1 := by rw [ByteArray.size_append]; omega
                  have ka := fun w => run_string_add_sum (P := Tryz.prog) (w := w) T (s.extract p (p + 1)) (by omega)
                  have HZ := Lib.hid hzT
                  clear hst hbody hs2 hl ec hb1 he hzT ho hoz
                  generalize T ++ s.extract p (p + 1) = T2 at *
                  generalize s.extract p (p + 1) = m at *
                  go_wp2_with fail
                  refine (cs _).mono ?_
                  rintro e w1 ⟨rfl, rfl⟩
                  go_wp2_with fail
                  refine (ce _).mono ?_
                  rintro e w1 ⟨rfl, rfl⟩
                  go_wp2_with fail
                  go_round
                  case rel => exact ⟨p + 1, T2, false, by go_num, rfl, rfl, by omega, by omega, HZ.out, HB.out⟩
                  case measure => simp only [intOf]; omega
                · have hb1 := body_one (f := b) (by rw [← hl]; exact hst.symm) (by rw [← hl]; exact he)
                  skip
                  rw [he] at ce
                  cases b
                  · have HB := Lib.hid (body_next (T' := (T ++ ⟨#[10]⟩ : ByteArray).data.toList) hbody (by rw [hl]; exact hb1) (by rw [cat_list]; rfl) hp1)
                    have hzT : (T ++ ⟨#[10]⟩ : ByteArray).size ≤ p + 1 := by rw [ByteArray.size_append]; show T.size + 1 ≤ _; omega
                    have ka := fun w => run_string_add_sum (P := Tryz.prog) (w := w) T ⟨#[10]⟩ (by show T.size + 1 ≤ _; omega)
                    have HZ := Lib.hid hzT
                    clear hst hbody hs2 hl ec hb1 he hzT
                    generalize T ++ (⟨#[10]⟩ : ByteArray) = T2 at *
                    go_wp2_with fail
                    refine (cs _).mono ?_
                    rintro e w1 ⟨rfl, rfl⟩
                    go_wp2_with fail
                    refine (ce _).mono ?_
                    rintro e w1 ⟨rfl, rfl⟩
                    go_wp2_with fail
                    go_round
                    case rel => exact ⟨p + 1, T2, false, by go_num, rfl, rfl, by omega, by omega, HZ.out, HB.out⟩
                    case measure => simp only [intOf]; omega
                  · have HB := Lib.hid (body_next (T' := T.data.toList) hbody (by rw [hl]; exact hb1) (by simp) hp1)
                    clear hst hbody hs2 hl ec hb1 he
                    go_wp2_with fail
                    refine (cs _).mono ?_
                    rintro e w1 ⟨rfl, rfl⟩
                    go_wp2_with fail
                    refine (ce _).mono ?_
                    rintro e w1 ⟨rfl, rfl⟩
                    go_wp2_with fail
                    go_round
                    case rel => exact ⟨p + 1, T, false, by go_num, rfl, rfl, by omega, by omega, by omega, HB.out⟩
                    case measure => simp only [intOf]; omega
                · have hb1 := body_two (f := b) (by rw [← hl]; exact hst.symm) (by rw [← hl]; exact he)
                  rw [List.drop_drop] at hb1
                  have hp2' := two_room (by rw [← hl]; exact he) hl
                  rw [he] at ce
                  cases b
                  · have HB := Lib.hid (body_next (T' := (T ++ ⟨#[10]⟩ : ByteArray).data.toList) hbody (by rw [hl]; exact hb1) (by rw [cat_list]; rfl) hp1)
                    have hzT : (T ++ ⟨#[10]⟩ : ByteArray).size ≤ p + 2 := by rw [ByteArray.size_append]; show T.size + 1 ≤ _; omega
                    have ka := fun w => run_string_add_sum (P := Tryz.prog) (w := w) T ⟨#[10]⟩ (by show T.size + 1 ≤ _; omega)
                    have HZ := Lib.hid hzT
                    clear hst hbody hs2 hl ec hb1 he hzT
                    generalize T ++ (⟨#[10]⟩ : ByteArray) = T2 at *
                    go_wp2_with fail
                    refine (cs _).mono ?_
                    rintro e w1 ⟨rfl, rfl⟩
                    go_wp2_with fail
                    refine (ce _).mono ?_
                    rintro e w1 ⟨rfl, rfl⟩
                    go_wp2_with fail
                    go_round
                    case rel => exact ⟨p + 2, T2, false, by go_num, rfl, rfl, by omega, by omega, HZ.out, HB.out⟩
                    case measure => simp only [intOf]; omega
                  · have HB := Lib.hid (body_next (T' := T.data.toList) hbody (by rw [hl]; exact hb1) (by simp) hp1)
                    clear hst hbody hs2 hl ec hb1 he
                    go_wp2_with fail
                    refine (cs _).mono ?_
                    rintro e w1 ⟨rfl, rfl⟩
                    go_wp2_with fail
                    refine (ce _).mono ?_
                    rintro e w1 ⟨rfl, rfl⟩
                    go_wp2_with fail
                    go_round
                    case rel => exact ⟨p + 2, T, false, by go_num, rfl, rfl, by omega, by omega, by omega, HB.out⟩
                    case measure => simp only [intOf]; omega
              · rw [hs2] at cs hst
                have HR := Lib.hid (show longL (s.data.toList.drop i) = some (some (T.data.toList, p + (e + 2) - i)) by
                  rw [HQ.out, hbody, body_close (by rw [hl]; simp) hst.symm, show (closeL e).length = e + 2 from by simp [closeL]]
                  simp only [Option.map_some, List.append_nil, Option.some.injEq, Prod.mk.injEq, true_and]
                  omega)
                clear hst hbody hs2 hl ec
                go_wp2_with fail
                refine (cs _).mono ?_
                rintro e w1 ⟨rfl, rfl⟩
                go_wp2_with fail
                go_ret3
                exact long_some HR.out rfl (by omega)
            · obtain rfl : p = s.size := by omega
              have HR := Lib.hid (show longL (s.data.toList.drop i) = some none by rw [HQ.out, hbody, drop_end]; rfl)
              clear hbody
              go_wp2_with fail
              go_ret3
              exact long_open HR.out
        · rw [if_neg h91] at HQ
          have HQ := Lib.hid HQ
          have t2 : (((hd (s.data.toList.drop (i + 1 + e)) : Nat) : Int) != 91) = true := by rw [bne_iff_ne]; omega
          clear h91 h61 he hE HL
          generalize hd (s.data.toList.drop (i + 1 + e)) = b at *
          go_wp2_with fail
          refine (c _).mono ?_
          rintro e w1 ⟨rfl, rfl⟩
          go_wp2_with fail
          refine (c _).mono ?_
          rintro e w1 ⟨rfl, rfl⟩
          go_wp2_with fail
          go_ret3
          exact long_none HQ.out
  · have HN := Lib.hid (long_not h0)
    have t1 : (((hd (s.data.toList.drop i) : Nat) : Int) != 91) = true := by rw [bne_iff_ne]; omega
    generalize hd (s.data.toList.drop i) = a at *
    clear h0
    go_enter Tryz.func49, Tryz.ntmps49
    go_wp2_with fail
    refine (c0 _).mono ?_
    rintro e w1 ⟨rfl, rfl⟩
    go_wp2_with fail
    go_ret3
    exact long_none HN.out

end Go.Proofs.YtajeghkmgcpgiaaGreatDoor.Lex
