/-
  Package texts: Unquote, by contract.
-/
import Derived.Test.YtajeghkmgcpgiaaGreatDoorTxEscape
import Derived.Test.YtajeghkmgcpgiaaGreatDoorTextsGm
import Derived.Test.YtajeghkmgcpgiaaGreatDoorOwnBuilder
import Derived.WalkMore
import Derived.Deep.LoopGhost
namespace Go.Proofs.YtajeghkmgcpgiaaGreatDoor
open Go.RowKit

theorem unq_other1 {s : ByteArray} (h : 0 < s.size) (hq : ¬ (byteAt s 0 = 34 ∨ byteAt s 0 = 39)) : unquotL s.data.toList = none := by
  obtain ⟨c, e, hd⟩ := drop_at s 0 h
  rw [List.drop_zero] at hd
  rw [hd, unquotL, e, if_neg hq]
theorem unq_in1 {s : ByteArray} (h : 0 < s.size) (hq : byteAt s 0 = 34 ∨ byteAt s 0 = 39) : unquotL s.data.toList = partsL (byteAt s 0) s.size (s.data.toList.drop 1) := by
  obtain ⟨c, e, hd⟩ := drop_at s 0 h
  have hl : s.data.toList.length = s.size := rfl
  rw [List.drop_zero] at hd
  rw [hd] at hl
  rw [hd, unquotL, e, if_pos hq]
  simp only [List.length_cons] at hl
  rw [show (List.drop (0 + 1) s.data.toList).length + 1 = s.size from hl, ← hd]
theorem tail_list {s : ByteArray} {p : Nat} : (s.extract p s.size).data.toList = s.data.toList.drop p := by
  have hl : s.data.toList.length = s.size := rfl
  rw [Lib.extract_data, List.take_of_length_le (by rw [List.length_drop, hl]; omega)]
/-- One part more. -/
theorem parts_step {q m : Nat} {l t : List UInt8} {k : Nat} (h : partL q l = some (t, k)) (acc : List UInt8) : (partsL q (m + 1) l).map (acc ++ ·) = (partsL q m (l.drop k)).map ((acc ++ t) ++ ·) := by
  rw [partsL, h]
  simp only []
  rw [Option.map_map]
  congr 1
  funext z
  simp

/-- What stands behind the parts that are read: from place p on. -/
structure UnqAt (s : ByteArray) (q : Nat) (p : Nat) (acc : List UInt8) : Prop where
  le : p ≤ s.size
  says : ∃ m, s.size - p + 1 ≤ m ∧ unquotL s.data.toList = (partsL q m (s.data.toList.drop p)).map (acc ++ ·)
  small : acc.length ≤ 6 * p
theorem UnqAt.more {s : ByteArray} {q p k : Nat} {acc t : List UInt8} (h : UnqAt s q p acc) (hp : partL q (s.data.toList.drop p) = some (t, k)) : UnqAt s q (p + k) (acc ++ t) ∧ 1 ≤ k ∧ p + k ≤ s.size := by
  obtain ⟨h1, h2, h3⟩ := part_size hp
  have hl : s.data.toList.length = s.size := rfl
  rw [List.length_drop, hl] at h2
  obtain ⟨m, hm, hs⟩ := h.says
  obtain ⟨m, rfl⟩ : ∃ m', m = m' + 1 := ⟨m - 1, by omega⟩
  have hle := h.le
  have hsm := h.small
  refine ⟨⟨by omega, ⟨m, by omega, ?_⟩, by rw [List.length_append]; omega⟩, h1, by omega⟩
  rw [hs, parts_step hp, List.drop_drop]
/-- No part stands at p. -/
theorem UnqAt.stop {s : ByteArray} {q p : Nat} {acc : List UInt8} (hq : q < 256) (h : UnqAt s q p acc) (hn : partL q (s.data.toList.drop p) = none) :
    unquotL s.data.toList = if p + 1 = s.size ∧ byteAt s p = q then some acc else none := by
  obtain ⟨m, hm, hs⟩ := h.says
  obtain ⟨m, rfl⟩ : ∃ m', m = m' + 1 := ⟨m - 1, by omega⟩
  rw [hs, parts_stop hq hn h.le]
  split
  · simp
  · rfl

theorem unq_at_none {s : ByteArray} {q p : Nat} {acc : List UInt8} {w w' : World} (hq : q < 256) (h : UnqAt s q p acc) (hn : partL q (s.data.toList.drop p) = none) (hne : ¬ (p + 1 = s.size ∧ byteAt s p = q)) (hb : Below w.heap.size w w') :
    UnqIs s w (.returned (.tuple #[.string ⟨#[]⟩, .int .i64 30])) w' := by
  refine unq_none ?_ hb
  rw [h.stop hq hn, if_neg hne]
theorem unq_at_some {s : ByteArray} {q p : Nat} {acc : List UInt8} {w w' : World} (hq : q < 256) (h : UnqAt s q p acc) (hn : partL q (s.data.toList.drop p) = none) (h1 : p + 1 = s.size) (h2 : byteAt s p = q) (hb : Below w.heap.size w w') :
    UnqIs s w (.returned (.tuple #[.string ⟨acc.toArray⟩, .int .i64 0])) w' := by
  refine unq_some ?_ hb
  rw [h.stop hq hn, if_pos ⟨h1, h2⟩]

set_option maxHeartbeats 4000000 in
set_option maxRecDepth 100000 in
theorem own_unquote (s : ByteArray) (w : World) (hs : s.size ≤ 100000000) :
    Calls Tryz.prog 77 #[.string s] w (UnqIs s w) := by
  by_cases h0 : 0 < s.size
  · have he : s.toList.isEmpty = false := by
      have := Num.part_empty (s := s) (i := 0) (Nat.le_refl _)
      rw [Num.whole_text, decide_eq_false (by omega)] at this
      exact this
    have hx := run_index_at (P := Tryz.prog) 9 s 0 0 Tryz.underlying9 h0 rfl
    by_cases hq : byteAt s 0 = 34 ∨ byteAt s 0 = 39
    · have hq9 := byteAt_lt s 0
      have HI : UnqAt s (byteAt s 0) 1 [] := ⟨by omega, ⟨s.size, by omega, by rw [unq_in1 h0 hq]; simp⟩, by simp⟩
      generalize byteAt s 0 = q at *
      have HI := Lib.hid HI
      have HQ := Lib.hid hq
      have t34 : q = 34 → ((q : Int) != 34) = false := fun h => by rw [h]; rfl
      have t39 : q = 39 → ((q : Int) != 34) = true ∧ ((q : Int) != 39) = false := fun h => by rw [h]; exact ⟨rfl, rfl⟩
      rcases hq with hq | hq
      · have t1 := t34 hq
        clear t34 t39 hq
        go_enter Tryz.func77, Tryz.ntmps77
        go_wp2_with fail
        go_step3
        go_wp2_with fail
        go_step3
        go_wp2_with fail
        clear t1 hx he
        go_loopg [6] (s.size - 1) (fun r i wr => ∃ (p : Nat) (acc : List UInt8), r = s.size - p ∧ i = .int .i64 p ∧ UnqAt s q p acc ∧ Bld w w.heap.size acc wr)
        case atStart => exact ⟨1, [], rfl, rfl, HI.out, Bld.fresh w⟩
        case round =>
          obtain ⟨p, acc, rfl, rfl, hu, hb⟩ := hrel
          have hle := hu.le
          have hsm := hu.small
          have HU := Lib.hid hu
          have HB := Lib.hid hb
          clear hu hb
          by_cases hlt : p < s.size
          · have hlt' : (p : Int) < s.size := by omega
            have hx := run_index_at (P := Tryz.prog) 9 s (p : Int) p Tryz.underlying9 hlt rfl
            by_cases hbq : byteAt s p = q
            · have hn := part_bad hlt (.inl hbq)
              have HN := Lib.hid hn
              have t1 : (((byteAt s p : Nat) : Int) == (q : Int)) = true := by rw [beq_iff_eq]; omega
              by_cases h1 : p + 1 = s.size
              · have e1 : ((p : Int) != (s.size : Int) - 1) = false := by rw [bne_eq_false_iff_eq]; omega
                have HR := Lib.hid (fun w' hb => unq_at_some (w := w) (w' := w') hq9 HU.out HN.out h1 hbq hb)
                have cb := builder_text w w.heap.size acc wr HB.out
                clear hn hbq h1
                generalize byteAt s p = b at *
                go_wp2_with fail
                refine cb.mono ?_
                rintro e w1 ⟨rfl, b1⟩
                have B1 := Lib.hid b1
                clear b1 cb
                go_wp2_with fail
                rw [Exit.noGoto_ret]
                go_ret2
                exact HR.out _ B1.out.low
              · have e1 : ((p : Int) != (s.size : Int) - 1) = true := by rw [bne_iff_ne]; omega
                have HR := Lib.hid (fun w' hb => unq_at_none (w := w) (w' := w') hq9 HU.out HN.out (fun g => h1 g.1) hb)
                clear hn hbq h1
                generalize byteAt s p = b at *
                go_wp2_with fail
                rw [Exit.noGoto_ret]
                go_ret2
                exact HR.out _ HB.out.low
            · have t1 : (((byteAt s p : Nat) : Int) == (q : Int)) = false := by rw [beq_eq_false_iff_ne]; omega
              by_cases hln : byteAt s p = 10 ∨ byteAt s p = 13
              · have hn := part_bad (q := q) hlt (.inr hln)
                have HR := Lib.hid (unq_at_none (w := w) (w' := wr) hq9 HU.out hn (fun g => hbq g.2) HB.out.low)
                clear hn hbq
                generalize byteAt s p = b at *
                rcases hln with hb | hb
                · have t2 : ((b : Int) == 10) = true := by rw [hb]; rfl
                  clear hb
                  go_wp2_with fail
                  rw [Exit.noGoto_ret]
                  go_ret2
                  exact HR.out
                · have t2 : ((b : Int) == 10) = false := by rw [hb]; rfl
                  have t3 : ((b : Int) == 13) = true := by rw [hb]; rfl
                  clear hb
                  go_wp2_with fail
                  rw [Exit.noGoto_ret]
                  go_ret2
                  exact HR.out
              · have t2 : (((byteAt s p : Nat) : Int) == 10) = false := by rw [beq_eq_false_iff_ne]; omega
                have t3 : (((byteAt s p : Nat) : Int) == 13) = false := by rw [beq_eq_false_iff_ne]; omega
                by_cases h92 : byteAt s p = 92
                · have t4 : (((byteAt s p : Nat) : Int) == 92) = true := by rw [beq_iff_eq]; omega
                  have hsl := run_behind (P := Tryz.prog) 9 s ((p : Int) + 1) (p + 1) Tryz.underlying9 (by omega) (by omega)
                  have ce := own_escape (s.extract (p + 1) s.size) wr (by rw [Num.part_size (Nat.le_refl _)]; omega)
                  have hpl := part_esc (q := q) hlt (fun g => by rcases g with g | g; exact hbq g; exact hln g) h92
                  unfold EscIs escT escN escO at ce
                  rw [tail_list] at ce
                  cases hes : escL (s.data.toList.drop (p + 1)) with
                  | none =>
                    rw [hes] at ce hpl
                    have HR := Lib.hid (fun w' hb => unq_at_none (w := w) (w' := w') hq9 HU.out hpl (fun g => hbq g.2) hb)
                    simp only [Option.isSome_none] at ce
                    clear hpl hln hbq h92 hes
                    generalize byteAt s p = b at *
                    generalize s.extract (p + 1) s.size = z at *
                    go_wp2_with fail
                    refine ce.mono ?_
                    rintro e w1 ⟨rfl, b1⟩
                    have B1 := Lib.hid (HB.out.below b1)
                    clear b1 ce
                    go_wp2_with fail
                    rw [Exit.noGoto_ret]
                    go_ret2
                    exact HR.out _ B1.out.low
                  | some x =>
                    obtain ⟨t, k⟩ := x
                    obtain ⟨hk2, hk3, ht6⟩ := esc_size hes
                    obtain ⟨k, rfl⟩ : ∃ k', k = k' + 1 := ⟨k - 1, by omega⟩
                    rw [hes] at ce hpl
                    have HM := Lib.hid (HU.out.more hpl)
                    have hkz : (p : Int) + (1 + k) ≤ s.size := by have := HM.out.2.2; omega
                    have hT : (⟨t.toArray⟩ : ByteArray).size ≤ 6 := ht6
                    have hT2 : (⟨t.toArray⟩ : ByteArray).data.toList = t := rfl
                    simp only [Option.isSome_some, Nat.add_sub_cancel] at ce
                    have HT := Lib.hid hT
                    have HT2 := Lib.hid hT2
                    clear hpl hln hbq h92 hes hT hT2 hk3 ht6
                    generalize byteAt s p = b at *
                    generalize s.extract (p + 1) s.size = z at *
                    generalize (⟨t.toArray⟩ : ByteArray) = T at *
                    go_wp2_with fail
                    refine ce.mono ?_
                    rintro e w1 ⟨rfl, b1⟩
                    have cw := write_text w w.heap.size acc T w1 (HB.out.below b1) (by omega) (by have := HT.out; omega)
                    clear b1 ce
                    go_wp2_with fail
                    refine cw.mono ?_
                    rintro e w2 ⟨rfl, b2⟩
                    rw [HT2.out] at b2
                    have B2 := Lib.hid b2
                    clear b2 cw
                    go_wp2_with fail
                    go_roundg (s.size - (p + (k + 1)))
                    case measure => omega
                    case rel => exact ⟨p + (k + 1), _, rfl, by congr 1 <;> omega, HM.out.1, B2.out⟩
                · have t4 : (((byteAt s p : Nat) : Int) == 92) = false := by rw [beq_eq_false_iff_ne]; omega
                  have hp := part_plain hlt (fun g => by rcases g with g | g; exact hbq g; exact hln g) h92
                  rw [one_list hlt] at hp
                  have HM := Lib.hid (HU.out.more hp)
                  have cw := write_byte w w.heap.size acc (byteAt s p) wr HB.out (byteAt_lt s p) (by omega)
                  clear hp hln hbq h92
                  generalize byteAt s p = b at *
                  go_wp2_with fail
                  refine cw.mono ?_
                  rintro e w1 ⟨rfl, b1⟩
                  have B1 := Lib.hid b1
                  clear b1 cw
                  go_wp2_with fail
                  go_roundg (s.size - (p + 1))
                  case measure => omega
                  case rel => exact ⟨p + 1, _, rfl, by go_num, HM.out.1, B1.out⟩
          · have hn := part_end (q := q) (s := s) (p := p) (by omega)
            have e1 : ((p : Int) != (s.size : Int) - 1) = true := by rw [bne_iff_ne]; omega
            have HR := Lib.hid (unq_at_none (w := w) (w' := wr) hq9 HU.out hn (fun g => by omega) HB.out.low)
            clear hn
            go_wp2_with fail
            rw [Exit.noGoto_ret]
            go_ret2
            exact HR.out
      · obtain ⟨t1, t2⟩ := t39 hq
        clear t34 t39 hq
        go_enter Tryz.func77, Tryz.ntmps77
        go_wp2_with fail
        go_step3
        go_wp2_with fail
        go_step3
        go_wp2_with fail
        clear t1 t2 hx he
        go_loopg [6] (s.size - 1) (fun r i wr => ∃ (p : Nat) (acc : List UInt8), r = s.size - p ∧ i = .int .i64 p ∧ UnqAt s q p acc ∧ Bld w w.heap.size acc wr)
        case atStart => exact ⟨1, [], rfl, rfl, HI.out, Bld.fresh w⟩
        case round =>
          obtain ⟨p, acc, rfl, rfl, hu, hb⟩ := hrel
          have hle := hu.le
          have hsm := hu.small
          have HU := Lib.hid hu
          have HB := Lib.hid hb
          clear hu hb
          by_cases hlt : p < s.size
          · have hlt' : (p : Int) < s.size := by omega
            have hx := run_index_at (P := Tryz.prog) 9 s (p : Int) p Tryz.underlying9 hlt rfl
            by_cases hbq : byteAt s p = q
            · have hn := part_bad hlt (.inl hbq)
              have HN := Lib.hid hn
              have t1 : (((byteAt s p : Nat) : Int) == (q : Int)) = true := by rw [beq_iff_eq]; omega
              by_cases h1 : p + 1 = s.size
              · have e1 : ((p : Int) != (s.size : Int) - 1) = false := by rw [bne_eq_false_iff_eq]; omega
                have HR := Lib.hid (fun w' hb => unq_at_some (w := w) (w' := w') hq9 HU.out HN.out h1 hbq hb)
                have cb := builder_text w w.heap.size acc wr HB.out
                clear hn hbq h1
                generalize byteAt s p = b at *
                go_wp2_with fail
                refine cb.mono ?_
                rintro e w1 ⟨rfl, b1⟩
                have B1 := Lib.hid b1
                clear b1 cb
                go_wp2_with fail
                rw [Exit.noGoto_ret]
                go_ret2
                exact HR.out _ B1.out.low
              · have e1 : ((p : Int) != (s.size : Int) - 1) = true := by rw [bne_iff_ne]; omega
                have HR := Lib.hid (fun w' hb => unq_at_none (w := w) (w' := w') hq9 HU.out HN.out (fun g => h1 g.1) hb)
                clear hn hbq h1
                generalize byteAt s p = b at *
                go_wp2_with fail
                rw [Exit.noGoto_ret]
                go_ret2
                exact HR.out _ HB.out.low
            · have t1 : (((byteAt s p : Nat) : Int) == (q : Int)) = false := by rw [beq_eq_false_iff_ne]; omega
              by_cases hln : byteAt s p = 10 ∨ byteAt s p = 13
              · have hn := part_bad (q := q) hlt (.inr hln)
                have HR := Lib.hid (unq_at_none (w := w) (w' := wr) hq9 HU.out hn (fun g => hbq g.2) HB.out.low)
                clear hn hbq
                generalize byteAt s p = b at *
                rcases hln with hb | hb
                · have t2 : ((b : Int) == 10) = true := by rw [hb]; rfl
                  clear hb
                  go_wp2_with fail
                  rw [Exit.noGoto_ret]
                  go_ret2
                  exact HR.out
                · have t2 : ((b : Int) == 10) = false := by rw [hb]; rfl
                  have t3 : ((b : Int) == 13) = true := by rw [hb]; rfl
                  clear hb
                  go_wp2_with fail
                  rw [Exit.noGoto_ret]
                  go_ret2
                  exact HR.out
              · have t2 : (((byteAt s p : Nat) : Int) == 10) = false := by rw [beq_eq_false_iff_ne]; omega
                have t3 : (((byteAt s p : Nat) : Int) == 13) = false := by rw [beq_eq_false_iff_ne]; omega
                by_cases h92 : byteAt s p = 92
                · have t4 : (((byteAt s p : Nat) : Int) == 92) = true := by rw [beq_iff_eq]; omega
                  have hsl := run_behind (P := Tryz.prog) 9 s ((p : Int) + 1) (p + 1) Tryz.underlying9 (by omega) (by omega)
                  have ce := own_escape (s.extract (p + 1) s.size) wr (by rw [Num.part_size (Nat.le_refl _)]; omega)
                  have hpl := part_esc (q := q) hlt (fun g => by rcases g with g | g; exact hbq g; exact hln g) h92
                  unfold EscIs escT escN escO at ce
                  rw [tail_list] at ce
                  cases hes : escL (s.data.toList.drop (p + 1)) with
                  | none =>
                    rw [hes] at ce hpl
                    have HR := Lib.hid (fun w' hb => unq_at_none (w := w) (w' := w') hq9 HU.out hpl (fun g => hbq g.2) hb)
                    simp only [Option.isSome_none] at ce
                    clear hpl hln hbq h92 hes
                    generalize byteAt s p = b at *
                    generalize s.extract (p + 1) s.size = z at *
                    go_wp2_with fail
                    refine ce.mono ?_
                    rintro e w1 ⟨rfl, b1⟩
                    have B1 := Lib.hid (HB.out.below b1)
                    clear b1 ce
                    go_wp2_with fail
                    rw [Exit.noGoto_ret]
                    go_ret2
                    exact HR.out _ B1.out.low
                  | some x =>
                    obtain ⟨t, k⟩ := x
                    obtain ⟨hk2, hk3, ht6⟩ := esc_size hes
                    obtain ⟨k, rfl⟩ : ∃ k', k = k' + 1 := ⟨k - 1, by omega⟩
                    rw [hes] at ce hpl
                    have HM := Lib.hid (HU.out.more hpl)
                    have hkz : (p : Int) + (1 + k) ≤ s.size := by have := HM.out.2.2; omega
                    have hT : (⟨t.toArray⟩ : ByteArray).size ≤ 6 := ht6
                    have hT2 : (⟨t.toArray⟩ : ByteArray).data.toList = t := rfl
                    simp only [Option.isSome_some, Nat.add_sub_cancel] at ce
                    have HT := Lib.hid hT
                    have HT2 := Lib.hid hT2
                    clear hpl hln hbq h92 hes hT hT2 hk3 ht6
                    generalize byteAt s p = b at *
                    generalize s.extract (p + 1) s.size = z at *
                    generalize (⟨t.toArray⟩ : ByteArray) = T at *
                    go_wp2_with fail
                    refine ce.mono ?_
                    rintro e w1 ⟨rfl, b1⟩
                    have cw := write_text w w.heap.size acc T w1 (HB.out.below b1) (by omega) (by have := HT.out; omega)
                    clear b1 ce
                    go_wp2_with fail
                    refine cw.mono ?_
                    rintro e w2 ⟨rfl, b2⟩
                    rw [HT2.out] at b2
                    have B2 := Lib.hid b2
                    clear b2 cw
                    go_wp2_with fail
                    go_roundg (s.size - (p + (k + 1)))
                    case measure => omega
                    case rel => exact ⟨p + (k + 1), _, rfl, by congr 1 <;> omega, HM.out.1, B2.out⟩
                · have t4 : (((byteAt s p : Nat) : Int) == 92) = false := by rw [beq_eq_false_iff_ne]; omega
                  have hp := part_plain hlt (fun g => by rcases g with g | g; exact hbq g; exact hln g) h92
                  rw [one_list hlt] at hp
                  have HM := Lib.hid (HU.out.more hp)
                  have cw := write_byte w w.heap.size acc (byteAt s p) wr HB.out (byteAt_lt s p) (by omega)
                  clear hp hln hbq h92
                  generalize byteAt s p = b at *
                  go_wp2_with fail
                  refine cw.mono ?_
                  rintro e w1 ⟨rfl, b1⟩
                  have B1 := Lib.hid b1
                  clear b1 cw
                  go_wp2_with fail
                  go_roundg (s.size - (p + 1))
                  case measure => omega
                  case rel => exact ⟨p + 1, _, rfl, by go_num, HM.out.1, B1.out⟩
          · have hn := part_end (q := q) (s := s) (p := p) (by omega)
            have e1 : ((p : Int) != (s.size : Int) - 1) = true := by rw [bne_iff_ne]; omega
            have HR := Lib.hid (unq_at_none (w := w) (w' := wr) hq9 HU.out hn (fun g => by omega) HB.out.low)
            clear hn
            go_wp2_with fail
            rw [Exit.noGoto_ret]
            go_ret2
            exact HR.out
    · have HR := Lib.hid (unq_other1 h0 hq)
      have t1 : (((byteAt s 0 : Nat) : Int) != 34) = true := by rw [bne_iff_ne]; omega
      have t2 : (((byteAt s 0 : Nat) : Int) != 39) = true := by rw [bne_iff_ne]; omega
      generalize byteAt s 0 = q at *
      clear hq
      go_enter Tryz.func77, Tryz.ntmps77
      go_wp2_with fail
      go_step3
      go_wp2_with fail
      rw [Exit.noGoto_ret]
      go_ret2
      exact unq_none HR.out (Below.refl _ _)
  · have HR := Lib.hid (unq_short (s := s) (by omega))
    have he : s.toList.isEmpty = true := by
      have := Num.part_empty (s := s) (i := 0) (Nat.le_refl _)
      rw [Num.whole_text, decide_eq_true (by omega)] at this
      exact this
    go_enter Tryz.func77, Tryz.ntmps77
    go_wp2_with fail
    go_step3
    go_wp2_with fail
    try rw [Exit.noGoto_ret]
    go_ret2
    exact unq_none HR.out (Below.refl _ _)

end Go.Proofs.YtajeghkmgcpgiaaGreatDoor
