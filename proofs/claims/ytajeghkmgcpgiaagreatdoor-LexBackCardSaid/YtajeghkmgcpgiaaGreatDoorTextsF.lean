/-
  twinstepref03.Unquote, by contract.
-/
import Derived.Test.YtajeghkmgcpgiaaGreatDoorTextsE
namespace Go.Proofs.YtajeghkmgcpgiaaGreatDoor
open Go.RowKit

theorem encI_short (n : Int) : (encI n).length ≤ 6 := by
  unfold encI
  repeat' split
  all_goals simp
theorem bytesOf_list (l : List Int) : (bytesOf l).data.toList.length = l.length := by unfold bytesOf; simp
theorem blanks_le : ∀ l : List UInt8, blanks l ≤ l.length
  | [] => Nat.le_refl 0
  | c :: r => by
    unfold blanks
    have := blanks_le r
    split
    · simpa using this
    · simp
theorem run_two : ∀ (l : List UInt8), (runN 16 2 l 0).2 = 2 → 2 ≤ l.length := by
  intro l h
  have := run_count 16 2 l 0
  omega
theorem starts_some {b : Nat} {l : List UInt8} (h : startsWith b l = true) : 1 ≤ l.length := by
  cases l with
  | nil => cases h
  | cons c r => simp
/-- How long a part is, and what it says. -/
theorem esc_size {r t : List UInt8} {k : Nat} (h : escL r = some (t, k)) : 2 ≤ k ∧ k ≤ r.length + 1 ∧ t.length ≤ 6 := by
  cases r with
  | nil => cases h
  | cons b u =>
    rw [escL] at h
    split at h
    · rename_i hb
      injection h with h
      injection h with h1 h2
      subst h1 h2
      refine ⟨by split <;> omega, ?_, by simp⟩
      split
      · rename_i hs; have := starts_some hs; simp only [List.length_cons]; omega
      · simp only [List.length_cons]; omega
    · split at h
      · injection h with h
        injection h with h1 h2
        subst h1 h2
        simp
      · split at h
        · split at h
          · rename_i h2
            injection h with h
            injection h with h3 h4
            subst h3 h4
            have := run_two _ h2
            simp; omega
          · cases h
        · split at h
          · injection h with h
            injection h with h1 h2
            subst h1 h2
            have := blanks_le u
            simp; omega
          · split at h
            · rename_i hu
              split at h
              · rename_i hx
                injection h with h
                injection h with h1 h2
                subst h1 h2
                have h3 := starts_some hx.2.2
                rw [List.length_drop] at h3
                rw [bytesOf_list]
                have := encI_short (runN 16 u.length (u.drop 1) 0).1
                simp only [List.length_cons]
                omega
              · cases h
            · split at h
              · injection h with h
                injection h with h1 h2
                subst h1 h2
                have := run_count 10 3 (b :: u) 0
                simp only [List.length_cons] at this
                simp only [List.length_cons, List.length_nil]
                omega
              · cases h
theorem part_size {q : Nat} {l t : List UInt8} {k : Nat} (h : partL q l = some (t, k)) : 1 ≤ k ∧ k ≤ l.length ∧ t.length ≤ 6 := by
  cases l with
  | nil => cases h
  | cons c r =>
    rw [partL] at h
    split at h
    · cases h
    · split at h
      · have := esc_size h
        simp only [List.length_cons]; omega
      · injection h with h
        injection h with h1 h2
        subst h1 h2
        simp

def unqT (l : List UInt8) : ByteArray := match unquotL l with | some t => ⟨t.toArray⟩ | none => ⟨#[]⟩
def unqE (l : List UInt8) : Int := match unquotL l with | some _ => 0 | none => 30
def UnqIs (s : ByteArray) (w : World) (e : Ending) (w' : World) : Prop := e = .returned (.tuple #[.string (unqT s.data.toList), .int .i64 (unqE s.data.toList)]) ∧ Below w.heap.size w w'
theorem unq_none {s : ByteArray} {w w' : World} (h : unquotL s.data.toList = none) (hb : Below w.heap.size w w') : UnqIs s w (.returned (.tuple #[.string ⟨#[]⟩, .int .i64 30])) w' := by
  refine ⟨?_, hb⟩
  rw [unqT, unqE, h]
theorem unq_some {s T : ByteArray} {w w' : World} (h : unquotL s.data.toList = some T.data.toList) (hb : Below w.heap.size w w') : UnqIs s w (.returned (.tuple #[.string T, .int .i64 0])) w' := by
  refine ⟨?_, hb⟩
  obtain ⟨⟨l⟩⟩ := T
  rw [unqT, unqE, h]

theorem unq_short {s : ByteArray} (h : s.size < 2) : unquotL s.data.toList = none := by
  obtain ⟨⟨l⟩⟩ := s
  have hl : l.length < 2 := h
  match l, hl with
  | [], _ => rfl
  | [c], _ =>
    show unquotL [c] = none
    rw [unquotL]
    split
    · show partsL c.toNat 1 [] = none
      rw [partsL, partL]
      simp
    · rfl
theorem unq_other {s : ByteArray} (h : 2 ≤ s.size) (hq : ¬ (byteAt s 0 = 34 ∨ byteAt s 0 = 39)) : unquotL s.data.toList = none := by
  obtain ⟨c, e, hd⟩ := drop_at s 0 (by omega)
  rw [List.drop_zero] at hd
  rw [hd, unquotL, e, if_neg hq]
theorem unq_in {s : ByteArray} (h : 2 ≤ s.size) (hq : byteAt s 0 = 34 ∨ byteAt s 0 = 39) : unquotL s.data.toList = partsL (byteAt s 0) s.size (s.data.toList.drop 1) := by
  obtain ⟨c, e, hd⟩ := drop_at s 0 (by omega)
  have hl : s.data.toList.length = s.size := rfl
  rw [List.drop_zero] at hd
  rw [hd] at hl
  rw [hd, unquotL, e, if_pos hq]
  simp only [List.length_cons] at hl
  rw [show (List.drop (0 + 1) s.data.toList).length + 1 = s.size from hl, ← hd]

theorem parts_stop {s : ByteArray} {q m p : Nat} (hq : q < 256) (hn : partL q (s.data.toList.drop p) = none) (hp : p ≤ s.size) :
    partsL q (m + 1) (s.data.toList.drop p) = if p + 1 = s.size ∧ byteAt s p = q then some [] else none := by
  have hl : s.data.toList.length = s.size := rfl
  rw [partsL, hn]
  simp only []
  by_cases h : p < s.size
  · obtain ⟨c, e, hd⟩ := drop_at s p h
    rw [hd, ← e]
    by_cases h1 : p + 1 = s.size ∧ c.toNat = q
    · rw [if_pos h1, List.drop_of_length_le (by omega), if_pos (by rw [← h1.2, UInt8.ofNat_toNat])]
    · rw [if_neg h1, if_neg]
      intro g
      injection g with g1 g2
      refine h1 ⟨?_, ?_⟩
      · have := congrArg List.length g2
        rw [List.length_drop] at this
        simp at this
        omega
      · rw [g1, UInt8.toNat_ofNat']; omega
  · rw [List.drop_of_length_le (show s.data.toList.length ≤ p by omega), if_neg (fun g => by cases g), if_neg (fun g => by have := g.1; omega)]

set_option maxHeartbeats 2000000 in
set_option maxRecDepth 100000 in
theorem ref_unquote (s : ByteArray) (w : World) (hs : s.size ≤ 100000000) :
    Calls Tryz.prog 56 #[.string s] w (UnqIs s w) := by
  by_cases h2 : 2 ≤ s.size
  · have hx := run_index_at (P := Tryz.prog) 9 s 0 0 Tryz.underlying9 (by omega) rfl
    have h2' : ¬ (s.size : Int) < 2 := by omega
    have hql := byteAt_lt s 0
    by_cases hq : byteAt s 0 = 34 ∨ byteAt s 0 = 39
    · have hin := unq_in h2 hq
      have cp := fun (p : Nat) w => ref_part s p (byteAt s 0) w (by omega)
      have hst := fun (m p : Nat) => parts_stop (s := s) (q := byteAt s 0) (m := m) (p := p) hql
      generalize byteAt s 0 = q at *
      have HI := Lib.hid hin
      have HS := Lib.hid hst
      clear hin hst
      rcases hq with h | h
      · have t1 : ((q : Int) != 34) = false := by rw [h]; rfl
        clear h
        go_enter Tryz.func56, Tryz.ntmps56
        go_wp2
        go_loopg [4, 5] (s.size - 1) (fun r v i wr => ∃ (T : ByteArray) (p m : Nat), r = s.size - p ∧ v = .string T ∧ i = .int .i64 p ∧ 1 ≤ p ∧ p ≤ s.size ∧ T.size ≤ 6 * p ∧ Below w.heap.size w wr ∧ s.size - p + 1 ≤ m ∧
          unquotL s.data.toList = (partsL q m (s.data.toList.drop p)).map (T.data.toList ++ ·))
        case atStart => exact ⟨⟨#[]⟩, 1, s.size, rfl, rfl, rfl, by omega, by omega, by show 0 ≤ 6; omega, Below.refl _ _, by omega, by rw [HI.out]; simp⟩
        case round =>
          obtain ⟨T, p, m, rfl, rfl, rfl, hp1, hps, hT, hb, hm, hu⟩ := hrel
          obtain ⟨m, rfl⟩ : ∃ m', m = m' + 1 := ⟨m - 1, by omega⟩
          have c := cp p wr
          unfold PartIs at c
          have HB := Lib.hid hb
          clear hb
          cases hpl : partL q (s.data.toList.drop p) with
          | none =>
            have hpt : partT q (s.data.toList.drop p) = ⟨#[]⟩ := by rw [partT, hpl]
            have hpk : ((partK q (s.data.toList.drop p) : Nat) : Int) = 0 := by rw [partK, hpl]; rfl
            rw [hpt, hpk] at c
            rw [HS.out m p hpl hps] at hu
            clear hpt hpk hpl hm cp
            by_cases h1 : p + 1 = s.size
            · have hy := run_index_at (P := Tryz.prog) 9 s (p : Int) p Tryz.underlying9 (by omega) rfl
              have e1 : ((p : Int) != (s.size : Int) - 1) = false := by rw [bne_eq_false_iff_eq]; omega
              by_cases h2 : byteAt s p = q
              · rw [if_pos ⟨h1, h2⟩] at hu
                have HU := Lib.hid hu
                have e2 : (((byteAt s p : Nat) : Int) != (q : Int)) = false := by rw [bne_eq_false_iff_eq]; omega
                generalize byteAt s p = y at *
                clear hu h1 h2
                go_wp2_with fail
                refine c.mono ?_
                rintro e w1 ⟨rfl, b1⟩
                have B1 := Lib.hid (HB.out.trans (b1.mono HB.out.size))
                clear b1
                go_wp2
                go_quiet (fail)
                have B2 := Lib.hid (below_drewN B1.out nq)
                go_wp2
                go_ret2
                exact unq_some (by rw [HU.out]; simp) B2.out
              · rw [if_neg (fun g => h2 g.2)] at hu
                have HU := Lib.hid hu
                have e2 : (((byteAt s p : Nat) : Int) != (q : Int)) = true := by rw [bne_iff_ne]; omega
                generalize byteAt s p = y at *
                clear hu h1 h2
                go_wp2_with fail
                refine c.mono ?_
                rintro e w1 ⟨rfl, b1⟩
                have B1 := Lib.hid (HB.out.trans (b1.mono HB.out.size))
                clear b1
                go_wp2
                go_quiet (fail)
                have B2 := Lib.hid (below_drewN B1.out nq)
                go_wp2
                go_ret2
                exact unq_none (by rw [HU.out]; rfl) B2.out
            · rw [if_neg (fun g => h1 g.1)] at hu
              have HU := Lib.hid hu
              have e1 : ((p : Int) != (s.size : Int) - 1) = true := by rw [bne_iff_ne]; omega
              clear hu h1
              go_wp2_with fail
              refine c.mono ?_
              rintro e w1 ⟨rfl, b1⟩
              have B1 := Lib.hid (HB.out.trans (b1.mono HB.out.size))
              clear b1
              go_wp2
              go_quiet (fail)
              have B2 := Lib.hid (below_drewN B1.out nq)
              go_wp2
              go_ret2
              exact unq_none (by rw [HU.out]; rfl) B2.out
          | some x =>
            obtain ⟨t, k⟩ := x
            have hpt : partT q (s.data.toList.drop p) = ⟨t.toArray⟩ := by rw [partT, hpl]
            have hpk : partK q (s.data.toList.drop p) = k := by rw [partK, hpl]
            rw [hpt, hpk] at c
            obtain ⟨hk1, hk2, ht⟩ := part_size hpl
            rw [List.length_drop, show s.data.toList.length = s.size from rfl] at hk2
            have hts : (⟨t.toArray⟩ : ByteArray).size ≤ 6 := ht
            have hcat := fun w => run_string_add_sum (P := Tryz.prog) (w := w) T ⟨t.toArray⟩ (by omega)
            have hk0 : ((k : Int) == 0) = false := by rw [beq_eq_false_iff_ne]; omega
            have hu2 : unquotL s.data.toList = (partsL q m (s.data.toList.drop (p + k))).map ((T ++ ⟨t.toArray⟩).data.toList ++ ·) := by
              rw [hu, partsL, hpl]
              simp only []
              rw [List.drop_drop, Option.map_map, cat_list]
              congr 1
              funext z
              simp
            have HU := Lib.hid hu2
            have hsz : (T ++ ⟨t.toArray⟩).size ≤ 6 * (p + k) := by rw [ByteArray.size_append]; omega
            have HZ := Lib.hid hsz
            have hp9 : (p : Int) ≤ 100000000 := by omega
            have hk9 : (k : Int) ≤ 100000000 := by omega
            clear hpt hpk hpl hu hu2 cp hsz hts ht
            generalize T ++ ⟨t.toArray⟩ = T2 at *
            go_wp2_with fail
            refine c.mono ?_
            rintro e w1 ⟨rfl, b1⟩
            have B1 := Lib.hid (HB.out.trans (b1.mono HB.out.size))
            clear b1
            go_wp2
            go_roundg (s.size - (p + k))
            case measure => omega
            case rel => exact ⟨T2, p + k, m, rfl, rfl, by go_num, by omega, by omega, HZ.out, B1.out, by omega, HU.out⟩
      · have t1 : ((q : Int) != 34) = true := by rw [h]; rfl
        have t2 : ((q : Int) != 39) = false := by rw [h]; rfl
        clear h
        go_enter Tryz.func56, Tryz.ntmps56
        go_wp2
        go_loopg [4, 5] (s.size - 1) (fun r v i wr => ∃ (T : ByteArray) (p m : Nat), r = s.size - p ∧ v = .string T ∧ i = .int .i64 p ∧ 1 ≤ p ∧ p ≤ s.size ∧ T.size ≤ 6 * p ∧ Below w.heap.size w wr ∧ s.size - p + 1 ≤ m ∧
          unquotL s.data.toList = (partsL q m (s.data.toList.drop p)).map (T.data.toList ++ ·))
        case atStart => exact ⟨⟨#[]⟩, 1, s.size, rfl, rfl, rfl, by omega, by omega, by show 0 ≤ 6; omega, Below.refl _ _, by omega, by rw [HI.out]; simp⟩
        case round =>
          obtain ⟨T, p, m, rfl, rfl, rfl, hp1, hps, hT, hb, hm, hu⟩ := hrel
          obtain ⟨m, rfl⟩ : ∃ m', m = m' + 1 := ⟨m - 1, by omega⟩
          have c := cp p wr
          unfold PartIs at c
          have HB := Lib.hid hb
          clear hb
          cases hpl : partL q (s.data.toList.drop p) with
          | none =>
            have hpt : partT q (s.data.toList.drop p) = ⟨#[]⟩ := by rw [partT, hpl]
            have hpk : ((partK q (s.data.toList.drop p) : Nat) : Int) = 0 := by rw [partK, hpl]; rfl
            rw [hpt, hpk] at c
            rw [HS.out m p hpl hps] at hu
            clear hpt hpk hpl hm cp
            by_cases h1 : p + 1 = s.size
            · have hy := run_index_at (P := Tryz.prog) 9 s (p : Int) p Tryz.underlying9 (by omega) rfl
              have e1 : ((p : Int) != (s.size : Int) - 1) = false := by rw [bne_eq_false_iff_eq]; omega
              by_cases h2 : byteAt s p = q
              · rw [if_pos ⟨h1, h2⟩] at hu
                have HU := Lib.hid hu
                have e2 : (((byteAt s p : Nat) : Int) != (q : Int)) = false := by rw [bne_eq_false_iff_eq]; omega
                generalize byteAt s p = y at *
                clear hu h1 h2
                go_wp2_with fail
                refine c.mono ?_
                rintro e w1 ⟨rfl, b1⟩
                have B1 := Lib.hid (HB.out.trans (b1.mono HB.out.size))
                clear b1
                go_wp2
                go_quiet (fail)
                have B2 := Lib.hid (below_drewN B1.out nq)
                go_wp2
                go_ret2
                exact unq_some (by rw [HU.out]; simp) B2.out
              · rw [if_neg (fun g => h2 g.2)] at hu
                have HU := Lib.hid hu
                have e2 : (((byteAt s p : Nat) : Int) != (q : Int)) = true := by rw [bne_iff_ne]; omega
                generalize byteAt s p = y at *
                clear hu h1 h2
                go_wp2_with fail
                refine c.mono ?_
                rintro e w1 ⟨rfl, b1⟩
                have B1 := Lib.hid (HB.out.trans (b1.mono HB.out.size))
                clear b1
                go_wp2
                go_quiet (fail)
                have B2 := Lib.hid (below_drewN B1.out nq)
                go_wp2
                go_ret2
                exact unq_none (by rw [HU.out]; rfl) B2.out
            · rw [if_neg (fun g => h1 g.1)] at hu
              have HU := Lib.hid hu
              have e1 : ((p : Int) != (s.size : Int) - 1) = true := by rw [bne_iff_ne]; omega
              clear hu h1
              go_wp2_with fail
              refine c.mono ?_
              rintro e w1 ⟨rfl, b1⟩
              have B1 := Lib.hid (HB.out.trans (b1.mono HB.out.size))
              clear b1
              go_wp2
              go_quiet (fail)
              have B2 := Lib.hid (below_drewN B1.out nq)
              go_wp2
              go_ret2
              exact unq_none (by rw [HU.out]; rfl) B2.out
          | some x =>
            obtain ⟨t, k⟩ := x
            have hpt : partT q (s.data.toList.drop p) = ⟨t.toArray⟩ := by rw [partT, hpl]
            have hpk : partK q (s.data.toList.drop p) = k := by rw [partK, hpl]
            rw [hpt, hpk] at c
            obtain ⟨hk1, hk2, ht⟩ := part_size hpl
            rw [List.length_drop, show s.data.toList.length = s.size from rfl] at hk2
            have hts : (⟨t.toArray⟩ : ByteArray).size ≤ 6 := ht
            have hcat := fun w => run_string_add_sum (P := Tryz.prog) (w := w) T ⟨t.toArray⟩ (by omega)
            have hk0 : ((k : Int) == 0) = false := by rw [beq_eq_false_iff_ne]; omega
            have hu2 : unquotL s.data.toList = (partsL q m (s.data.toList.drop (p + k))).map ((T ++ ⟨t.toArray⟩).data.toList ++ ·) := by
              rw [hu, partsL, hpl]
              simp only []
              rw [List.drop_drop, Option.map_map, cat_list]
              congr 1
              funext z
              simp
            have HU := Lib.hid hu2
            have hsz : (T ++ ⟨t.toArray⟩).size ≤ 6 * (p + k) := by rw [ByteArray.size_append]; omega
            have HZ := Lib.hid hsz
            have hp9 : (p : Int) ≤ 100000000 := by omega
            have hk9 : (k : Int) ≤ 100000000 := by omega
            clear hpt hpk hpl hu hu2 cp hsz hts ht
            generalize T ++ ⟨t.toArray⟩ = T2 at *
            go_wp2_with fail
            refine c.mono ?_
            rintro e w1 ⟨rfl, b1⟩
            have B1 := Lib.hid (HB.out.trans (b1.mono HB.out.size))
            clear b1
            go_wp2
            go_roundg (s.size - (p + k))
            case measure => omega
            case rel => exact ⟨T2, p + k, m, rfl, rfl, by go_num, by omega, by omega, HZ.out, B1.out, by omega, HU.out⟩
    · have HR := Lib.hid (unq_other h2 hq)
      have t1 : (((byteAt s 0 : Nat) : Int) != 34) = true := by rw [bne_iff_ne]; omega
      have t2 : (((byteAt s 0 : Nat) : Int) != 39) = true := by rw [bne_iff_ne]; omega
      generalize byteAt s 0 = q at *
      clear hq
      go_enter Tryz.func56, Tryz.ntmps56
      go_wp2
      go_ret2
      exact unq_none HR.out (Below.refl _ _)
  · have HR := Lib.hid (unq_short (s := s) (by omega))
    have h2' : (s.size : Int) < 2 := by omega
    go_enter Tryz.func56, Tryz.ntmps56
    go_wp2
    go_ret2
    exact unq_none HR.out (Below.refl _ _)

end Go.Proofs.YtajeghkmgcpgiaaGreatDoor
