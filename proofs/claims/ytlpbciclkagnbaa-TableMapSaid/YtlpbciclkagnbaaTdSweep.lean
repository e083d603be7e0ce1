/-
  Layer 13: the developers' table: all dead places taken out.
-/
import Derived.Test.YtlpbciclkagnbaaTdDrop
namespace Go.Proofs.Ytlpbciclkagnbaa.Td
open Go Go.RowKit Go.Proofs.Ytlpbciclkagnbaa.Pl Go.Proofs.Ytlpbciclkagnbaa.Tb

/-- What becomes of a place when the ones of the blocks s are looked at. -/
def sweep1 (s : List Nat) (q : Plc) : Option Plc := if q.b ∈ s then (if q.v.kind = 0 then none else some (putN false q)) else some q
def sweep (l : List Plc) (s : List Nat) : List Plc := l.filterMap (sweep1 s)
theorem sweep_nil (l : List Plc) : sweep l [] = l := by
  unfold sweep
  rw [show sweep1 [] = some from funext (fun q => if_neg List.not_mem_nil)]
  exact List.filterMap_some
theorem sweep_step (l : List Plc) (s : List Nat) (g : Nat) : sweep l (s ++ [g]) = sweep (sweep l s) [g] := by
  unfold sweep
  rw [List.filterMap_filterMap]
  congr 1
  funext q
  unfold sweep1
  by_cases h1 : q.b ∈ s
  · rw [if_pos h1, if_pos (List.mem_append_left _ h1)]
    by_cases h0 : q.v.kind = 0
    · rw [if_pos h0]; rfl
    · rw [if_neg h0]
      show _ = (if (putN false q).b ∈ [g] then _ else _)
      by_cases h2 : q.b ∈ [g]
      · rw [if_pos (show (putN false q).b ∈ [g] from h2), if_neg (show ¬ (putN false q).v.kind = 0 from h0)]
        rfl
      · rw [if_neg (show ¬ (putN false q).b ∈ [g] from h2)]
  · rw [if_neg h1]
    show _ = (if q.b ∈ [g] then _ else _)
    by_cases h2 : q.b ∈ [g]
    · rw [if_pos (List.mem_append_right _ h2), if_pos h2]
    · rw [if_neg (fun h => (List.mem_append.1 h).elim h1 h2), if_neg h2]
theorem sweep_other {l : List Plc} {g : Nat} (h : ∀ q ∈ l, q.b ≠ g) : sweep l [g] = l := by
  induction l with
  | nil => rfl
  | cons q l ih =>
    unfold sweep at *
    rw [List.filterMap_cons, show sweep1 [g] q = some q from if_neg (fun hm => h q (List.mem_cons_self ..) (List.mem_singleton.1 hm))]
    dsimp only
    rw [ih (fun r hr => h r (List.mem_cons_of_mem _ hr))]
theorem sweep_split {l1 l2 : List Plc} {p : Plc} (h1 : ∀ q ∈ l1, q.b ≠ p.b) (h2 : ∀ q ∈ l2, q.b ≠ p.b) : sweep (l1 ++ p :: l2) [p.b] = if p.v.kind = 0 then l1 ++ l2 else l1 ++ putN false p :: l2 := by
  have e1 := sweep_other h1
  have e2 := sweep_other h2
  unfold sweep at *
  rw [List.filterMap_append, List.filterMap_cons, e1, e2]
  unfold sweep1
  rw [if_pos (List.mem_singleton.2 rfl)]
  split <;> simp_all
theorem sweep_there {l : List Plc} {s : List Nat} {g : Nat} (hg : g ∈ l.map (·.b)) (hn : g ∉ s) : g ∈ (sweep l s).map (·.b) := by
  obtain ⟨q, hq, rfl⟩ := List.mem_map.1 hg
  exact List.mem_map.2 ⟨q, List.mem_filterMap.2 ⟨q, hq, if_neg hn⟩, rfl⟩
theorem sweep_from {l : List Plc} {s : List Nat} {q : Plc} (hq : q ∈ sweep l s) : ∃ r ∈ l, q.b = r.b := by
  obtain ⟨r, hr, h⟩ := List.mem_filterMap.1 hq
  refine ⟨r, hr, ?_⟩
  unfold sweep1 at h
  split at h
  · split at h
    · cases h
    · injection h with h; rw [← h]; rfl
  · injection h with h; rw [h]
theorem sweep_all {l : List Plc} {fd : List Nat} (hd : ∀ q ∈ l, q.v.kind = 0 → q.b ∈ fd) : tblOf (sweep l fd) = (tblOf l).filter alive := by
  induction l with
  | nil => rfl
  | cons q l ih =>
    have ih := ih (fun r hr => hd r (List.mem_cons_of_mem _ hr))
    unfold sweep tblOf at *
    rw [List.filterMap_cons, List.map_cons, List.filter_cons]
    unfold sweep1
    by_cases h0 : q.v.kind = 0
    · rw [if_pos (hd q (List.mem_cons_self ..) h0), if_pos h0, if_neg (by unfold alive pv; simp [h0])]
      exact ih
    · rw [if_pos (show alive (pv q) = true by unfold alive pv; simp [h0])]
      by_cases h1 : q.b ∈ fd
      · rw [if_pos h1, if_neg h0]
        dsimp only
        rw [List.map_cons]
        exact congrArg (pv q :: ·) ih
      · rw [if_neg h1]
        dsimp only
        rw [List.map_cons]
        exact congrArg (pv q :: ·) ih
theorem sweep_notes {l : List Plc} {fd : List Nat} (hn : ∀ q ∈ l, q.noted = true ↔ q.b ∈ fd) : ∀ q ∈ sweep l fd, q.noted = false := by
  intro q hq
  obtain ⟨r, hr, h⟩ := List.mem_filterMap.1 hq
  unfold sweep1 at h
  split at h
  · split at h
    · cases h
    · injection h with h; rw [← h]; rfl
  · rename_i h1
    injection h with h
    subst h
    cases hx : r.noted with
    | false => rfl
    | true => exact absurd ((hn r hr).1 hx) h1
theorem row_item {w : World} {v : Value} {fd : List Nat} (hr : Row w v fd) (i : Nat) (hi : i < fd.length) : ∃ g cap, v = .slice (some ⟨g, 0, none⟩) fd.length cap ∧ w.cell? ⟨g, i, none⟩ = some (.pointer (some ⟨fd[i], 0, none⟩)) := by
  rcases hr.2 with ⟨rfl, h0⟩ | ⟨g, cap, cur, rfl, hb, hg, hc, hm, _⟩
  · omega
  · refine ⟨g, cap, rfl, ?_⟩
    rw [hr.cellAt i (by omega), List.getElem?_eq_getElem (by rw [ptrs_len]; exact hi)]
    unfold ptrs
    rw [List.getElem_map]
    rfl
section
variable {w w' : World} {b mb g : Nat} {l l1 l2 : List Plc} {lv ln : Int} {p : Plc} {vf : Value} {fd G : List Nat}
set_option maxHeartbeats 2000000 in
set_option maxRecDepth 100000 in
theorem sweep_fn (h : TM w b mb l lv ln) (hf : FAt w b vf fd) (hni : NI l fd none) (hl : l.length ≤ 65536) :
    Calls Try.prog 23 #[.pointer (some ⟨b, 0, none⟩)] w (fun e w' => e = .returned (.tuple #[]) ∧ TM w' b mb (sweep l fd) lv ln ∧ FAt w' b (.slice none 0 0) [] ∧ Turns (mb :: tableG b vf l) w w') := by
  have x9 := hf.cell
  have hfl : fd.length ≤ 65536 := Nat.le_trans hni.few hl
  obtain ⟨aa, mm, cc, rfl⟩ := own_some hf.row
  obtain ⟨n, hn⟩ : ∃ n, n = fd.length := ⟨_, rfl⟩
  have hmm : mm = n := by
    rcases hf.row.2 with ⟨e, h0⟩ | ⟨g, cap, cur, e, _⟩
    · injection e with _ e; rw [hn, h0, e]
    · injection e with _ e; rw [hn, e]
  subst hmm
  have HH := Lib.hid h
  have HF := Lib.hid hf
  have HNI := Lib.hid hni
  have HN := Lib.hid hn
  have HNL := Lib.hid (show mm ≤ 65536 by omega)
  clear h hf hni hfl hl hn
  go_enter Try.func23, Try.ntmps23
  go_wp2_with fail
  go_loopg [9] mm (fun r i wr => ∃ k : Nat, r = mm - k ∧ i = .int .i64 (k : Int) ∧ k ≤ mm ∧ TM wr b mb (sweep l (fd.take k)) lv ln ∧ FAt wr b (.slice aa mm cc) fd ∧ Turns (mb :: tableG b (.slice aa mm cc) l) w wr)
  case atStart => exact ⟨0, rfl, rfl, Nat.zero_le _, by rw [List.take_zero, sweep_nil]; exact HH.out, HF.out, Turns.refl _ _⟩
  case round =>
    obtain ⟨k, rfl, rfl, hk, hT, hF, ht⟩ := hrel
    have HT := Lib.hid hT
    have HFR := Lib.hid hF
    have HTU := Lib.hid ht
    clear hT hF ht
    by_cases hlt : k < mm
    · have hki : k < fd.length := by have := HN.out; omega
      obtain ⟨gr, cap, hv, hc⟩ := row_item HFR.out.row k hki
      obtain ⟨g, hg⟩ : ∃ g, g = fd[k] := ⟨_, rfl⟩
      rw [← hg] at hc
      have HG := Lib.hid hg
      have hgn : g ∉ fd.take k := by
        rw [hg]
        intro hm
        obtain ⟨j, hj, e⟩ := List.mem_take_iff_getElem.1 hm
        have := (List.nodup_iff_pairwise_ne.1 HNI.out.nodup)
        rw [List.pairwise_iff_getElem] at this
        exact this j k (by omega) hki (by omega) e
      have hgt := sweep_there (HNI.out.there g (by rw [hg]; exact List.getElem_mem hki)) hgn
      obtain ⟨q, hq, hqb⟩ := List.mem_map.1 hgt
      obtain ⟨a, c, hac⟩ := List.append_of_mem hq
      have hTa := HT.out
      rw [hac] at hTa
      have hT1 := hTa.setNoted (g := q.b) (List.mem_map.2 ⟨q, by simp, rfl⟩) false
      rw [at_split hTa.nd] at hT1
      have hF1 := HFR.out.store hTa (p := q) (by simp) 6 (.bool false)
      have z6 := (hTa.nodes q (by simp)).shape.free 6
      have x6 := (hTa.nodes q (by simp)).noted
      have hsp := split_nd hTa
      have hst : sweep l (fd.take (k + 1)) = if q.v.kind = 0 then a ++ c else a ++ putN false q :: c := by
        rw [List.take_add_one, List.getElem?_eq_getElem hki, ← hg, ← hqb]
        show sweep l (fd.take k ++ [q.b]) = _
        rw [sweep_step, hac, sweep_split hsp.2.2.2.1 hsp.2.2.2.2]
      have hsub : ∀ x ∈ mb :: tableG b (.slice aa mm cc) (a ++ putN false q :: c), x ∈ mb :: tableG b (.slice aa mm cc) l := by
        intro x hx
        rcases List.mem_cons.1 hx with e | hx
        · rw [e]; exact List.mem_cons_self ..
        · unfold tableG at hx ⊢
          rcases List.mem_cons.1 hx with e | hx
          · rw [e]; simp
          · rcases List.mem_append.1 hx with hx | hx
            · simp [hx]
            · obtain ⟨r, hr, e⟩ := List.mem_map.1 hx
              have : ∃ r' ∈ sweep l (fd.take k), r'.b = x := by
                rw [hac]
                rcases List.mem_append.1 hr with hr | hr
                · exact ⟨r, by simp [hr], e⟩
                · rcases List.mem_cons.1 hr with e2 | hr
                  · exact ⟨q, by simp, by rw [← e, e2]; rfl⟩
                  · exact ⟨r, by simp [hr], e⟩
              obtain ⟨r', hr', e'⟩ := this
              obtain ⟨s, hs, e2⟩ := sweep_from hr'
              exact List.mem_cons_of_mem _ (List.mem_cons_of_mem _ (List.mem_append_right _ (List.mem_map.2 ⟨s, hs, by rw [← e2, e']⟩)))
      have hq2 : q.b ∈ mb :: tableG b (.slice aa mm cc) l := hsub q.b (by unfold tableG; simp [putN])
      have hv2 := hv
      rw [← HN.out] at hv2
      injection hv2 with e1 _ e3
      subst e1 e3
      obtain ⟨hd, hhd⟩ : ∃ hd, hd = q.v.kind := ⟨_, rfl⟩
      have q2 := hT1.nodes (putN false q) (by simp)
      have q2 := q2.v0
      have HST := Lib.hid hst
      have HSUB := Lib.hid hsub
      have HT1 := Lib.hid hT1
      have HF1 := Lib.hid hF1
      have HTU1 := Lib.hid (HTU.out.trans (turns_one (w := wr) hq2 6 (.bool false)) (fun _ h => .inl h))
      have HQB := Lib.hid hqb
      have hlt' : (k : Int) < mm := by omega
      have e0 := IntWalk.i64_in ((k : Int) + 1) (by have := HNL.out; omega)
      rw [← hqb] at hc
      have q2 : (wr.setCell ⟨q.b, 6, none⟩ (.bool false)).cell? ⟨q.b, 2, none⟩ = some (.int .u8 (q.v.kind : Int)) := q2
      have cd := dead_fn q.b q.v.kind _ q2
      clear hst hsub hT1 hF1 hqb hac hsp hTa hgt hgn hq hg hq2 hv hhd
      go_upto_region 4 with fail
      generalize wr.setCell ⟨q.b, 6, none⟩ (.bool false) = w1 at *
      by_cases h0 : q.v.kind = 0
      · rw [decide_eq_true h0] at cd
        have H0 := Lib.hid h0
        clear h0
        have c5 := drop_fn (p := putN false q) HT1.out HF1.out
        have c5 : Calls Try.prog 28 #[.pointer (some ⟨b, 0, none⟩), .pointer (some ⟨q.b, 0, none⟩)] w1 _ := c5
        go_wp2_with fail
        refine cd.mono ?_
        rintro e w2 ⟨rfl, rfl⟩
        clear cd
        go_wp2_with fail
        refine c5.mono ?_
        rintro e w3 ⟨rfl, r1, r2, r3⟩
        clear c5
        have HR := Lib.hid (And.intro r1 (And.intro r2 r3))
        clear r1 r2 r3
        go_wp2_with fail
        go_roundg (mm - (k + 1))
        case rel => exact ⟨k + 1, rfl, by rw [Int.natCast_succ], by omega, by rw [HST.out, if_pos H0.out]; exact HR.out.1, HR.out.2.1, HTU1.out.trans HR.out.2.2 (fun x hx => .inl (HSUB.out x hx))⟩
        case measure => omega
      · rw [decide_eq_false h0] at cd
        have H0 := Lib.hid h0
        clear h0
        go_wp2_with fail
        refine cd.mono ?_
        rintro e w2 ⟨rfl, rfl⟩
        clear cd
        go_wp2_with fail
        go_roundg (mm - (k + 1))
        case rel => exact ⟨k + 1, rfl, by rw [Int.natCast_succ], by omega, by rw [HST.out, if_neg H0.out]; exact HT1.out, HF1.out, HTU1.out⟩
        case measure => omega
    · have hkm : k = mm := by omega
      subst hkm
      have hTk := HT.out
      rw [HN.out, List.take_length] at hTk
      have x9 := HFR.out.cell
      have z9 := hTk.head.shape.free 9
      have HTK := Lib.hid hTk
      clear hTk hlt hk
      go_wp2_with fail
      refine bodyPost_end (v := .tuple #[]) (by simp [results, Try.results23, go_sem]) rfl ?_
      exact ⟨rfl, HTK.out.setFad _, ⟨cell_put x9, World.ownsRow_nil _ _ _ _⟩, HTU.out.trans (turns_one (G := mb :: tableG b (.slice aa k cc) l) (by unfold tableG; simp) 9 _) (fun _ h => .inl h)⟩
end
end Go.Proofs.Ytlpbciclkagnbaa.Td
