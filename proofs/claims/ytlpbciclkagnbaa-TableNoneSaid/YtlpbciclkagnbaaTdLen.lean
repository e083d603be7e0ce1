/-
  Layer 13: the developers' table: the length carried on, and drawn back.
-/
import Derived.Test.YtlpbciclkagnbaaTdNext2
namespace Go.Proofs.Ytlpbciclkagnbaa.Td
open Go Go.RowKit Go.Proofs.Ytlpbciclkagnbaa.Pl Go.Proofs.Ytlpbciclkagnbaa.Tb

/-- Numbers from 1 to n that are keys: there are no fewer keys. -/
theorem pigeon : ∀ (n : Nat) (ks : List Vl), (∀ i : Nat, i < n → numV ((i : Int) + 1) ∈ ks) → n ≤ ks.length
  | 0, _, _ => Nat.zero_le _
  | n + 1, ks, h => by
    have h1 := h n (Nat.lt_succ_self n)
    have h2 := pigeon n (ks.erase (numV ((n : Int) + 1))) (fun i hi => (List.mem_erase_of_ne (fun e => by
      unfold numV at e
      rw [Vl.mk.injEq] at e
      omega)).2 (h i (Nat.lt_succ_of_lt hi)))
    rw [List.length_erase_of_mem h1] at h2
    have := List.length_pos_of_mem h1
    omega
def UpT (t : Tbl) (n : Nat) : Prop := ∀ i : Nat, i < n → (getT t (numV ((i : Int) + 1))).kind ≠ 0
theorem tbl_keys (l : List Plc) : (tblOf l).map (·.1) = l.map (·.k) := by unfold tblOf; rw [List.map_map]; rfl
theorem up_le {l : List Plc} {n : Nat} (h : UpT (tblOf l) n) : n ≤ l.length := by
  have := pigeon n (l.map (·.k)) (fun i hi => by
    rcases find_cases l (numV ((i : Int) + 1)) with ⟨_, _, h3, _⟩ | ⟨p, hp, hk, _⟩
    · exact absurd (by rw [h3]; rfl) (h i hi)
    · exact List.mem_map.2 ⟨p, hp, hk⟩)
  rwa [List.length_map] at this
section
variable {w w' : World} {b mb : Nat} {l l1 l2 : List Plc} {lv ln : Int} {p : Plc}
/-- What a call that turns the head alone leaves. -/
structure Head9 (b : Nat) (w w' : World) : Prop where
  turns : Turns [b] w w'
  fad : w'.cell? ⟨b, 9, none⟩ = w.cell? ⟨b, 9, none⟩
theorem Head9.refl (b : Nat) (w : World) : Head9 b w w := ⟨Turns.refl _ _, rfl⟩
theorem Head9.trans {w1 : World} (h : Head9 b w w1) (k : Head9 b w1 w') : Head9 b w w' := ⟨h.turns.trans k.turns (fun _ hx => .inl hx), k.fad.trans h.fad⟩
theorem Head9.of_below (h : Below w.heap.size w w') (hb : b < w.heap.size) : Head9 b w w' := ⟨Turns.of_below h, h.cell (p := ⟨b, 9, none⟩) hb⟩
theorem Head9.set (i : Nat) (hi : i ≠ 9) (x : Value) : Head9 b w (w.setCell ⟨b, i, none⟩ x) :=
  ⟨⟨rfl, rfl, rfl, by simp, fun k _ hn => heap_setCell_other _ _ _ _ (fun e => hn (List.mem_singleton.2 e))⟩, World.cell?_setCell_other _ _ _ _ (ne_off hi)⟩
theorem mem_num (n : Nat) (hn : n ≤ 70000) : (numV ((n : Int) + 1)).In := ⟨by show 3 < 256; decide, by show -9223372036854775808 ≤ (n : Int) + 1; omega, by show (n : Int) + 1 ≤ 9223372036854775807; omega⟩
set_option maxRecDepth 100000 in
set_option maxHeartbeats 1000000 in
theorem lengthen_fn (n0 : Nat) (h : TM w b mb l lv n0) (hu : UpT (tblOf l) n0) (hl : l.length ≤ 65536) :
    Calls Try.prog 29 #[.pointer (some ⟨b, 0, none⟩)] w (fun e w' => e = .returned (.tuple #[]) ∧ ∃ n : Nat, BorderT (tblOf l) n ∧ TM w' b mb l lv n ∧ Head9 b w w') := by
  have HH := Lib.hid h
  have HU := Lib.hid hu
  have HL := Lib.hid hl
  clear h hu hl
  obtain ⟨L, hL⟩ : ∃ L, L = l.length + 1 := ⟨_, rfl⟩
  have HL2 := Lib.hid hL
  clear hL
  go_enter Try.func29, Try.ntmps29
  go_wp2_with fail
  go_loopg [2] (L - n0) (fun r x wr => ∃ n : Nat, r = L - n ∧ UpT (tblOf l) n ∧ TM wr b mb l lv n ∧ Head9 b w wr)
  case atStart => exact ⟨n0, rfl, HU.out, HH.out, Head9.refl _ _⟩
  case round =>
    obtain ⟨n, rfl, hup, hT, h9⟩ := hrel
    have hn := up_le hup
    have HN := Lib.hid (Nat.le_trans hn HL.out)
    have HNL := Lib.hid hn
    have e0 := IntWalk.i64_in ((n : Int) + 1) (by have := HN.out; omega)
    have c := get_fn' hT (numV ((n : Int) + 1)) (mem_num n (by have := HN.out; omega))
    have x11 := hT.head.len
    obtain ⟨⟨k, m⟩, hU⟩ : ∃ u, getT (tblOf l) (numV ((n : Int) + 1)) = u := ⟨_, rfl⟩
    rw [hU] at c
    have HUU := Lib.hid hU
    have HUP := Lib.hid hup
    have HT := Lib.hid hT
    have H9 := Lib.hid h9
    have c : Calls Try.prog 9 #[.pointer (some ⟨b, 0, none⟩), .agg #[.int .u8 3, .int .i64 ((n : Int) + 1)]] wr (fun e w' => e = .returned (.agg #[.int .u8 (k : Int), .int .i64 m]) ∧ Below wr.heap.size wr w') := c
    clear hn hU hup hT h9
    have hfd : ∀ w : World, (Instr.field 24 (.agg #[.int .u8 (k : Int), .int .i64 m]) 0).run Try.prog w = .ok (.int .u8 (k : Int)) w := fun _ => by kernel_rfl
    by_cases hk : k = 0
    · subst hk
      have hfd : ∀ w : World, (Instr.field 24 (.agg #[.int .u8 0, .int .i64 m]) 0).run Try.prog w = .ok (.int .u8 0) w := fun _ => by kernel_rfl
      go_wp2_with fail
      refine c.mono ?_
      rintro e w1 ⟨rfl, hb⟩
      clear c
      have H1 := Lib.hid hb
      clear hb
      go_wp2_with fail
      refine bodyPost_end (v := .tuple #[]) (by simp [results, Try.results29, go_sem]) rfl ?_
      exact ⟨rfl, n, ⟨HUP.out, by rw [HUU.out]⟩, HT.out.below H1.out, H9.out.trans (Head9.of_below H1.out HT.out.head.shape.lt)⟩
    · have hk2 : ¬ (k : Int) = 0 := by omega
      have HK := Lib.hid hk
      clear hk
      go_wp2_with fail
      refine c.mono ?_
      rintro e w1 ⟨rfl, hb⟩
      clear c
      have hT1 := HT.out.below hb
      have y11 := hT1.head.len
      have z11 := hT1.head.shape.free 11
      have H1 := Lib.hid (H9.out.trans (Head9.of_below hb HT.out.head.shape.lt))
      have HT1 := Lib.hid hT1
      clear hb hT1 x11
      go_wp2_with fail
      go_roundg (L - (n + 1))
      case rel =>
        refine ⟨n + 1, rfl, fun i hi => ?_, ?_, H1.out.trans (Head9.set 11 (by decide) _)⟩
        · rcases Nat.lt_succ_iff_lt_or_eq.1 hi with hi | rfl
          · exact HUP.out i hi
          · rw [HUU.out]; exact HK.out
        · rw [Int.natCast_succ]
          exact HT1.out.setLen _
      case measure =>
        have h1 := HNL.out
        have h2 := HL2.out
        omega
theorem drewN_turns (w : World) (n : Nat) : Turns [] w (w.drewN n) := ⟨rfl, rfl, rfl, Nat.le_refl _, fun _ _ _ => rfl⟩
theorem TM.drewN (h : TM w b mb l lv ln) (n : Nat) : TM (w.drewN n) b mb l lv ln := h.turns (drewN_turns w n) List.not_mem_nil List.not_mem_nil (fun _ _ => List.not_mem_nil)
theorem Head9.drewN (w : World) (n : Nat) : Head9 b w (w.drewN n) := ⟨(drewN_turns w n).mono (fun _ h => absurd h List.not_mem_nil), rfl⟩
/-- The length behind a key that has no value any more. -/
def cutL (k : Vl) (n : Int) : Int := if k.kind = 3 ∧ 1 ≤ k.n ∧ k.n ≤ n then k.n - 1 else n
set_option maxRecDepth 100000 in
set_option maxHeartbeats 1000000 in
theorem shorten_fn (h : TM w b mb l lv ln) (k : Vl) (hk : k.In) :
    Calls Try.prog 30 #[.pointer (some ⟨b, 0, none⟩), k.val] w (fun e w' => e = .returned (.tuple #[]) ∧ TM w' b mb l lv (cutL k ln) ∧ Head9 b w w') := by
  obtain ⟨kk, kn⟩ := k
  obtain ⟨hk1, hk2, hk3⟩ := hk
  dsimp only at hk1 hk2 hk3
  have hx := new_block w (.cells #[.int .u8 (kk : Int), .int .i64 kn] 24)
  have y0 := cell_of hx 0 _ rfl
  have y1 := cell_of hx 1 _ rfl
  have hb := (Below.refl w.heap.size w).alloc (Nat.le_refl _) (.cells #[.int .u8 (kk : Int), .int .i64 kn] 24)
  have h1 := h.below hb
  have x11 := h1.head.len
  have z11 := h1.head.shape.free 11
  have HT := Lib.hid h1
  have H9 := Lib.hid (Head9.of_below hb h.head.shape.lt)
  clear hb h1 hx h
  show Calls Try.prog 30 #[.pointer (some ⟨b, 0, none⟩), .agg #[.int .u8 (kk : Int), .int .i64 kn]] w _
  obtain ⟨q, hq⟩ : ∃ q : Int, (kk : Int) = q := ⟨_, rfl⟩
  have HQ : kk = 3 ↔ q = 3 := by omega
  rw [hq] at HT H9 y0 y1 x11 z11 ⊢
  have hq0 : 0 ≤ q ∧ q < 256 := by omega
  clear hq hk1
  by_cases c0 : q = 3
  · obtain rfl := HQ.2 c0
    clear HQ hq0
    subst c0
    by_cases c1 : 1 ≤ kn
    · by_cases c2 : kn ≤ ln
      · have hc := Lib.hid (show cutL ⟨3, kn⟩ ln = kn - 1 from if_pos ⟨rfl, c1, c2⟩)
        have e0 := IntWalk.i64_in (kn - 1) (by omega)
        go_enter Try.func30, Try.ntmps30
        go_upto_region 1 with fail
        go_quiet (fail)
        go_wp2_with fail
        refine bodyPost_end (v := .tuple #[]) (by simp [results, Try.results30, go_sem]) rfl ?_
        exact ⟨rfl, by rw [hc.out]; exact (HT.out.setLen _).drewN _, (H9.out.trans (Head9.set 11 (by decide) _)).trans (Head9.drewN _ _)⟩
      · have hc := Lib.hid (show cutL ⟨3, kn⟩ ln = ln from if_neg (fun h => c2 h.2.2))
        go_enter Try.func30, Try.ntmps30
        go_upto_region 1 with fail
        go_quiet (fail)
        go_wp2_with fail
        refine bodyPost_end (v := .tuple #[]) (by simp [results, Try.results30, go_sem]) rfl ?_
        exact ⟨rfl, by rw [hc.out]; exact HT.out.drewN _, H9.out.trans (Head9.drewN _ _)⟩
    · have hc := Lib.hid (show cutL ⟨3, kn⟩ ln = ln from if_neg (fun h => c1 h.2.1))
      go_enter Try.func30, Try.ntmps30
      go_upto_region 1 with fail
      go_quiet (fail)
      go_wp2_with fail
      refine bodyPost_end (v := .tuple #[]) (by simp [results, Try.results30, go_sem]) rfl ?_
      exact ⟨rfl, by rw [hc.out]; exact HT.out.drewN _, H9.out.trans (Head9.drewN _ _)⟩
  · have hc := Lib.hid (show cutL ⟨kk, kn⟩ ln = ln from if_neg (fun h => c0 (HQ.1 h.1)))
    clear HQ
    go_enter Try.func30, Try.ntmps30
    go_upto_region 1 with fail
    go_quiet (fail)
    go_wp2_with fail
    refine bodyPost_end (v := .tuple #[]) (by simp [results, Try.results30, go_sem]) rfl ?_
    exact ⟨rfl, by rw [hc.out]; exact HT.out.drewN _, H9.out.trans (Head9.drewN _ _)⟩
end
end Go.Proofs.Ytlpbciclkagnbaa.Td
