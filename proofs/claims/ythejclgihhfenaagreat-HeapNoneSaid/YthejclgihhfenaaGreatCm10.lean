import Derived.Test.YthejclgihhfenaaGreatCm9
import Derived.Shelf.Abstract
/-
  Layer 13: the developers' table: the length carried on, and drawn back.
-/
namespace Go.Proofs.YthejclgihhfenaaGreat.Td
open Go Go.RowKit Go.Proofs.YthejclgihhfenaaGreat.Pl Go.Proofs.YthejclgihhfenaaGreat.Tb

/-- Numbers from 1 to n that are keys: there are no fewer keys. -/
theorem pigeon : ∀ (n : Nat) (ks : List Vl), (∀ i : Nat, i < n → numV ((i : Int) + 1) ∈ ks) → n ≤ ks.length
  | 0, _, _ => Nat.zero_le _
  | n + 1, ks, h => by
    have h1 := h n (Nat.lt_succ_self n)
    have h2 := pigeon n (ks.erase (numV ((n : Int) + 1))) (fun i hi => (List.mem_erase_of_ne (fun e => by
      unfold numV at e
      rw [Vl.mk.injEq] at e
      omega)).2 (h i (Nat.lt_succ_of_lt hi)))
    rw [List.length_erase_of_mem h1] at h2
    have := List.length_pos_of_mem h1
    omega
def UpT (t : Tbl) (n : Nat) : Prop := ∀ i : Nat, i < n → (getT t (numV ((i : Int) + 1))).kind ≠ 0
theorem tbl_keys (l : List Plc) : (tblOf l).map (·.1) = l.map (·.k) := by unfold tblOf; rw [List.map_map]; rfl
theorem up_le {l : List Plc} {n : Nat} (h : UpT (tblOf l) n) : n ≤ l.length := by
  have := pigeon n (l.map (·.k)) (fun i hi => by
    rcases find_cases l (numV ((i : Int) + 1)) with ⟨_, _, h3, _⟩ | ⟨p, hp, hk, _⟩
    · exact absurd (by rw [h3]; rfl) (h i hi)
    · exact List.mem_map.2 ⟨p, hp, hk⟩)
  rwa [List.length_map] at this
section
variable {w w' : World} {b mb : Nat} {l l1 l2 : List Plc} {lv ln : Int} {p : Plc}
/-- What a call that turns the head alone leaves. -/
structure Head9 (b : Nat) (w w' : World) : Prop where
  turns : Turns [b] w w'
  fad : w'.cell? ⟨b, 9, none⟩ = w.cell? ⟨b, 9, none⟩
theorem Head9.refl (b : Nat) (w : World) : Head9 b w w := ⟨Turns.refl _ _, rfl⟩
theorem Head9.trans {w1 : World} (h : Head9 b w w1) (k : Head9 b w1 w') : Head9 b w w' := ⟨h.turns.trans k.turns (fun _ hx => .inl hx), k.fad.trans h.fad⟩
theorem Head9.of_below (h : Below w.heap.size w w') (hb : b < w.heap.size) : Head9 b w w' := ⟨Turns.of_below h, h.cell (p := ⟨b, 9, none⟩) hb⟩
theorem Head9.set (i : Nat) (hi : i ≠ 9) (x : Value) : Head9 b w (w.setCell ⟨b, i, none⟩ x) :=
  ⟨⟨rfl, rfl, rfl, by simp, fun k _ hn => heap_setCell_other _ _ _ _ (fun e => hn (List.mem_singleton.2 e))⟩, World.cell?_setCell_other _ _ _ _ (ne_off hi)⟩
theorem mem_num (n : Nat) (hn : n ≤ 70000) : (numV ((n : Int) + 1)).In := ⟨by show 3 < 256; decide, by show -9223372036854775808 ≤ (n : Int) + 1; omega, by show (n : Int) + 1 ≤ 9223372036854775807; omega⟩
set_option maxRecDepth 100000 in
set_option maxHeartbeats 1000000 in
theorem lengthen_fn (n0 : Nat) (h : TM w b mb l lv n0) (hu : UpT (tblOf l) n0) (hl : l.length ≤ 65536) :
    Calls Tryz.prog 130 #[.pointer (some ⟨b, 0, none⟩)] w (fun e w' => e = .returned (.tuple #[]) ∧ ∃ n : Nat, BorderT (tblOf l) n ∧ TM w' b mb l lv n ∧ Head9 b w w') := by
  have HH := Lib.hid h
  have HU := Lib.hid hu
  have HL := Lib.hid hl
  clear h hu hl
  obtain ⟨L, hL⟩ : ∃ L, L = l.length + 1 := ⟨_, rfl⟩
  have HL2 := Lib.hid hL
  clear hL
  go_enter Tryz.func130, Tryz.ntmps130
  go_wp2_with fail
  go_loopg [2] (L - n0) (fun r x wr => ∃ n : Nat, r = L - n ∧ UpT (tblOf l) n ∧ TM wr b mb l lv n ∧ Head9 b w wr)
  case atStart => exact ⟨n0, rfl, HU.out, HH.out, Head9.refl _ _⟩
  case round =>
    obtain ⟨n, rfl, hup, hT, h9⟩ := hrel
    have hn := up_le hup
    have HN := Lib.hid (Nat.le_trans hn HL.out)
    have HNL := Lib.hid hn
    have e0 := IntWalk.i64_in ((n : Int) + 1) (by have := HN.out; omega)
    have c := get_fn' hT (numV ((n : Int) + 1)) (mem_num n (by have := HN.out; omega))
    have x11 := hT.head.len
    obtain ⟨⟨k, m⟩, hU⟩ : ∃ u, getT (tblOf l) (numV ((n : Int) + 1)) = u := ⟨_, rfl⟩
    rw [hU] at c
    have HUU := Lib.hid hU
    have HUP := Lib.hid hup
    have HT := Lib.hid hT
    have H9 := Lib.hid h9
    have c : Calls Tryz.prog 68 #[.pointer (some ⟨b, 0, none⟩), .agg #[.int .u8 3, .int .i64 ((n : Int) + 1)]] wr (fun e w' => e = .returned (.agg #[.int .u8 (k : Int), .int .i64 m]) ∧ Below wr.heap.size wr w') := c
    clear hn hU hup hT h9
    have hfd : ∀ w : World, (Instr.field 37 (.agg #[.int .u8 (k : Int), .int .i64 m]) 0).run Tryz.prog w = .ok (.int .u8 (k : Int)) w := fun _ => by kernel_rfl
    by_cases hk : k = 0
    · subst hk
      have hfd : ∀ w : World, (Instr.field 37 (.agg #[.int .u8 0, .int .i64 m]) 0).run Tryz.prog w = .ok (.int .u8 0) w := fun _ => by kernel_rfl
      go_wp2_with fail
      refine c.mono ?_
      rintro e w1 ⟨rfl, hb⟩
      clear c
      have H1 := Lib.hid hb
      clear hb
      go_wp2_with fail
      refine bodyPost_end (v := .tuple #[]) (by simp [results, Tryz.results130, go_sem]) rfl ?_
      exact ⟨rfl, n, ⟨HUP.out, by rw [HUU.out]⟩, HT.out.below H1.out, H9.out.trans (Head9.of_below H1.out HT.out.head.shape.lt)⟩
    · have hk2 : ¬ (k : Int) = 0 := by omega
      have HK := Lib.hid hk
      clear hk
      go_wp2_with fail
      refine c.mono ?_
      rintro e w1 ⟨rfl, hb⟩
      clear c
      have hT1 := HT.out.below hb
      have y11 := hT1.head.len
      have z11 := hT1.head.shape.free 11
      have H1 := Lib.hid (H9.out.trans (Head9.of_below hb HT.out.head.shape.lt))
      have HT1 := Lib.hid hT1
      clear hb hT1 x11
      go_wp2_with fail
      go_roundg (L - (n + 1))
      case rel =>
        refine ⟨n + 1, rfl, fun i hi => ?_, ?_, H1.out.trans (Head9.set 11 (by decide) _)⟩
        · rcases Nat.lt_succ_iff_lt_or_eq.1 hi with hi | rfl
          · exact HUP.out i hi
          · rw [HUU.out]; exact HK.out
        · rw [Int.natCast_succ]
          exact HT1.out.setLen _
      case measure =>
        have h1 := HNL.out
        have h2 := HL2.out
        omega
theorem drewN_turns (w : World) (n : Nat) : Turns [] w (w.drewN n) := ⟨rfl, rfl, rfl, Nat.le_refl _, fun _ _ _ => rfl⟩
theorem TM.drewN (h : TM w b mb l lv ln) (n : Nat) : TM (w.drewN n) b mb l lv ln := h.turns (drewN_turns w n) List.not_mem_nil List.not_mem_nil (fun _ _ => List.not_mem_nil)
theorem Head9.drewN (w : World) (n : Nat) : Head9 b w (w.drewN n) := ⟨(drewN_turns w n).mono (fun _ h => absurd h List.not_mem_nil), rfl⟩
/-- The length behind a key that has no value any more. -/
def cutL (k : Vl) (n : Int) : Int := if k.kind = 3 ∧ 1 ≤ k.n ∧ k.n ≤ n then k.n - 1 else n
set_option maxRecDepth 100000 in
set_option maxHeartbeats 1000000 in
theorem shorten_fn (h : TM w b mb l lv ln) (k : Vl) (hk : k.In) :
    Calls Tryz.prog 131 #[.pointer (some ⟨b, 0, none⟩), k.val] w (fun e w' => e = .returned (.tuple #[]) ∧ TM w' b mb l lv (cutL k ln) ∧ Head9 b w w') := by
  obtain ⟨kk, kn⟩ := k
  obtain ⟨hk1, hk2, hk3⟩ := hk
  dsimp only at hk1 hk2 hk3
  have hx := new_block w (.cells #[.int .u8 (kk : Int), .int .i64 kn] 37)
  have y0 := cell_of hx 0 _ rfl
  have y1 := cell_of hx 1 _ rfl
  have hb := (Below.refl w.heap.size w).alloc (Nat.le_refl _) (.cells #[.int .u8 (kk : Int), .int .i64 kn] 37)
  have h1 := h.below hb
  have x11 := h1.head.len
  have z11 := h1.head.shape.free 11
  have HT := Lib.hid h1
  have H9 := Lib.hid (Head9.of_below hb h.head.shape.lt)
  clear hb h1 hx h
  show Calls Tryz.prog 131 #[.pointer (some ⟨b, 0, none⟩), .agg #[.int .u8 (kk : Int), .int .i64 kn]] w _
  obtain ⟨q, hq⟩ : ∃ q : Int, (kk : Int) = q := ⟨_, rfl⟩
  have HQ : kk = 3 ↔ q = 3 := by omega
  rw [hq] at HT H9 y0 y1 x11 z11 ⊢
  have hq0 : 0 ≤ q ∧ q < 256 := by omega
  clear hq hk1
  by_cases c0 : q = 3
  · obtain rfl := HQ.2 c0
    clear HQ hq0
    subst c0
    by_cases c1 : 1 ≤ kn
    · by_cases c2 : kn ≤ ln
      · have hc := Lib.hid (show cutL ⟨3, kn⟩ ln = kn - 1 from if_pos ⟨rfl, c1, c2⟩)
        have e0 := IntWalk.i64_in (kn - 1) (by omega)
        go_enter Tryz.func131, Tryz.ntmps131
        go_upto_region 1 with fail
        go_quiet (fail)
        go_wp2_with fail
        refine bodyPost_end (v := .tuple #[]) (by simp [results, Tryz.results131, go_sem]) rfl ?_
        exact ⟨rfl, by rw [hc.out]; exact (HT.out.setLen _).drewN _, (H9.out.trans (Head9.set 11 (by decide) _)).trans (Head9.drewN _ _)⟩
      · have hc := Lib.hid (show cutL ⟨3, kn⟩ ln = ln from if_neg (fun h => c2 h.2.2))
        go_enter Tryz.func131, Tryz.ntmps131
        go_upto_region 1 with fail
        go_quiet (fail)
        go_wp2_with fail
        refine bodyPost_end (v := .tuple #[]) (by simp [results, Tryz.results131, go_sem]) rfl ?_
        exact ⟨rfl, by rw [hc.out]; exact HT.out.drewN _, H9.out.trans (Head9.drewN _ _)⟩
    · have hc := Lib.hid (show cutL ⟨3, kn⟩ ln = ln from if_neg (fun h => c1 h.2.1))
      go_enter Tryz.func131, Tryz.ntmps131
      go_upto_region 1 with fail
      go_quiet (fail)
      go_wp2_with fail
      refine bodyPost_end (v := .tuple #[]) (by simp [results, Tryz.results131, go_sem]) rfl ?_
      exact ⟨rfl, by rw [hc.out]; exact HT.out.drewN _, H9.out.trans (Head9.drewN _ _)⟩
  · have hc := Lib.hid (show cutL ⟨kk, kn⟩ ln = ln from if_neg (fun h => c0 (HQ.1 h.1)))
    clear HQ
    go_enter Tryz.func131, Tryz.ntmps131
    go_upto_region 1 with fail
    go_quiet (fail)
    go_wp2_with fail
    refine bodyPost_end (v := .tuple #[]) (by simp [results, Tryz.results131, go_sem]) rfl ?_
    exact ⟨rfl, by rw [hc.out]; exact HT.out.drewN _, H9.out.trans (Head9.drewN _ _)⟩
end
end Go.Proofs.YthejclgihhfenaaGreat.Td

/-
  Layer 13: the developers' table: a place that has died is noted.
-/
namespace Go.Proofs.YthejclgihhfenaaGreat.Td
open Go Go.RowKit Go.Proofs.YthejclgihhfenaaGreat.Pl Go.Proofs.YthejclgihhfenaaGreat.Tb

abbrev pptrT : TypeId := 138
theorem infoPtr : (Tryz.prog.info? 138).map (fun i => (i.zero, i.size, i.bytes)) = some (some (.pointer none), 1, 8) := by kernel_rfl
def ptrs (fd : List Nat) : List Value := fd.map (fun g => ptrP (some g))
theorem ptrs_len (fd : List Nat) : (ptrs fd).length = fd.length := List.length_map _
abbrev Row (w : World) (v : Value) (fd : List Nat) : Prop := w.ownsRow 0 138 1 v fd.length (ptrs fd)
def own (v : Value) : List Nat := v.ownBlock.toList
theorem own_mem {v : Value} {k : Nat} : k ∈ own v ↔ v.ownBlock = some k := by
  unfold own
  cases v.ownBlock <;> simp [eq_comm]
theorem row_turns {w w' : World} {G : List Nat} {v : Value} {fd : List Nat} (hr : Row w v fd) (ht : Turns G w w') (hn : ∀ k, v.ownBlock = some k → k ∉ G) : Row w' v fd := by
  refine ⟨hr.1, ?_⟩
  rcases hr.2 with hn2 | ⟨g, cap, cur, rfl, hb, hg, rest⟩
  · exact .inl hn2
  · exact .inr ⟨g, cap, cur, rfl, hb, by rw [ht.block g (lt_of_get hg) (hn g rfl)]; exact hg, rest⟩
theorem row_block {w : World} {v : Value} {fd : List Nat} (hr : Row w v fd) {k : Nat} (hk : v.ownBlock = some k) : ∃ cs, w.heap[k]? = some (.cells cs 138 (0, 0)) := by
  rcases hr.2 with ⟨rfl, h0⟩ | ⟨g, cap, cur, rfl, hb, hg, _⟩
  · cases hk
  · injection hk with hk
    dsimp only at hk
    subst hk
    exact ⟨_, hg⟩
theorem row_ne {w : World} {v : Value} {fd : List Nat} {b n : Nat} {T : TypeId} (hr : Row w v fd) (hb : Shape w b T n) (hT : T ≠ 138) : v.ownBlock ≠ some b := by
  intro e
  obtain ⟨cs2, h2⟩ := row_block hr e
  obtain ⟨cs, h1, _⟩ := hb
  rw [h1] at h2
  injection h2 with h2
  injection h2 with _ h3 _
  exact hT h3
theorem row_map {w : World} {v : Value} {fd : List Nat} {mb : Nat} {M : Obj} {sz : Nat} {f : Vl → Option Nat} (hr : Row w v fd) (hm : w.heap[mb]? = some M) (hp : PMapIs M sz f) : v.ownBlock ≠ some mb := by
  intro e
  obtain ⟨cs2, h2⟩ := row_block hr e
  obtain ⟨es, c, rfl⟩ := hp.is_map w hm
  rw [hm] at h2
  cases h2
theorem row_lt {w : World} {v : Value} {fd : List Nat} (hr : Row w v fd) {k : Nat} (hk : v.ownBlock = some k) : k < w.heap.size := by
  obtain ⟨cs, h⟩ := row_block hr hk
  exact lt_of_get h
/-- The faded ones at a table. -/
structure FAt (w : World) (b : Nat) (vf : Value) (fd : List Nat) : Prop where
  cell : w.cell? ⟨b, 9, none⟩ = some vf
  row : Row w vf fd
section
variable {w w' : World} {b mb g : Nat} {l l1 l2 : List Plc} {lv ln : Int} {p : Plc} {vf : Value} {fd G : List Nat}
theorem FAt.turns (h : FAt w b vf fd) (ht : Turns G w w') (h1 : b ∉ G) (h2 : ∀ k, vf.ownBlock = some k → k ∉ G) : FAt w' b vf fd := ⟨cell_turns h.cell ht h1, row_turns h.row ht h2⟩
theorem FAt.below (h : FAt w b vf fd) (hb : Below w.heap.size w w') : FAt w' b vf fd := h.turns (G := []) (Turns.of_below hb) List.not_mem_nil (fun _ _ => List.not_mem_nil)
theorem FAt.head9 (h : FAt w b vf fd) (hT : TM w b mb l lv ln) (h9 : Head9 b w w') : FAt w' b vf fd :=
  ⟨h9.fad.trans h.cell, row_turns h.row h9.turns (fun k hk hm => row_ne h.row hT.head.shape (by decide) (by rw [hk, List.mem_singleton.1 hm]))⟩
theorem FAt.apart (h : FAt w b vf fd) (hT : TM w b mb l lv ln) {k : Nat} (hk : vf.ownBlock = some k) : k ≠ b ∧ k ≠ mb ∧ ∀ p ∈ l, k ≠ p.b := by
  refine ⟨fun e => ?_, fun e => ?_, fun p hp e => ?_⟩
  · exact row_ne h.row hT.head.shape (by decide) (by rw [hk, e])
  · obtain ⟨M, hM, hp⟩ := hT.map
    exact row_map h.row hM hp (by rw [hk, e])
  · exact row_ne h.row (hT.nodes p hp).shape (by decide) (by rw [hk, e])
/-- A store into a place. -/
theorem FAt.store (h : FAt w b vf fd) (hT : TM w b mb l lv ln) (hp : p ∈ l) (i : Nat) (x : Value) : FAt (w.setCell ⟨p.b, i, none⟩ x) b vf fd :=
  h.turns (G := [p.b]) ⟨rfl, rfl, rfl, by simp, fun k _ hn => heap_setCell_other _ _ _ _ (fun e => hn (List.mem_singleton.2 e))⟩ (fun hm => hT.apart hp (List.mem_singleton.1 hm).symm) (fun k hk hm => (h.apart hT hk).2.2 p hp (List.mem_singleton.1 hm))
theorem note_old (h : TM w b mb l lv ln) (hp : p ∈ l) (hn : p.noted = true) :
    Calls Tryz.prog 132 #[.pointer (some ⟨b, 0, none⟩), .pointer (some ⟨p.b, 0, none⟩)] w (fun e w' => e = .returned (.tuple #[]) ∧ w' = w) := by
  have x6 := (h.nodes p hp).noted
  rw [hn] at x6
  clear h hn
  go_enter Tryz.func132, Tryz.ntmps132
  go_wp2_with fail
  refine bodyPost_end (v := .tuple #[]) (by simp [results, Tryz.results132, go_sem]) rfl ?_
  exact ⟨rfl, rfl⟩
set_option maxHeartbeats 2000000 in
set_option maxRecDepth 100000 in
theorem note_new (h : TM w b mb l lv ln) (hp : p ∈ l) (hn : p.noted = false) (hf : FAt w b vf fd) (hl : fd.length ≤ 65536) :
    Calls Tryz.prog 132 #[.pointer (some ⟨b, 0, none⟩), .pointer (some ⟨p.b, 0, none⟩)] w (fun e w' => e = .returned (.tuple #[]) ∧ ∃ vf', TM w' b mb (atP l p.b (putN true)) lv ln ∧ FAt w' b vf' (fd ++ [p.b]) ∧ Turns (b :: p.b :: own vf) w w' ∧ (vf'.ownBlock = vf.ownBlock ∨ ∃ j, vf'.ownBlock = some j ∧ w.heap.size ≤ j)) := by
  have x6 := (h.nodes p hp).noted
  rw [hn] at x6
  have z6 := (h.nodes p hp).shape.free 6
  obtain ⟨aa, mm, cc, rfl⟩ := own_some hf.row
  have hT1 := h.setNoted (List.mem_map.2 ⟨p, hp, rfl⟩) true
  have hF1 := hf.store h hp 6 (.bool true)
  have x9 := hF1.cell
  have HT := Lib.hid hT1
  have HF := Lib.hid hF1
  have hpb := h.apart hp
  obtain ⟨n, hN⟩ : ∃ n, n = fd.length := ⟨_, rfl⟩
  have HN := Lib.hid hN
  have hn63 : n ≤ 65536 := by omega
  have HN63 := Lib.hid hn63
  have HAP := Lib.hid (fun k hk => hf.apart h (k := k) hk)
  obtain ⟨g, hg⟩ : ∃ g, p.b = g := ⟨_, rfl⟩
  have HG := Lib.hid hg
  have HBL := Lib.hid h.head.shape.lt
  have HGL := Lib.hid (h.nodes p hp).shape.lt
  have HPL := Lib.hid hp
  rw [hg] at hT1 HT HF hpb HGL x6 z6 x9 ⊢
  clear hn h hf hT1 hF1 hN hn63 hl hg hp
  go_enter Tryz.func132, Tryz.ntmps132
  go_upto_region 2 with fail
  obtain ⟨W, hW⟩ : ∃ W, w.setCell ⟨g, 6, none⟩ (.bool true) = W := ⟨_, rfl⟩
  rw [hW] at HT HF x9 ⊢
  have hWs : W.heap.size = w.heap.size := by rw [← hW]; simp
  have HW := Lib.hid hW
  have HWS := Lib.hid hWs
  clear hW hWs
  go_wp2_with (at_builtin; go_loud (refine wpList_append_at rfl (.tmp 16) (.tmp 18) 141 rfl 0 138 (.pointer none) 8 Tryz.underlying141 infoPtr rfl (.slice aa mm cc) fd.length (ptrs fd) rfl HF.out.row (.pointer (some ⟨g, 0, none⟩)) rfl rfl ?l1 ?m1 ?n1 ?_))
  case l1 =>
    have h1 := HN63.out
    have h2 := HN.out
    exact Nat.le_trans (m := 65537) (by omega) (by decide)
  case m1 =>
    have h1 := HN63.out
    have h2 := HN.out
    exact Nat.le_trans (Nat.mul_le_mul_right 8 (m := 65537) (by omega)) (by decide)
  case n1 => exact Nat.zero_le _
  intro v1 w1 h1 h2 h3
  have ht1 : Turns (own (.slice aa mm cc)) W w1 := by
    refine ⟨h2.os, h2.tape, h2.output, Nat.le_trans (by simp) h2.size, fun k hk hn => ?_⟩
    rw [h2.block k (by simp; omega) (fun e => hn (own_mem.2 e.symm)), heap_alloc_old _ _ hk]
  have hTM1 : TM w1 b mb (atP l g (putN true)) lv ln := by
    refine HT.out.turns ht1 (fun hm => ((HF.out.apart HT.out (own_mem.1 hm)).1 rfl)) (fun hm => ((HF.out.apart HT.out (own_mem.1 hm)).2.1 rfl)) (fun q hq hm => ((HF.out.apart HT.out (own_mem.1 hm)).2.2 q hq rfl))
  have hr1 : Row w1 v1 (fd ++ [g]) := by
    unfold Row
    rw [List.length_append, List.length_singleton, show ptrs (fd ++ [g]) = ptrs fd ++ [.pointer (some ⟨g, 0, none⟩)] from by unfold ptrs; rw [List.map_append]; rfl]
    exact h1
  obtain ⟨a1, m1, c1, rfl⟩ := own_some hr1
  have y9 : w1.cell? ⟨b, 9, none⟩ = some (.slice aa mm cc) := cell_turns x9 ht1 (fun hm => ((HF.out.apart HT.out (own_mem.1 hm)).1 rfl))
  have z9 := hTM1.head.shape.free 9
  have HTM1 := Lib.hid hTM1
  have HR1 := Lib.hid hr1
  have HT1 := Lib.hid ht1
  have H3 := Lib.hid h3
  clear h1 h2 h3 hTM1 hr1 ht1 x9 x6 z6
  go_wp2_with fail
  refine bodyPost_end (v := .tuple #[]) (by simp [results, Tryz.results132, go_sem]) rfl ?_
  have hb9 : Turns [b] w1 (w1.setCell ⟨b, 9, none⟩ (.slice a1 m1 c1)) := ⟨rfl, rfl, rfl, by simp, fun k _ hn => heap_setCell_other _ _ _ _ (fun e => hn (List.mem_singleton.2 e))⟩
  have hg6 : Turns [g] w W := by rw [← HW.out]; exact ⟨rfl, rfl, rfl, by simp, fun k _ hn => heap_setCell_other _ _ _ _ (fun e => hn (List.mem_singleton.2 e))⟩
  refine ⟨rfl, .slice a1 m1 c1, HTM1.out.setFad _, ⟨cell_put y9, row_turns HR1.out hb9 (fun k hk hm => row_ne HR1.out HTM1.out.head.shape (by decide) (by rw [hk, List.mem_singleton.1 hm]))⟩, ?_, ?_⟩
  · refine ((hg6.mono (G := b :: g :: own (.slice aa mm cc)) (fun x hx => by rw [List.mem_singleton.1 hx]; simp)).trans HT1.out (fun x hx => .inl (by simp [hx]))).trans hb9 (fun x hx => .inl (by rw [List.mem_singleton.1 hx]; simp))
  · rcases H3.out with h | h
    · exact .inl h
    · exact .inr ⟨_, h, by have := HWS.out; omega⟩
end
end Go.Proofs.YthejclgihhfenaaGreat.Td
