/-
  Layer 13: the developers' table: a place that has died is noted.
-/
import Derived.Test.YtlpbciclkagnbaaTdLen
import Derived.Shelf.Abstract
namespace Go.Proofs.Ytlpbciclkagnbaa.Td
open Go Go.RowKit Go.Proofs.Ytlpbciclkagnbaa.Pl Go.Proofs.Ytlpbciclkagnbaa.Tb

abbrev pptrT : TypeId := 27
theorem infoPtr : (Try.prog.info? 27).map (fun i => (i.zero, i.size, i.bytes)) = some (some (.pointer none), 1, 8) := by kernel_rfl
def ptrs (fd : List Nat) : List Value := fd.map (fun g => ptrP (some g))
theorem ptrs_len (fd : List Nat) : (ptrs fd).length = fd.length := List.length_map _
abbrev Row (w : World) (v : Value) (fd : List Nat) : Prop := w.ownsRow 0 27 1 v fd.length (ptrs fd)
def own (v : Value) : List Nat := v.ownBlock.toList
theorem own_mem {v : Value} {k : Nat} : k ∈ own v ↔ v.ownBlock = some k := by
  unfold own
  cases v.ownBlock <;> simp [eq_comm]
theorem row_turns {w w' : World} {G : List Nat} {v : Value} {fd : List Nat} (hr : Row w v fd) (ht : Turns G w w') (hn : ∀ k, v.ownBlock = some k → k ∉ G) : Row w' v fd := by
  refine ⟨hr.1, ?_⟩
  rcases hr.2 with hn2 | ⟨g, cap, cur, rfl, hb, hg, rest⟩
  · exact .inl hn2
  · exact .inr ⟨g, cap, cur, rfl, hb, by rw [ht.block g (lt_of_get hg) (hn g rfl)]; exact hg, rest⟩
theorem row_block {w : World} {v : Value} {fd : List Nat} (hr : Row w v fd) {k : Nat} (hk : v.ownBlock = some k) : ∃ cs, w.heap[k]? = some (.cells cs 27 (0, 0)) := by
  rcases hr.2 with ⟨rfl, h0⟩ | ⟨g, cap, cur, rfl, hb, hg, _⟩
  · cases hk
  · injection hk with hk
    dsimp only at hk
    subst hk
    exact ⟨_, hg⟩
theorem row_ne {w : World} {v : Value} {fd : List Nat} {b n : Nat} {T : TypeId} (hr : Row w v fd) (hb : Shape w b T n) (hT : T ≠ 27) : v.ownBlock ≠ some b := by
  intro e
  obtain ⟨cs2, h2⟩ := row_block hr e
  obtain ⟨cs, h1, _⟩ := hb
  rw [h1] at h2
  injection h2 with h2
  injection h2 with _ h3 _
  exact hT h3
theorem row_map {w : World} {v : Value} {fd : List Nat} {mb : Nat} {M : Obj} {sz : Nat} {f : Vl → Option Nat} (hr : Row w v fd) (hm : w.heap[mb]? = some M) (hp : PMapIs M sz f) : v.ownBlock ≠ some mb := by
  intro e
  obtain ⟨cs2, h2⟩ := row_block hr e
  obtain ⟨es, c, rfl⟩ := hp.is_map w hm
  rw [hm] at h2
  cases h2
theorem row_lt {w : World} {v : Value} {fd : List Nat} (hr : Row w v fd) {k : Nat} (hk : v.ownBlock = some k) : k < w.heap.size := by
  obtain ⟨cs, h⟩ := row_block hr hk
  exact lt_of_get h
/-- The faded ones at a table. -/
structure FAt (w : World) (b : Nat) (vf : Value) (fd : List Nat) : Prop where
  cell : w.cell? ⟨b, 9, none⟩ = some vf
  row : Row w vf fd
section
variable {w w' : World} {b mb g : Nat} {l l1 l2 : List Plc} {lv ln : Int} {p : Plc} {vf : Value} {fd G : List Nat}
theorem FAt.turns (h : FAt w b vf fd) (ht : Turns G w w') (h1 : b ∉ G) (h2 : ∀ k, vf.ownBlock = some k → k ∉ G) : FAt w' b vf fd := ⟨cell_turns h.cell ht h1, row_turns h.row ht h2⟩
theorem FAt.below (h : FAt w b vf fd) (hb : Below w.heap.size w w') : FAt w' b vf fd := h.turns (G := []) (Turns.of_below hb) List.not_mem_nil (fun _ _ => List.not_mem_nil)
theorem FAt.head9 (h : FAt w b vf fd) (hT : TM w b mb l lv ln) (h9 : Head9 b w w') : FAt w' b vf fd :=
  ⟨h9.fad.trans h.cell, row_turns h.row h9.turns (fun k hk hm => row_ne h.row hT.head.shape (by decide) (by rw [hk, List.mem_singleton.1 hm]))⟩
theorem FAt.apart (h : FAt w b vf fd) (hT : TM w b mb l lv ln) {k : Nat} (hk : vf.ownBlock = some k) : k ≠ b ∧ k ≠ mb ∧ ∀ p ∈ l, k ≠ p.b := by
  refine ⟨fun e => ?_, fun e => ?_, fun p hp e => ?_⟩
  · exact row_ne h.row hT.head.shape (by decide) (by rw [hk, e])
  · obtain ⟨M, hM, hp⟩ := hT.map
    exact row_map h.row hM hp (by rw [hk, e])
  · exact row_ne h.row (hT.nodes p hp).shape (by decide) (by rw [hk, e])
/-- A store into a place. -/
theorem FAt.store (h : FAt w b vf fd) (hT : TM w b mb l lv ln) (hp : p ∈ l) (i : Nat) (x : Value) : FAt (w.setCell ⟨p.b, i, none⟩ x) b vf fd :=
  h.turns (G := [p.b]) ⟨rfl, rfl, rfl, by simp, fun k _ hn => heap_setCell_other _ _ _ _ (fun e => hn (List.mem_singleton.2 e))⟩ (fun hm => hT.apart hp (List.mem_singleton.1 hm).symm) (fun k hk hm => (h.apart hT hk).2.2 p hp (List.mem_singleton.1 hm))
theorem note_old (h : TM w b mb l lv ln) (hp : p ∈ l) (hn : p.noted = true) :
    Calls Try.prog 31 #[.pointer (some ⟨b, 0, none⟩), .pointer (some ⟨p.b, 0, none⟩)] w (fun e w' => e = .returned (.tuple #[]) ∧ w' = w) := by
  have x6 := (h.nodes p hp).noted
  rw [hn] at x6
  clear h hn
  go_enter Try.func31, Try.ntmps31
  go_wp2_with fail
  refine bodyPost_end (v := .tuple #[]) (by simp [results, Try.results31, go_sem]) rfl ?_
  exact ⟨rfl, rfl⟩
set_option maxHeartbeats 2000000 in
set_option maxRecDepth 100000 in
theorem note_new (h : TM w b mb l lv ln) (hp : p ∈ l) (hn : p.noted = false) (hf : FAt w b vf fd) (hl : fd.length ≤ 65536) :
    Calls Try.prog 31 #[.pointer (some ⟨b, 0, none⟩), .pointer (some ⟨p.b, 0, none⟩)] w (fun e w' => e = .returned (.tuple #[]) ∧ ∃ vf', TM w' b mb (atP l p.b (putN true)) lv ln ∧ FAt w' b vf' (fd ++ [p.b]) ∧ Turns (b :: p.b :: own vf) w w' ∧ (vf'.ownBlock = vf.ownBlock ∨ ∃ j, vf'.ownBlock = some j ∧ w.heap.size ≤ j)) := by
  have x6 := (h.nodes p hp).noted
  rw [hn] at x6
  have z6 := (h.nodes p hp).shape.free 6
  obtain ⟨aa, mm, cc, rfl⟩ := own_some hf.row
  have hT1 := h.setNoted (List.mem_map.2 ⟨p, hp, rfl⟩) true
  have hF1 := hf.store h hp 6 (.bool true)
  have x9 := hF1.cell
  have HT := Lib.hid hT1
  have HF := Lib.hid hF1
  have hpb := h.apart hp
  obtain ⟨n, hN⟩ : ∃ n, n = fd.length := ⟨_, rfl⟩
  have HN := Lib.hid hN
  have hn63 : n ≤ 65536 := by omega
  have HN63 := Lib.hid hn63
  have HAP := Lib.hid (fun k hk => hf.apart h (k := k) hk)
  obtain ⟨g, hg⟩ : ∃ g, p.b = g := ⟨_, rfl⟩
  have HG := Lib.hid hg
  have HBL := Lib.hid h.head.shape.lt
  have HGL := Lib.hid (h.nodes p hp).shape.lt
  have HPL := Lib.hid hp
  rw [hg] at hT1 HT HF hpb HGL x6 z6 x9 ⊢
  clear hn h hf hT1 hF1 hN hn63 hl hg hp
  go_enter Try.func31, Try.ntmps31
  go_upto_region 2 with fail
  obtain ⟨W, hW⟩ : ∃ W, w.setCell ⟨g, 6, none⟩ (.bool true) = W := ⟨_, rfl⟩
  rw [hW] at HT HF x9 ⊢
  have hWs : W.heap.size = w.heap.size := by rw [← hW]; simp
  have HW := Lib.hid hW
  have HWS := Lib.hid hWs
  clear hW hWs
  go_wp2_with (at_builtin; go_loud (refine wpList_append_at rfl (.tmp 16) (.tmp 18) 30 rfl 0 27 (.pointer none) 8 Try.underlying30 infoPtr rfl (.slice aa mm cc) fd.length (ptrs fd) rfl HF.out.row (.pointer (some ⟨g, 0, none⟩)) rfl rfl ?l1 ?m1 ?n1 ?_))
  case l1 =>
    have h1 := HN63.out
    have h2 := HN.out
    exact Nat.le_trans (m := 65537) (by omega) (by decide)
  case m1 =>
    have h1 := HN63.out
    have h2 := HN.out
    exact Nat.le_trans (Nat.mul_le_mul_right 8 (m := 65537) (by omega)) (by decide)
  case n1 => exact Nat.zero_le _
  intro v1 w1 h1 h2 h3
  have ht1 : Turns (own (.slice aa mm cc)) W w1 := by
    refine ⟨h2.os, h2.tape, h2.output, Nat.le_trans (by simp) h2.size, fun k hk hn => ?_⟩
    rw [h2.block k (by simp; omega) (fun e => hn (own_mem.2 e.symm)), heap_alloc_old _ _ hk]
  have hTM1 : TM w1 b mb (atP l g (putN true)) lv ln := by
    refine HT.out.turns ht1 (fun hm => ((HF.out.apart HT.out (own_mem.1 hm)).1 rfl)) (fun hm => ((HF.out.apart HT.out (own_mem.1 hm)).2.1 rfl)) (fun q hq hm => ((HF.out.apart HT.out (own_mem.1 hm)).2.2 q hq rfl))
  have hr1 : Row w1 v1 (fd ++ [g]) := by
    unfold Row
    rw [List.length_append, List.length_singleton, show ptrs (fd ++ [g]) = ptrs fd ++ [.pointer (some ⟨g, 0, none⟩)] from by unfold ptrs; rw [List.map_append]; rfl]
    exact h1
  obtain ⟨a1, m1, c1, rfl⟩ := own_some hr1
  have y9 : w1.cell? ⟨b, 9, none⟩ = some (.slice aa mm cc) := cell_turns x9 ht1 (fun hm => ((HF.out.apart HT.out (own_mem.1 hm)).1 rfl))
  have z9 := hTM1.head.shape.free 9
  have HTM1 := Lib.hid hTM1
  have HR1 := Lib.hid hr1
  have HT1 := Lib.hid ht1
  have H3 := Lib.hid h3
  clear h1 h2 h3 hTM1 hr1 ht1 x9 x6 z6
  go_wp2_with fail
  refine bodyPost_end (v := .tuple #[]) (by simp [results, Try.results31, go_sem]) rfl ?_
  have hb9 : Turns [b] w1 (w1.setCell ⟨b, 9, none⟩ (.slice a1 m1 c1)) := ⟨rfl, rfl, rfl, by simp, fun k _ hn => heap_setCell_other _ _ _ _ (fun e => hn (List.mem_singleton.2 e))⟩
  have hg6 : Turns [g] w W := by rw [← HW.out]; exact ⟨rfl, rfl, rfl, by simp, fun k _ hn => heap_setCell_other _ _ _ _ (fun e => hn (List.mem_singleton.2 e))⟩
  refine ⟨rfl, .slice a1 m1 c1, HTM1.out.setFad _, ⟨cell_put y9, row_turns HR1.out hb9 (fun k hk hm => row_ne HR1.out HTM1.out.head.shape (by decide) (by rw [hk, List.mem_singleton.1 hm]))⟩, ?_, ?_⟩
  · refine ((hg6.mono (G := b :: g :: own (.slice aa mm cc)) (fun x hx => by rw [List.mem_singleton.1 hx]; simp)).trans HT1.out (fun x hx => .inl (by simp [hx]))).trans hb9 (fun x hx => .inl (by rw [List.mem_singleton.1 hx]; simp))
  · rcases H3.out with h | h
    · exact .inl h
    · exact .inr ⟨_, h, by have := HWS.out; omega⟩
end
end Go.Proofs.Ytlpbciclkagnbaa.Td
