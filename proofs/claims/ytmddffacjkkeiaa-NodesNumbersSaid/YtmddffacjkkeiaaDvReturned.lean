/-
  Layer 5: returned: a syntax that returns an expression.
-/
import Derived.Test.YtmddffacjkkeiaaDvMade
namespace Go.Proofs.Ytmddffacjkkeiaa.Nd
open Go Go.RowKit Go.ChangeShapes Go.WideShapes Go.Shelf
open Go.Proofs.Ytmddffacjkkeiaa.Rf

/-- 'append(own, others...)', in the text's order. -/
theorem wpList_append_rows {w : World} {ops : Array Oper} {rest : List Oper} {o : Oper} {a : Act} {Q : Exit → Act → World → Prop} (hgd : o.guard = none) (s x : Operand)
    (ho : o.op = .call { callee := .builtin .append, args := #[s, x], argTypes := #[22, 22] })
    (base : Nat) (v : Value) (rs qs : List R3) (hs : a.eval s = v) (hown : OwnNd w base v rs) (hq : ∀ r ∈ qs, Sub w r) (g c n : Nat) (hn : qs.length = n) (hx : a.eval x = .slice (some ⟨g, 0, none⟩) n c)
    (hc : ∀ (j : Nat) (u : Value), (rowCells qs)[j]? = some u → w.cell? ⟨g, j, none⟩ = some u) (hl : rs.length + qs.length ≤ 1000000000) (hbase : base ≤ w.heap.size)
    (h : ∀ v' w', OwnNd w' base v' (rs ++ qs) → Below base w w' → w.grownBy w' v.ownBlock → wpList Try.prog ops Q rest (a.put o.dst v') w') :
    wpList Try.prog ops Q (o :: rest) a w := by
  subst hn
  obtain ⟨i, hi, hz, hsize, hby⟩ := info_parts infoNode
  refine wpList_append_own (w := w) hgd s x 22 ho base 30 i _ 6 88 Try.underlying22 hi hz hsize hby rfl (by decide) v rs.length (rowCells rs) hs hown.1 ⟨g, 0, none⟩ qs.length c (rowCells qs) hx (row_length qs) (fun j u hj => ?_) (subs_one hq) (by unfold maxLen; omega) (by omega) hbase (fun v' w' h1 h2 _ => h v' w' ⟨?_, fun r hr => ?_⟩ ?_ h2)
  · rw [add_plain, Nat.zero_add]
    exact hc j u hj
  · rw [row_append, List.length_append]; exact h1
  · rcases List.mem_append.1 hr with hr | hr
    · exact (hown.2 r hr).kept hown.1 h2
    · exact (hq r hr).kept hown.1 h2
  · refine (Below.refl _ _).grown h2 hbase (fun k hk => ?_)
    rcases hown.1.2 with ⟨rfl, _⟩ | ⟨g, cap, cur, rfl, hg, _⟩
    · cases hk
    · cases hk; exact hg

theorem cells_lit {w : World} {b : Nat} {cs : Array Value} {rs : List R3} (h : w.heap[b]? = some (.cells cs 30 (0, 0))) (e : cs = (rowCells rs).toArray) : ∀ (j : Nat) (u : Value), (rowCells rs)[j]? = some u → w.cell? ⟨b, j, none⟩ = some u :=
  fun j u hj => cell_of h j u (by rw [e]; simpa using hj)

/-- What 'returned' adds. -/
def ret (l : List Nd) : List Nd := l ++ [⟨12, 0, ⟨#[]⟩, [], [(l.length : Int) - 1], 1⟩, ⟨1, 0, ⟨#[]⟩, [], [(l.length : Int)], 1⟩, ⟨26, 1, ⟨#[]⟩, [], [(l.length : Int) + 1], 1⟩]
theorem ret_len (l : List Nd) : (ret l).length = l.length + 3 := by unfold ret; rw [List.length_append]; rfl

set_option maxRecDepth 100000 in
set_option maxHeartbeats 4000000 in
theorem returned_fn (g c n : Nat) (rs : List R3) (w : World) (hO : OwnNd w 0 (.slice (some ⟨g, 0, none⟩) n c) rs) (hn : rs.length = n) (hn0 : 0 < n) (hn9 : n ≤ 5000) :
    Calls Try.prog 5 #[.slice (some ⟨g, 0, none⟩) n c] w fun e w' => ∃ g' c', e = .returned (.agg #[.slice (some ⟨g', 0, none⟩) (n + 3) c', .int .i64 ((n : Int) + 2)]) ∧ OwnSyn w' (.slice (some ⟨g', 0, none⟩) (n + 3) c') (ret (rs.map (·.1))) ∧ Below w.heap.size w w' := by
  have HO := Lib.hid hO
  have HN := Lib.hid hn
  have h0 := hO.1
  rw [hn] at h0
  obtain ⟨_, _, _, cur, hcur, hat⟩ := own_at h0
  have HCUR := Lib.hid hcur
  have HAT := Lib.hid hat
  clear hO hn h0 hcur hat
  obtain ⟨B, hB⟩ : ∃ B, w.heap.size = B := ⟨_, rfl⟩
  have w1 : IntKind.i64.wrap ((n : Int) + 2) = (n : Int) + 2 := IntWalk.i64_in _ (by omega)
  have w2 : IntKind.i64.wrap ((n : Int) + 1) = (n : Int) + 1 := IntWalk.i64_in _ (by omega)
  have w3 : IntKind.i64.wrap ((n : Int) - 1) = (n : Int) - 1 := IntWalk.i64_in _ (by omega)
  go_enter Try.func5, Try.ntmps5
  go_upto_region 3 with fail
  have hb0 : Below w.heap.size w ((w.alloc (.cells #[.slice none 0 0, .int .i64 0] 24)).alloc (.cells #[.slice none 0 0, .int .i64 ((n : Int) + 2)] 24)) := ((Below.refl _ _).alloc (Nat.le_refl _) _).alloc (by simp) _
  have hz : ((w.alloc (.cells #[.slice none 0 0, .int .i64 0] 24)).alloc (.cells #[.slice none 0 0, .int .i64 ((n : Int) + 2)] 24)).heap[B]? = some (.cells #[.slice none 0 0, .int .i64 0] 24 (0, 0)) := by rw [← hB]; exact miss (hit rfl)
  have hx : ((w.alloc (.cells #[.slice none 0 0, .int .i64 0] 24)).alloc (.cells #[.slice none 0 0, .int .i64 ((n : Int) + 2)] 24)).heap[B + 1]? = some (.cells #[.slice none 0 0, .int .i64 ((n : Int) + 2)] 24 (0, 0)) := by rw [← hB]; exact hit (by simp)
  have hs0 : ((w.alloc (.cells #[.slice none 0 0, .int .i64 0] 24)).alloc (.cells #[.slice none 0 0, .int .i64 ((n : Int) + 2)] 24)).heap.size = B + 2 := by rw [← hB]; simp
  obtain ⟨W1, hW1⟩ : ∃ W1, ((w.alloc (.cells #[.slice none 0 0, .int .i64 0] 24)).alloc (.cells #[.slice none 0 0, .int .i64 ((n : Int) + 2)] 24)) = W1 := ⟨_, rfl⟩
  rw [hW1] at hb0 hz hx hs0 ⊢
  clear hW1
  have m0 := cell_of hx 0 (.slice none 0 0) rfl
  have HZ := Lib.hid hz
  have HX := Lib.hid hx
  have HB0 := Lib.hid hb0
  have HB := Lib.hid hB
  have HSUBS := Lib.hid (show ∀ r ∈ rs, Sub W1 r from fun r hr => (HO.out.2 r hr).below hb0)
  have HCELLS := Lib.hid (show ∀ (j : Nat) (u : Value), (rowCells rs)[j]? = some u → W1.cell? ⟨g, j, none⟩ = some u from fun j u hj => (hb0.cell (p := ⟨g, j, none⟩) (lt_of_heap HCUR.out)).trans (cell_of HCUR.out j u (HAT.out j u hj)))
  have HS0 := Lib.hid hs0
  clear hz hx hb0 hB hs0
  go_wp2_with (at_builtin; refine wpList_append_rows rfl (.tmp 11) (.tmp 12) rfl (B + 2) (.slice none 0 0) [] rs rfl ⟨World.ownsRow_nil _ _ _ _, fun r h => by cases h⟩ HSUBS.out g c n HN.out rfl HCELLS.out ?c1 ?c2 ?_)
  case c1 => have := HN.out; simp; omega
  case c2 => have := HS0.out; omega
  intro v1 w1' ho hb hg
  obtain ⟨g1, c1, rfl⟩ := own_ne ho.1 (by have := HN.out; simp; omega)
  have hlen := HN.out
  rw [hlen] at ho ⊢
  have hx1 := (hb.block (B + 1) (by omega)).trans HX.out
  have hz1 := (hb.block B (by omega)).trans HZ.out
  have HBX := Lib.hid (Joins.block_setCell (i := 0) hx1 (.slice (some ⟨g1, 0, none⟩) n c1))
  have HO5 := Lib.hid (show OwnNd (w1'.setCell ⟨B + 1, 0, none⟩ (.slice (some ⟨g1, 0, none⟩) n c1)) (B + 2) (.slice (some ⟨g1, 0, none⟩) n c1) rs from ⟨ownsRow_setCell_below (a := ⟨B + 1, 0, none⟩) ho.1 (by show B + 1 < B + 2; omega) _, fun r hr => (ho.2 r hr).set hx1 (by decide) (by decide)⟩)
  have HZ5 := Lib.hid (show (w1'.setCell ⟨B + 1, 0, none⟩ (.slice (some ⟨g1, 0, none⟩) n c1)).heap[B]? = _ from (Below.heap_setCell _ _ _ _ (by show B ≠ B + 1; omega)).trans hz1)
  have HB5 := Lib.hid (show Below w.heap.size w (w1'.setCell ⟨B + 1, 0, none⟩ (.slice (some ⟨g1, 0, none⟩) n c1)) from (HB0.out.trans (hb.mono (by rw [HB.out]; omega))).setCell (p := ⟨B + 1, 0, none⟩) (by rw [HB.out]; show B ≤ B + 1; omega) _)
  have n0 := cell_of hx1 0 (.slice none 0 0) rfl
  have nf := free_of hx1 0
  clear ho hb hg hlen hx1 hz1 m0
  go_upto_region 4 with fail
  obtain ⟨W5, hW5⟩ : ∃ W5, w1'.setCell ⟨B + 1, 0, none⟩ (.slice (some ⟨g1, 0, none⟩) n c1) = W5 := ⟨_, rfl⟩
  rw [hW5] at HBX HO5 HZ5 HB5 ⊢
  clear hW5 n0 nf
  obtain ⟨S, hS⟩ : ∃ S, W5.heap.size = S := ⟨_, rfl⟩
  have hB2 : B + 1 < S := by rw [← hS]; exact lt_of_heap HBX.out
  have hal : Below W5.heap.size W5 ((((W5.alloc (.cells #[.int .i64 ((n : Int) - 1)] 3)).alloc (.cells #[.int .i64 (n : Int)] 3)).alloc (.cells #[.int .i64 ((n : Int) + 1)] 3)).alloc (.cells #[.int .u8 12, .int .i64 0, .string ⟨#[]⟩, .slice none 0 0, .slice (some ⟨S, 0, none⟩) 1 1, .int .i64 1, .int .u8 1, .int .i64 0, .string ⟨#[]⟩, .slice none 0 0, .slice (some ⟨S + 1, 0, none⟩) 1 1, .int .i64 1, .int .u8 26, .int .i64 1, .string ⟨#[]⟩, .slice none 0 0, .slice (some ⟨S + 1 + 1, 0, none⟩) 1 1, .int .i64 1] 30)) := ((((Below.refl _ _).alloc (Nat.le_refl _) _).alloc (by simp) _).alloc (by simp; omega) _).alloc (by simp; omega) _
  have k1 : ((((W5.alloc (.cells #[.int .i64 ((n : Int) - 1)] 3)).alloc (.cells #[.int .i64 (n : Int)] 3)).alloc (.cells #[.int .i64 ((n : Int) + 1)] 3)).alloc (.cells #[.int .u8 12, .int .i64 0, .string ⟨#[]⟩, .slice none 0 0, .slice (some ⟨S, 0, none⟩) 1 1, .int .i64 1, .int .u8 1, .int .i64 0, .string ⟨#[]⟩, .slice none 0 0, .slice (some ⟨S + 1, 0, none⟩) 1 1, .int .i64 1, .int .u8 26, .int .i64 1, .string ⟨#[]⟩, .slice none 0 0, .slice (some ⟨S + 1 + 1, 0, none⟩) 1 1, .int .i64 1] 30)).heap[S]? = some (.cells #[.int .i64 ((n : Int) - 1)] 3 (0, 0)) := by rw [← hS]; exact miss (miss (miss (hit rfl)))
  have k2 : ((((W5.alloc (.cells #[.int .i64 ((n : Int) - 1)] 3)).alloc (.cells #[.int .i64 (n : Int)] 3)).alloc (.cells #[.int .i64 ((n : Int) + 1)] 3)).alloc (.cells #[.int .u8 12, .int .i64 0, .string ⟨#[]⟩, .slice none 0 0, .slice (some ⟨S, 0, none⟩) 1 1, .int .i64 1, .int .u8 1, .int .i64 0, .string ⟨#[]⟩, .slice none 0 0, .slice (some ⟨S + 1, 0, none⟩) 1 1, .int .i64 1, .int .u8 26, .int .i64 1, .string ⟨#[]⟩, .slice none 0 0, .slice (some ⟨S + 1 + 1, 0, none⟩) 1 1, .int .i64 1] 30)).heap[S + 1]? = some (.cells #[.int .i64 (n : Int)] 3 (0, 0)) := by rw [← hS]; exact miss (miss (hit (by simp)))
  have k3 : ((((W5.alloc (.cells #[.int .i64 ((n : Int) - 1)] 3)).alloc (.cells #[.int .i64 (n : Int)] 3)).alloc (.cells #[.int .i64 ((n : Int) + 1)] 3)).alloc (.cells #[.int .u8 12, .int .i64 0, .string ⟨#[]⟩, .slice none 0 0, .slice (some ⟨S, 0, none⟩) 1 1, .int .i64 1, .int .u8 1, .int .i64 0, .string ⟨#[]⟩, .slice none 0 0, .slice (some ⟨S + 1, 0, none⟩) 1 1, .int .i64 1, .int .u8 26, .int .i64 1, .string ⟨#[]⟩, .slice none 0 0, .slice (some ⟨S + 1 + 1, 0, none⟩) 1 1, .int .i64 1] 30)).heap[S + 1 + 1]? = some (.cells #[.int .i64 ((n : Int) + 1)] 3 (0, 0)) := by rw [← hS]; exact miss (hit (by simp))
  have k4 : ((((W5.alloc (.cells #[.int .i64 ((n : Int) - 1)] 3)).alloc (.cells #[.int .i64 (n : Int)] 3)).alloc (.cells #[.int .i64 ((n : Int) + 1)] 3)).alloc (.cells #[.int .u8 12, .int .i64 0, .string ⟨#[]⟩, .slice none 0 0, .slice (some ⟨S, 0, none⟩) 1 1, .int .i64 1, .int .u8 1, .int .i64 0, .string ⟨#[]⟩, .slice none 0 0, .slice (some ⟨S + 1, 0, none⟩) 1 1, .int .i64 1, .int .u8 26, .int .i64 1, .string ⟨#[]⟩, .slice none 0 0, .slice (some ⟨S + 1 + 1, 0, none⟩) 1 1, .int .i64 1] 30)).heap[S + 1 + 1 + 1]? = some (.cells #[.int .u8 12, .int .i64 0, .string ⟨#[]⟩, .slice none 0 0, .slice (some ⟨S, 0, none⟩) 1 1, .int .i64 1, .int .u8 1, .int .i64 0, .string ⟨#[]⟩, .slice none 0 0, .slice (some ⟨S + 1, 0, none⟩) 1 1, .int .i64 1, .int .u8 26, .int .i64 1, .string ⟨#[]⟩, .slice none 0 0, .slice (some ⟨S + 1 + 1, 0, none⟩) 1 1, .int .i64 1] 30 (0, 0)) := by rw [← hS]; exact hit (by simp)
  have hs6 : ((((W5.alloc (.cells #[.int .i64 ((n : Int) - 1)] 3)).alloc (.cells #[.int .i64 (n : Int)] 3)).alloc (.cells #[.int .i64 ((n : Int) + 1)] 3)).alloc (.cells #[.int .u8 12, .int .i64 0, .string ⟨#[]⟩, .slice none 0 0, .slice (some ⟨S, 0, none⟩) 1 1, .int .i64 1, .int .u8 1, .int .i64 0, .string ⟨#[]⟩, .slice none 0 0, .slice (some ⟨S + 1, 0, none⟩) 1 1, .int .i64 1, .int .u8 26, .int .i64 1, .string ⟨#[]⟩, .slice none 0 0, .slice (some ⟨S + 1 + 1, 0, none⟩) 1 1, .int .i64 1] 30)).heap.size = S + 4 := by rw [← hS]; simp
  have one : 1 ≤ maxLen := by unfold maxLen; omega
  obtain ⟨qs, hqs⟩ : ∃ qs : List R3, [((⟨12, 0, ⟨#[]⟩, [], [(n : Int) - 1], 1⟩ : Nd), Value.slice none 0 0, Value.slice (some ⟨S, 0, none⟩) 1 1), ((⟨1, 0, ⟨#[]⟩, [], [(n : Int)], 1⟩ : Nd), Value.slice none 0 0, Value.slice (some ⟨S + 1, 0, none⟩) 1 1), ((⟨26, 1, ⟨#[]⟩, [], [(n : Int) + 1], 1⟩ : Nd), Value.slice none 0 0, Value.slice (some ⟨S + 1 + 1, 0, none⟩) 1 1)] = qs := ⟨_, rfl⟩
  have HQ := Lib.hid (show (∀ r ∈ qs, Sub ((((W5.alloc (.cells #[.int .i64 ((n : Int) - 1)] 3)).alloc (.cells #[.int .i64 (n : Int)] 3)).alloc (.cells #[.int .i64 ((n : Int) + 1)] 3)).alloc (.cells #[.int .u8 12, .int .i64 0, .string ⟨#[]⟩, .slice none 0 0, .slice (some ⟨S, 0, none⟩) 1 1, .int .i64 1, .int .u8 1, .int .i64 0, .string ⟨#[]⟩, .slice none 0 0, .slice (some ⟨S + 1, 0, none⟩) 1 1, .int .i64 1, .int .u8 26, .int .i64 1, .string ⟨#[]⟩, .slice none 0 0, .slice (some ⟨S + 1 + 1, 0, none⟩) 1 1, .int .i64 1] 30)) r) ∧ qs.length = 3 ∧ (∀ (j : Nat) (u : Value), (rowCells qs)[j]? = some u → ((((W5.alloc (.cells #[.int .i64 ((n : Int) - 1)] 3)).alloc (.cells #[.int .i64 (n : Int)] 3)).alloc (.cells #[.int .i64 ((n : Int) + 1)] 3)).alloc (.cells #[.int .u8 12, .int .i64 0, .string ⟨#[]⟩, .slice none 0 0, .slice (some ⟨S, 0, none⟩) 1 1, .int .i64 1, .int .u8 1, .int .i64 0, .string ⟨#[]⟩, .slice none 0 0, .slice (some ⟨S + 1, 0, none⟩) 1 1, .int .i64 1, .int .u8 26, .int .i64 1, .string ⟨#[]⟩, .slice none 0 0, .slice (some ⟨S + 1 + 1, 0, none⟩) 1 1, .int .i64 1] 30)).cell? ⟨S + 1 + 1 + 1, j, none⟩ = some u) ∧ qs.map (·.1) = [⟨12, 0, ⟨#[]⟩, [], [(n : Int) - 1], 1⟩, ⟨1, 0, ⟨#[]⟩, [], [(n : Int)], 1⟩, ⟨26, 1, ⟨#[]⟩, [], [(n : Int) + 1], 1⟩] from by
    subst hqs
    refine ⟨fun r hr => ?_, rfl, cells_lit k4 rfl, rfl⟩
    simp only [List.mem_cons, List.not_mem_nil, or_false] at hr
    rcases hr with rfl | rfl | rfl
    · exact ⟨nilRow, own_lit (Nat.zero_le _) k1 rfl one⟩
    · exact ⟨nilRow, own_lit (Nat.zero_le _) k2 rfl one⟩
    · exact ⟨nilRow, own_lit (Nat.zero_le _) k3 rfl one⟩)
  have HO6 := Lib.hid (HO5.out.below hal)
  have HX6 := Lib.hid ((hal.block _ (by omega)).trans HBX.out)
  have HZ6 := Lib.hid ((hal.block _ (by omega)).trans HZ5.out)
  have HB6 := Lib.hid (HB5.out.trans (hal.mono (by have := HB5.out.size; exact this)))
  have HS6 := Lib.hid hs6
  have m0 := cell_of HBX.out 0 (.slice (some ⟨g1, 0, none⟩) n c1) rfl
  clear hal k1 k2 k3 k4 hqs one hs6
  go_wp2_with (at_builtin; refine wpList_append_rows rfl (.tmp 16) (.tmp 28) rfl (B + 2) (.slice (some ⟨g1, 0, none⟩) n c1) rs qs rfl HO6.out HQ.out.1 (S + 1 + 1 + 1) 3 3 HQ.out.2.1 rfl HQ.out.2.2.1 ?d1 ?d2 ?_)
  case d1 => have := HN.out; have := HQ.out.2.1; omega
  case d2 => have := HS6.out; omega
  intro v2 w2' ho hb hg
  obtain ⟨g2, c2, rfl⟩ := own_ne ho.1 (by rw [List.length_append, HQ.out.2.1]; omega)
  have hlen : (rs ++ qs).length = n + 3 := by rw [List.length_append, HQ.out.2.1, HN.out]
  rw [hlen] at ho ⊢
  have hx1 := (hb.block (B + 1) (by omega)).trans HX6.out
  have hz1 := (hb.block B (by omega)).trans HZ6.out
  have i0 := Joins.block_setCell (i := 0) hx1 (.slice (some ⟨g2, 0, none⟩) (n + 3) c2)
  have hz2 := (Below.heap_setCell w2' ⟨B + 1, 0, none⟩ (.slice (some ⟨g2, 0, none⟩) (n + 3) c2) B (by show B ≠ B + 1; omega)).trans hz1
  have e0 := cell_of i0 0 (.slice (some ⟨g2, 0, none⟩) (n + 3) c2) rfl
  have e1 := cell_of i0 1 (.int .i64 ((n : Int) + 2)) rfl
  have zc0 := cell_of hz2 0 (.slice none 0 0) rfl
  have zc1 := cell_of hz2 1 (.int .i64 0) rfl
  have zf0 := free_of hz2 0
  have zf1 := free_of hz2 1
  have j0 := Joins.block_setCell (i := 0) hz2 (.slice (some ⟨g2, 0, none⟩) (n + 3) c2)
  have j1 := Joins.block_setCell (i := 1) j0 (.int .i64 ((n : Int) + 2))
  have r0 := cell_of j1 0 (.slice (some ⟨g2, 0, none⟩) (n + 3) c2) rfl
  have r1 := cell_of j1 1 (.int .i64 ((n : Int) + 2)) rfl
  have hdone : OwnSyn (((w2'.setCell ⟨B + 1, 0, none⟩ (.slice (some ⟨g2, 0, none⟩) (n + 3) c2)).setCell ⟨B, 0, none⟩ (.slice (some ⟨g2, 0, none⟩) (n + 3) c2)).setCell ⟨B, 1, none⟩ (.int .i64 ((n : Int) + 2))) (.slice (some ⟨g2, 0, none⟩) (n + 3) c2) (ret (rs.map (·.1))) := by
    refine ⟨rs ++ qs, ⟨own_other (own_other (own_other (ownsRow_base ho.1 (Nat.zero_le _)) hx1 (by decide)) hz2 (by decide)) j0 (by decide), fun r hr => (((ho.2 r hr).set hx1 (by decide) (by decide)).set hz2 (by decide) (by decide)).set j0 (by decide) (by decide)⟩, ?_⟩
    unfold ret
    rw [List.map_append, HQ.out.2.2.2, List.length_map, HN.out]
  have hbelow : Below w.heap.size w (((w2'.setCell ⟨B + 1, 0, none⟩ (.slice (some ⟨g2, 0, none⟩) (n + 3) c2)).setCell ⟨B, 0, none⟩ (.slice (some ⟨g2, 0, none⟩) (n + 3) c2)).setCell ⟨B, 1, none⟩ (.int .i64 ((n : Int) + 2))) :=
    (((HB6.out.trans (hb.mono (by rw [HB.out]; omega))).setCell (p := ⟨B + 1, 0, none⟩) (by rw [HB.out]; show B ≤ B + 1; omega) _).setCell (p := ⟨B, 0, none⟩) (by rw [HB.out]; exact Nat.le_refl _) _).setCell (p := ⟨B, 1, none⟩) (by rw [HB.out]; exact Nat.le_refl _) _
  have HD := Lib.hid hdone
  have HBL := Lib.hid hbelow
  have HR0 := Lib.hid r0
  have HR1 := Lib.hid r1
  have n0 := cell_of hx1 0 (.slice (some ⟨g1, 0, none⟩) n c1) rfl
  have nf := free_of hx1 0
  clear ho hb hg hlen hx1 hz1 i0 hz2 j0 j1 r0 r1 hdone hbelow m0
  go_wp2_with fail
  refine bodyPost_ret (v := .agg #[.slice (some ⟨g2, 0, none⟩) (n + 3) c2, .int .i64 ((n : Int) + 2)]) (by simp [results, Try.results5, go_sem, HR0.out, HR1.out]) rfl ?_
  exact ⟨g2, c2, rfl, HD.out, HBL.out⟩

end Go.Proofs.Ytmddffacjkkeiaa.Nd
