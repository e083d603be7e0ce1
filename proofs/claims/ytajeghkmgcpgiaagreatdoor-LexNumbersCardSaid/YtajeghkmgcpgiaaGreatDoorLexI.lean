/-
  Lists of tokens in memory; twinstepref04.Tokens, by contract.
-/
import Derived.Test.YtajeghkmgcpgiaaGreatDoorLexH
namespace Go.Proofs.YtajeghkmgcpgiaaGreatDoor.Lex
open Go.RowKit

theorem infoTok : (Tryz.prog.info? 25).map (fun i => (i.zero, i.size, i.bytes)) = some (some (.agg #[.int .u8 0, .string ⟨#[]⟩, .int .i64 0, .int .i64 0]), 4, 40) := by kernel_rfl

def tokCells (t : Tok) : List Value := [.int .u8 t.k, .string t.s, .int .i64 t.n, .int .i64 t.line]
def toksCells (l : List Tok) : List Value := l.flatMap tokCells
theorem toks_length : ∀ l : List Tok, (toksCells l).length = l.length * 4
  | [] => rfl
  | t :: l => by
    show (tokCells t ++ toksCells l).length = _
    rw [List.length_append, toks_length l, List.length_cons, show (tokCells t).length = 4 from rfl]; omega
theorem toks_snoc (l : List Tok) (t : Tok) : toksCells (l ++ [t]) = toksCells l ++ tokCells t := by
  unfold toksCells; rw [List.flatMap_append]; simp

/-- 'out = append(out, t)'. -/
theorem wpList_append_tok {w : World} {ops : Array Oper} {rest : List Oper} {o : Oper} {a : Act} {Q : Exit → Act → World → Prop} (hgd : o.guard = none) (s x : Operand)
    (ho : o.op = .call { callee := .builtin .append, args := #[s, x], argTypes := #[31, 31] })
    (base : Nat) (v : Value) (l : List Tok) (t : Tok) (vk vl : Int) (hvk : vk = t.k) (hvl : vl = t.line) (hs : a.eval s = v) (hown : w.ownsRow base 25 4 v l.length (toksCells l))
    (g : Nat) (hx : a.eval x = .slice (some ⟨g, 0, none⟩) 1 1) (hgw : g = w.heap.size) (hl : l.length ≤ 1000000000) (hbase : base ≤ w.heap.size)
    (h : ∀ v' w', w'.ownsRow base 25 4 v' (l ++ [t]).length (toksCells (l ++ [t])) → (w.alloc (.cells #[.int .u8 vk, .string t.s, .int .i64 t.n, .int .i64 vl] 25)).grownBy w' v.ownBlock → wpList Tryz.prog ops Q rest (a.put o.dst v') w') :
    wpList Tryz.prog ops Q (o :: rest) a (w.alloc (.cells #[.int .u8 vk, .string t.s, .int .i64 t.n, .int .i64 vl] 25)) := by
  subst hvk hvl hgw
  obtain ⟨i, hi, hz, hsize, hby⟩ := info_parts infoTok
  refine wpList_append_own (w := w.alloc (.cells #[.int .u8 t.k, .string t.s, .int .i64 t.n, .int .i64 t.line] 25)) hgd s x 31 ho base 25 i _ 4 40 Tryz.underlying31 hi hz hsize hby rfl (by decide) v l.length (toksCells l) hs (hown.alloc _) ⟨w.heap.size, 0, none⟩ 1 1 (tokCells t) hx rfl (fun j u hj => ?_) (fun u hu => ?_) (by unfold maxLen; omega) (by omega) (by simp; omega) (fun v' w' h1 h2 _ => h v' w' (by rw [toks_snoc, List.length_append, List.length_singleton]; exact h1) h2)
  · rw [show (⟨w.heap.size, 0, none⟩ : Addr).add j = ⟨w.heap.size, j, none⟩ from by simp [Addr.add]; omega, World.cell?_alloc_mark, ← hj]
    simp [tokCells]
  · simp [tokCells] at hu
    rcases hu with rfl | rfl | rfl | rfl <;> rfl

/-- A slice that reads as a list of tokens. -/
def TokReads (w : World) (v : Value) (l : List Tok) : Prop :=
  ∃ ao cap, v = .slice ao l.length cap ∧ (l ≠ [] → ∃ g, g < w.heap.size ∧ ao = some ⟨g, 0, none⟩ ∧ ∀ (i : Nat) (h : i < l.length), w.cell? ⟨g, i * 4, none⟩ = some (.int .u8 l[i].k) ∧ w.cell? ⟨g, i * 4 + 1, none⟩ = some (.string l[i].s) ∧ w.cell? ⟨g, i * 4 + 2, none⟩ = some (.int .i64 l[i].n) ∧ w.cell? ⟨g, i * 4 + 3, none⟩ = some (.int .i64 l[i].line))
theorem TokReads.below {w w' : World} {v : Value} {l : List Tok} (h : TokReads w v l) (hb : Below w.heap.size w w') : TokReads w' v l := by
  obtain ⟨ao, cap, rfl, h⟩ := h
  refine ⟨ao, cap, rfl, fun hl => ?_⟩
  obtain ⟨g, hg, rfl, hc⟩ := h hl
  refine ⟨g, by have := hb.size; omega, rfl, fun i hi => ?_⟩
  rw [hb.cell (p := ⟨g, i * 4, none⟩) hg, hb.cell (p := ⟨g, i * 4 + 1, none⟩) hg, hb.cell (p := ⟨g, i * 4 + 2, none⟩) hg, hb.cell (p := ⟨g, i * 4 + 3, none⟩) hg]
  exact hc i hi
theorem TokReads.nil (w : World) : TokReads w (.slice none 0 0) [] := ⟨none, 0, rfl, fun h => absurd rfl h⟩
theorem toks_at : ∀ (l : List Tok) (i : Nat) (h : i < l.length) (j : Nat), j < 4 → (toksCells l)[i * 4 + j]? = (tokCells l[i])[j]?
  | t :: l, 0, _, j, hj => by
    show (tokCells t ++ toksCells l)[0 * 4 + j]? = _
    rw [Nat.zero_mul, Nat.zero_add, List.getElem?_append_left (show j < (tokCells t).length from hj)]; rfl
  | t :: l, i + 1, h, j, hj => by
    show (tokCells t ++ toksCells l)[(i + 1) * 4 + j]? = _
    rw [List.getElem?_append_right (by show 4 ≤ _; omega), show (i + 1) * 4 + j - (tokCells t).length = i * 4 + j from by show (i + 1) * 4 + j - 4 = _; omega]
    exact toks_at l i (by simpa using h) j hj
theorem TokReads.own {w : World} {b : Nat} {v : Value} {l : List Tok} (h : w.ownsRow b 25 4 v l.length (toksCells l)) : TokReads w v l := by
  rcases h.2 with ⟨rfl, h0⟩ | ⟨g, cap, cur, rfl, _, hg, _⟩
  · exact ⟨none, 0, by rw [h0], fun hl => absurd (List.eq_nil_of_length_eq_zero h0) hl⟩
  · refine ⟨_, cap, rfl, fun _ => ⟨g, (Array.getElem?_eq_some_iff.1 hg).1, rfl, fun i hi => ?_⟩⟩
    have hc : ∀ j, j < 4 → ∀ u, (tokCells l[i])[j]? = some u → w.cell? ⟨g, i * 4 + j, none⟩ = some u := fun j hj u hu => by
      have := h.cells (g := g) rfl (i * 4 + j) u (by rw [toks_at l i hi j hj]; exact hu)
      rwa [show (⟨g, 0, none⟩ : Addr).add (i * 4 + j) = ⟨g, i * 4 + j, none⟩ from by simp [Addr.add]; omega] at this
    exact ⟨hc 0 (by decide) _ rfl, hc 1 (by decide) _ rfl, hc 2 (by decide) _ rfl, hc 3 (by decide) _ rfl⟩

/-- What Tokens answers. -/
def ToksSays (R : List Tok × Nat × Nat) (w : World) (e : Ending) (w' : World) : Prop :=
  ∃ v, e = .returned (.tuple #[v, .agg #[.int .i64 (R.2.1 : Nat), .int .i64 (R.2.2 : Nat)]]) ∧ TokReads w' v R.1 ∧ Below w.heap.size w w'
theorem toks_says {R : List Tok × Nat × Nat} {v : Value} {l : List Tok} {e n : Nat} {ve vn : Int} {w w' : World} (h : R = (l, e, n)) (he : ve = e) (hn : vn = n) (hv : TokReads w' v l) (hb : Below w.heap.size w w') : ToksSays R w (.returned (.tuple #[v, .agg #[.int .i64 ve, .int .i64 vn]])) w' := by
  subst h he hn
  exact ⟨v, rfl, hv, hb⟩

/-! ### Rounds of Tokens -/
structure TAt (s : ByteArray) (R : List Tok × Nat × Nat) (p line : Nat) (acc : List Tok) : Prop where
  le : p ≤ s.size
  few : acc.length ≤ p
  low : line ≤ p + 1
  says : ∃ m, s.size - p + 1 ≤ m ∧ R = tokF m line (s.data.toList.drop p) acc

theorem linesF_le : ∀ (l : List UInt8) (c : Nat), linesF c l ≤ l.length
  | [], c => Nat.zero_le _
  | a :: l, c => by
    have h1 := linesF_le l 0
    have h2 := linesF_le l a.toNat
    rw [linesF]
    simp only [List.length_cons]
    repeat (first | omega | split)
theorem lines_take (l : List UInt8) (k : Nat) : linesOf (l.take k) ≤ k := by
  have h := linesF_le (l.take k) 0
  have h2 : (l.take k).length ≤ k := by rw [List.length_take]; omega
  exact Nat.le_trans h h2

theorem heap_new (w : World) (o : Obj) : (w.alloc o).heap[w.heap.size]? = some o := by
  show (w.heap.push o)[w.heap.size]? = some o
  simp
theorem own_below {w w' : World} {b : Nat} {e : TypeId} {size : Nat} {v : Value} {n : Nat} {xs : List Value} (h : w.ownsRow b e size v n xs) (hb : Below w.heap.size w w') : w'.ownsRow b e size v n xs := by
  refine ⟨h.1, ?_⟩
  rcases h.2 with hn | ⟨g, cap, cur, rfl, hbg, hg, rest⟩
  · exact .inl hn
  · exact .inr ⟨g, cap, cur, rfl, hbg, (hb.block g (Array.getElem?_eq_some_iff.1 hg).1).trans hg, rest⟩
theorem heap_old {w : World} {g : Nat} (o : Obj) (h : g < w.heap.size) : (w.alloc o).heap[g]? = w.heap[g]? := (((Below.refl w.heap.size w).alloc (Nat.le_refl _) o).block g h)
theorem two_set {w0 w : World} {B g : Nat} {v0 v1 : Value} (h : Below B w0 w) (hg : B ≤ g) : Below B w0 ((w.setCell ⟨g, 0, none⟩ v0).setCell ⟨g, 1, none⟩ v1) :=
  (h.setCell (p := ⟨g, 0, none⟩) hg _).setCell (p := ⟨g, 1, none⟩) hg _
theorem reads_two {w : World} {b g n : Nat} {v v0 v1 : Value} {l : List Tok} (h : w.ownsRow b 25 4 v n (toksCells l)) (hn : n = l.length) (hg : g < b) :
    TokReads ((w.setCell ⟨g, 0, none⟩ v0).setCell ⟨g, 1, none⟩ v1) v l := by
  subst hn
  exact TokReads.own (ownsRow_setCell_below (ownsRow_setCell_below h (a := ⟨g, 0, none⟩) hg v0) (a := ⟨g, 1, none⟩) hg v1)
theorem drop_end' {s : ByteArray} {p : Nat} (h : s.size ≤ p) : s.data.toList.drop p = [] := List.drop_eq_nil_of_le h
theorem drop_more {s : ByteArray} {p : Nat} (h : p < s.size) : s.data.toList.drop p ≠ [] := fun g => by
  have := congrArg List.length g
  rw [List.length_drop, show s.data.toList.length = s.size from rfl, List.length_nil] at this
  omega

variable {s : ByteArray} {R : List Tok × Nat × Nat} {p ln k : Nat} {acc : List Tok}
/-- The line behind the blanks. -/
def lnAt (s : ByteArray) (p ln k : Nat) : Nat := ln + linesOf ((s.data.toList.drop p).take k)
theorem TAt.lnLow (h : TAt s R p ln acc) : lnAt s p ln k ≤ p + k + 1 := by
  have h1 := h.low
  have h2 := lines_take (s.data.toList.drop p) k
  unfold lnAt; omega
theorem TAt.step (h : TAt s R p ln acc) (hk : k = blanks (s.data.toList.drop p)) : ∃ m, s.size - p ≤ m ∧
    R = (if s.data.toList.drop (p + k) = [] then (acc ++ [⟨6, ⟨#[]⟩, 0, lnAt s p ln k⟩], 0, 0)
    else match noteL (s.data.toList.drop (p + k)) with
      | some 0 => ([], 30, lnAt s p ln k)
      | some (j + 1) => tokF m (lnAt s p ln k + linesOf ((s.data.toList.drop (p + k)).take (j + 1))) (s.data.toList.drop (p + k + (j + 1))) acc
      | none =>
        if (oneL (s.data.toList.drop (p + k))).e = 0 then
          tokF m (lnAt s p ln k + linesOf ((s.data.toList.drop (p + k)).take (oneL (s.data.toList.drop (p + k))).len)) (s.data.toList.drop (p + k + (oneL (s.data.toList.drop (p + k))).len))
            (acc ++ [⟨(oneL (s.data.toList.drop (p + k))).k, (oneL (s.data.toList.drop (p + k))).s, (oneL (s.data.toList.drop (p + k))).n, lnAt s p ln k⟩])
        else ([], (oneL (s.data.toList.drop (p + k))).e, lnAt s p ln k)) := by
  obtain ⟨m, hm, rfl⟩ := h.says
  obtain ⟨m, rfl⟩ : ∃ m', m = m' + 1 := ⟨m - 1, by omega⟩
  refine ⟨m, by omega, ?_⟩
  subst hk
  rw [tokF]
  simp only [List.drop_drop, lnAt]
  rfl
theorem TAt.fin (h : TAt s R p ln acc) (hk : k = blanks (s.data.toList.drop p)) (he : p + k = s.size) : R = (acc ++ [⟨6, ⟨#[]⟩, 0, lnAt s p ln k⟩], 0, 0) := by
  obtain ⟨m, _, hR⟩ := h.step hk
  rw [hR, if_pos (drop_end' (by omega))]
theorem TAt.open (h : TAt s R p ln acc) (hk : k = blanks (s.data.toList.drop p)) (he : p + k < s.size) (hn : noteL (s.data.toList.drop (p + k)) = some 0) : R = ([], 30, lnAt s p ln k) := by
  obtain ⟨m, _, hR⟩ := h.step hk
  rw [hR, if_neg (drop_more he), hn]
theorem TAt.note (h : TAt s R p ln acc) (hk : k = blanks (s.data.toList.drop p)) (he : p + k < s.size) {j : Nat} (hn : noteL (s.data.toList.drop (p + k)) = some j) (h0 : 0 < j) :
    p + k + j ≤ s.size ∧ TAt s R (p + k + j) (lnAt s p ln k + linesOf ((s.data.toList.drop (p + k)).take j)) acc := by
  have hj := note_len hn
  rw [List.length_drop, show s.data.toList.length = s.size from rfl] at hj
  obtain ⟨m, hm, hR⟩ := h.step hk
  rw [if_neg (drop_more he), hn] at hR
  obtain ⟨j, rfl⟩ : ∃ j', j = j' + 1 := ⟨j - 1, by omega⟩
  have hf := h.few
  have h1 := h.lnLow (k := k)
  have h2 := lines_take (s.data.toList.drop (p + k)) (j + 1)
  exact ⟨by omega, by omega, by omega, by omega, m, by omega, hR⟩
theorem TAt.bad (h : TAt s R p ln acc) (hk : k = blanks (s.data.toList.drop p)) (he : p + k < s.size) (hn : noteL (s.data.toList.drop (p + k)) = none) (ho : (oneL (s.data.toList.drop (p + k))).e ≠ 0) :
    R = ([], (oneL (s.data.toList.drop (p + k))).e, lnAt s p ln k) := by
  obtain ⟨m, _, hR⟩ := h.step hk
  rw [if_neg (drop_more he), hn] at hR
  simp only [] at hR
  rw [hR, if_neg ho]
theorem TAt.one (h : TAt s R p ln acc) (hk : k = blanks (s.data.toList.drop p)) (he : p + k < s.size) (hn : noteL (s.data.toList.drop (p + k)) = none) (ho : (oneL (s.data.toList.drop (p + k))).e = 0) :
    p + k + (oneL (s.data.toList.drop (p + k))).len ≤ s.size ∧ 0 < (oneL (s.data.toList.drop (p + k))).len ∧
      TAt s R (p + k + (oneL (s.data.toList.drop (p + k))).len) (lnAt s p ln k + linesOf ((s.data.toList.drop (p + k)).take (oneL (s.data.toList.drop (p + k))).len))
        (acc ++ [⟨(oneL (s.data.toList.drop (p + k))).k, (oneL (s.data.toList.drop (p + k))).s, (oneL (s.data.toList.drop (p + k))).n, lnAt s p ln k⟩]) := by
  obtain ⟨h3, h4⟩ := one_len ho
  rw [List.length_drop, show s.data.toList.length = s.size from rfl] at h4
  obtain ⟨m, hm, hR⟩ := h.step hk
  rw [if_neg (drop_more he), hn] at hR
  simp only [] at hR
  rw [if_pos ho] at hR
  have hf := h.few
  have h1 := h.lnLow (k := k)
  have h2 := lines_take (s.data.toList.drop (p + k)) (oneL (s.data.toList.drop (p + k))).len
  exact ⟨by omega, by omega, by omega, by rw [List.length_append, List.length_singleton]; omega, by omega, m, by omega, hR⟩

set_option maxHeartbeats 4000000 in
set_option maxRecDepth 100000 in
theorem ref_tokens (s : ByteArray) (w : World) :
    Calls Tryz.prog 17 #[.string s] w (ToksSays (tokensL s.data.toList) w) := by
  have hl : s.data.toList.length = s.size := rfl
  by_cases hbig : 65535 < s.size
  · have hbig' : (65535 : Int) < s.size := by omega
    have HR := Lib.hid (show tokensL s.data.toList = ([], 3, 0) by rw [tokensL, hl, if_pos hbig])
    go_enter Tryz.func17, Tryz.ntmps17
    go_wp2_with fail
    refine bodyPost_ret (v := .tuple #[.slice none 0 0, .agg #[.int .i64 3, .int .i64 0]]) (by simp [results, Tryz.results17, go_sem]) rfl ?_
    exact toks_says HR.out rfl rfl (TokReads.nil _) ((Below.refl _ _).alloc (Nat.le_refl _) _)
  · have hbig' : ¬ (65535 : Int) < s.size := by omega
    have HR := Lib.hid (show TAt s (tokensL s.data.toList) 0 1 [] from ⟨Nat.zero_le _, Nat.le_refl _, Nat.le_refl _, s.size + 1, by omega, by rw [tokensL, hl, if_neg hbig, List.drop_zero]⟩)
    generalize tokensL s.data.toList = R at *
    go_enter Tryz.func17, Tryz.ntmps17
    have hw0 : ∃ w1, w1 = w.alloc (.cells #[.int .i64 0, .int .i64 0] 33) := ⟨_, rfl⟩
    go_wp2_with fail
    go_loopg [4, 5, 6] s.size (fun r out line i wr => ∃ (p ln : Nat) (acc : List Tok), r = s.size - p ∧ line = .int .i64 ln ∧ i = .int .i64 p ∧ TAt s R p ln acc ∧ wr.ownsRow (w.heap.size + 1) 25 4 out acc.length (toksCells acc) ∧ Below w.heap.size w wr ∧ wr.heap[w.heap.size]? = some (.cells #[.int .i64 0, .int .i64 0] 33 (0, 0)))
    case atStart =>
      refine ⟨0, 1, [], rfl, rfl, rfl, HR.out, World.ownsRow_nil _ _ _ _, (Below.refl _ _).alloc (Nat.le_refl _) _, heap_new _ _⟩
    case round =>
      obtain ⟨p, ln, acc, rfl, rfl, rfl, ht, ho, hb, hf⟩ := hrel
      have hps := ht.le
      have hfew := ht.few
      have hlow := ht.low
      have HT := Lib.hid ht
      have HB := Lib.hid hb
      have HO := Lib.hid ho
      have HF := Lib.hid hf
      clear ht hb ho hf hw0
      go_upto_block 2 with fail
      go_cut [7] (fun n wx => ∃ k : Nat, n = .int .i64 k ∧ k = blanks (s.data.toList.drop p) ∧ p + k ≤ s.size ∧ wx = wr)
      case first =>
        go_wp2_with fail
        go_loop [7] (fun n => ∃ m : Nat, n = .int .i64 m ∧ p + m ≤ s.size ∧ m + blanks (s.data.toList.drop (p + m)) = blanks (s.data.toList.drop p)) (fun n => s.size - (intOf n).toNat)
        case atStart => exact ⟨0, rfl, by omega, by rw [Nat.add_zero, Nat.zero_add]⟩
        case round =>
          obtain ⟨m, rfl, hm, hbl⟩ := hrel
          by_cases hlt4 : p + m < s.size
          · have hlt4' : (p : Int) + m < s.size := by omega
            have hxm := run_index_at (P := Tryz.prog) 9 s ((p : Int) + m) (p + m) Tryz.underlying9 hlt4 (by omega)
            have cs := fun w => ref_space (byteAt s (p + m)) w (byteAt_lt s _)
            have hyes := blanks_yes hlt4
            have hno := blanks_no hlt4
            generalize byteAt s (p + m) = u at *
            cases hsp : spaceB u
            · have HN := Lib.hid (show m = blanks (s.data.toList.drop p) by rw [← hbl, hno hsp, Nat.add_zero])
              rw [hsp] at cs
              clear hyes hno hsp hbl
              go_wp2_with fail
              refine (cs _).mono ?_
              rintro e w1 ⟨rfl, rfl⟩
              go_wp2_with fail
              go_meet
              exact ⟨m, rfl, HN.out, hm, rfl⟩
            · have HN := Lib.hid (show (m + 1) + blanks (s.data.toList.drop (p + (m + 1))) = blanks (s.data.toList.drop p) by rw [← hbl, hyes hsp, show p + m + 1 = p + (m + 1) from rfl]; omega)
              rw [hsp] at cs
              clear hyes hno hsp hbl
              go_wp2_with fail
              refine (cs _).mono ?_
              rintro e w1 ⟨rfl, rfl⟩
              go_wp2_with fail
              go_round
              case rel => exact ⟨m + 1, by go_num, by omega, HN.out⟩
              case measure => simp only [intOf]; omega
          · have hlt4' : ¬ (p : Int) + m < s.size := by omega
            have HN := Lib.hid (show m = blanks (s.data.toList.drop p) by rw [← hbl, blanks_end (by omega), Nat.add_zero])
            clear hbl
            go_wp2_with fail
            go_meet
            exact ⟨m, rfl, HN.out, hm, rfl⟩
      case rest =>
        obtain ⟨k, rfl, hk, hpk, rfl⟩ := hcut
        have hsl := run_slice_at (P := Tryz.prog) 9 s (p : Int) ((p : Int) + k) p (p + k) Tryz.underlying9 (by omega) hpk rfl (by omega)
        have hsz : (s.extract p (p + k)).size ≤ 1000000000 := by rw [take_extract]; show ((s.data.toList.drop p).take k).length ≤ _; rw [List.length_take]; omega
        have cl := fun w => ref_lines (s.extract p (p + k)) w hsz
        have hL := lines_take (s.data.toList.drop p) k
        rw [take_extract] at cl hsl
        have HLN := Lib.hid (show lnAt s p ln k = ln + linesOf ((s.data.toList.drop p).take k) from rfl)
        dsimp only at cl
        generalize linesOf ((s.data.toList.drop p).take k) = L at *
        generalize (⟨((s.data.toList.drop p).take k).toArray⟩ : ByteArray) = X at *
        have HK := Lib.hid hk
        have hbs := HB.out.size
        have hws := (Array.getElem?_eq_some_iff.1 HF.out).1
        clear hk hsz
        have hpi : (p : Int) ≤ 65535 := by omega
        have hki : (k : Int) ≤ 65535 := by omega
        have hli : (ln : Int) ≤ 65536 := by omega
        have hLi : (L : Int) ≤ 65536 := by omega
        by_cases hend : p + k = s.size
        · have hR := HT.out.fin HK.out hend
          rw [HLN.out] at hR
          have HR := Lib.hid hR
          have he : ((p : Int) + k == s.size) = true := by rw [beq_iff_eq]; omega
          clear hR
          go_wp2_with fail
          refine (cl _).mono ?_
          rintro e w1 ⟨rfl, rfl⟩
          go_wp2_with (at_builtin; refine wpList_append_tok rfl (.tmp 48) (.tmp 51) rfl (w.heap.size + 1) _ acc ⟨6, ⟨#[]⟩, 0, ln + L⟩ 6 ((ln : Int) + L) rfl (by show _ = ((ln + L : Nat) : Int); omega) rfl HO.out _ rfl rfl ?h1 ?h2 ?_)
          case h1 => omega
          case h2 => omega
          intro v1 w1 ho1 hg1
          have hb1 := below_appended HO.out hg1 (by omega)
          have hA : w1.heap[w.heap.size]? = some (.cells #[.int .i64 0, .int .i64 0] 33 (0, 0)) := (hb1.block w.heap.size (by omega)).trans HF.out
          have k0 := cell_of_heap4 hA 0 (.int .i64 0) rfl
          have k1 := cell_of_heap4 hA 1 (.int .i64 0) rfl
          have f0 := free_of_heap4 hA 0
          have f1 := free_of_heap4 hA 1
          have HB1 := Lib.hid (HB.out.trans (hb1.mono (by omega)))
          have HO1 := Lib.hid ho1
          clear hA hb1 ho1 hg1
          go_wp2_with fail
          refine bodyPost_ret (v := .tuple #[v1, .agg #[.int .i64 0, .int .i64 0]]) (by simp [results, Tryz.results17, go_sem, k0, k1]) rfl ?_
          exact toks_says HR.out rfl rfl (reads_two HO1.out (by simp) (Nat.lt_succ_self _)) (two_set HB1.out (Nat.le_refl _))
        · have he : ((p : Int) + k == s.size) = false := by rw [beq_eq_false_iff_ne]; omega
          have hlt : p + k < s.size := by omega
          have cn := fun w => ref_note s (p + k) w (by omega) (by omega)
          rw [show ((p + k : Nat) : Int) = (p : Int) + k from by omega] at cn
          cases hn : noteL (s.data.toList.drop (p + k)) with
          | some j =>
            unfold NoteSays at cn
            rw [noteN, noteB, hn] at cn
            dsimp only [Option.isSome] at cn
            by_cases hj : j = 0
            · subst hj
              have hR := HT.out.open HK.out hlt hn
              rw [HLN.out] at hR
              have HR := Lib.hid hR
              have k0 := cell_of_heap4 HF.out 0 (.int .i64 0) rfl
              have k1 := cell_of_heap4 HF.out 1 (.int .i64 0) rfl
              have f0 := free_of_heap4 HF.out 0
              have f1 := free_of_heap4 HF.out 1
              clear hR hn
              go_wp2_with fail
              refine (cl _).mono ?_
              rintro e w1 ⟨rfl, rfl⟩
              go_wp2_with fail
              refine (cn _).mono ?_
              rintro e w1 ⟨rfl, rfl⟩
              go_wp2_with fail
              refine bodyPost_ret (v := .tuple #[.slice none 0 0, .agg #[.int .i64 30, .int .i64 ((ln : Int) + L)]]) (by simp [results, Tryz.results17, go_sem, k0, k1]) rfl ?_
              exact toks_says HR.out rfl (by omega) (TokReads.nil _) (two_set HB.out (Nat.le_refl _))
            · obtain ⟨hle, hT⟩ := HT.out.note HK.out hlt hn (by omega)
              have hsl2 := run_slice_at (P := Tryz.prog) 9 s ((p : Int) + k) ((p : Int) + k + j) (p + k) (p + k + j) Tryz.underlying9 (by omega) hle (by omega) (by omega)
              have hsz2 : (s.extract (p + k) (p + k + j)).size ≤ 1000000000 := by rw [take_extract]; show ((s.data.toList.drop (p + k)).take j).length ≤ _; rw [List.length_take]; omega
              have cl2 := fun w => ref_lines (s.extract (p + k) (p + k + j)) w hsz2
              have hL2 := lines_take (s.data.toList.drop (p + k)) j
              rw [take_extract] at cl2 hsl2
              rw [HLN.out] at hT
              dsimp only at cl2
              generalize linesOf ((s.data.toList.drop (p + k)).take j) = L2 at *
              generalize (⟨((s.data.toList.drop (p + k)).take j).toArray⟩ : ByteArray) = X2 at *
              have HT2 := Lib.hid hT
              have hj0 : ((j : Int) == 0) = false := by rw [beq_eq_false_iff_ne]; omega
              have hji : (j : Int) ≤ 65535 := by omega
              have hLi2 : (L2 : Int) ≤ 65535 := by omega
              clear hT hsz2 hn
              go_wp2_with fail
              refine (cl _).mono ?_
              rintro e w1 ⟨rfl, rfl⟩
              go_wp2_with fail
              refine (cn _).mono ?_
              rintro e w1 ⟨rfl, rfl⟩
              go_wp2_with fail
              refine (cl2 _).mono ?_
              rintro e w1 ⟨rfl, rfl⟩
              go_wp2_with fail
              go_roundg (s.size - (p + k + j))
              case measure => omega
              case rel => exact ⟨p + k + j, ln + L + L2, acc, rfl, by go_num, by go_num, HT2.out, HO.out, HB.out, HF.out⟩
          | none =>
            unfold NoteSays at cn
            rw [noteN, noteB, hn] at cn
            dsimp only [Option.isSome] at cn
            have co := fun w => ref_one s (p + k) w (by omega) hlt
            rw [show ((p + k : Nat) : Int) = (p : Int) + k from by omega] at co
            by_cases he0 : (oneL (s.data.toList.drop (p + k))).e = 0
            · obtain ⟨hle, hpos, hT⟩ := HT.out.one HK.out hlt hn he0
              have hsl2 := run_slice_at (P := Tryz.prog) 9 s ((p : Int) + k) ((p : Int) + k + (oneL (s.data.toList.drop (p + k))).len) (p + k) (p + k + (oneL (s.data.toList.drop (p + k))).len) Tryz.underlying9 (by omega) hle (by omega) (by omega)
              have hsz2 : (s.extract (p + k) (p + k + (oneL (s.data.toList.drop (p + k))).len)).size ≤ 1000000000 := by rw [take_extract]; show ((s.data.toList.drop (p + k)).take (oneL (s.data.toList.drop (p + k))).len).length ≤ _; rw [List.length_take]; omega
              have cl2 := fun w => ref_lines (s.extract (p + k) (p + k + (oneL (s.data.toList.drop (p + k))).len)) w hsz2
              have hL2 := lines_take (s.data.toList.drop (p + k)) (oneL (s.data.toList.drop (p + k))).len
              rw [take_extract] at cl2 hsl2
              rw [HLN.out] at hT
              dsimp only at cl2
              generalize linesOf ((s.data.toList.drop (p + k)).take (oneL (s.data.toList.drop (p + k))).len) = L2 at *
              generalize (⟨((s.data.toList.drop (p + k)).take (oneL (s.data.toList.drop (p + k))).len).toArray⟩ : ByteArray) = X2 at *
              generalize oneL (s.data.toList.drop (p + k)) = O at *
              unfold OneSays at co
              obtain ⟨ok, os, on, olen, oe⟩ := O
              dsimp only at *
              subst he0
              have HT2 := Lib.hid hT
              have hji : (olen : Int) ≤ 65535 := by omega
              have hLi2 : (L2 : Int) ≤ 65535 := by omega
              clear hT hsz2 hn
              go_wp2_with fail
              refine (cl _).mono ?_
              rintro e w1 ⟨rfl, rfl⟩
              go_wp2_with fail
              refine (cn _).mono ?_
              rintro e w1 ⟨rfl, rfl⟩
              go_wp2_with fail
              refine (co _).mono ?_
              rintro e w1 ⟨rfl, hb1⟩
              have hws1 := hb1.size
              have hB2 := hb1.alloc hws1 (.cells #[.int .u8 ok, .string os, .int .i64 on, .int .i64 ((ln : Int) + L)] 25)
              have HO2 := Lib.hid (own_below HO.out hB2)
              have HF2 := Lib.hid ((hB2.block w.heap.size hws).trans HF.out)
              have HB2 := Lib.hid (HB.out.trans (hB2.mono hbs))
              clear hB2 hb1
              go_wp2_with (at_builtin; refine wpList_append_tok rfl (.tmp 79) (.tmp 81) rfl (w.heap.size + 1) _ acc ⟨ok, os, on, ln + L⟩ ok ((ln : Int) + L) rfl (by show _ = ((ln + L : Nat) : Int); omega) rfl HO2.out _ rfl (by simp) ?h1 ?h2 ?_)
              case h1 => omega
              case h2 => simp; omega
              intro v1 w2 ho1 hg1
              have hb3 := below_appended HO2.out hg1 (by simp; omega)
              have HF3 := Lib.hid ((hb3.block w.heap.size (by omega)).trans HF2.out)
              have HB3 := Lib.hid (HB2.out.trans (hb3.mono (by omega)))
              have HO3 := Lib.hid (show w2.ownsRow (w.heap.size + 1) 25 4 v1 (acc ++ [⟨ok, os, on, ln + L⟩] : List Tok).length (toksCells (acc ++ [⟨ok, os, on, ln + L⟩])) by rw [List.length_append, List.length_singleton]; exact ho1)
              clear hb3 hg1 ho1
              go_wp2_with fail
              refine (cl2 _).mono ?_
              rintro e w3 ⟨rfl, rfl⟩
              go_wp2_with fail
              go_roundg (s.size - (p + k + olen))
              case measure => omega
              case rel => exact ⟨p + k + olen, ln + L + L2, acc ++ [⟨ok, os, on, ln + L⟩], rfl, by go_num, by go_num, HT2.out, HO3.out, HB3.out, HF3.out⟩
            · have hR := HT.out.bad HK.out hlt hn he0
              rw [HLN.out] at hR
              generalize oneL (s.data.toList.drop (p + k)) = O at *
              unfold OneSays at co
              have HR := Lib.hid hR
              have he0' : ((O.e : Int) == 0) = false := by rw [beq_eq_false_iff_ne]; omega
              clear hR hn
              go_wp2_with fail
              refine (cl _).mono ?_
              rintro e w1 ⟨rfl, rfl⟩
              go_wp2_with fail
              refine (cn _).mono ?_
              rintro e w1 ⟨rfl, rfl⟩
              go_wp2_with fail
              refine (co _).mono ?_
              rintro e w1 ⟨rfl, hb1⟩
              have hws1 := hb1.size
              have hA : (w1.alloc (.cells #[.int .u8 O.k, .string O.s, .int .i64 O.n, .int .i64 0] 25)).heap[w.heap.size]? = some (.cells #[.int .i64 0, .int .i64 0] 33 (0, 0)) := (heap_old _ (by omega)).trans ((hb1.block w.heap.size hws).trans HF.out)
              have k0 := cell_of_heap4 hA 0 (.int .i64 0) rfl
              have k1 := cell_of_heap4 hA 1 (.int .i64 0) rfl
              have f0 := free_of_heap4 hA 0
              have f1 := free_of_heap4 hA 1
              have HB1 := Lib.hid ((HB.out.trans (hb1.mono hbs)).alloc (by omega) (.cells #[.int .u8 O.k, .string O.s, .int .i64 O.n, .int .i64 0] 25))
              clear hA hb1
              go_wp2_with fail
              refine bodyPost_ret (v := .tuple #[.slice none 0 0, .agg #[.int .i64 O.e, .int .i64 ((ln : Int) + L)]]) (by simp [results, Tryz.results17, go_sem, k0, k1]) rfl ?_
              exact toks_says HR.out rfl (by omega) (TokReads.nil _) (two_set HB1.out (Nat.le_refl _))

end Go.Proofs.YtajeghkmgcpgiaaGreatDoor.Lex
