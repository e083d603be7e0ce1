/-
  Lists as they lie in memory, in blocks of a kind; what a call may turn. Nothing of one layer, no types' numbers.
-/
import Derived.Test.YtlpbciclkagnbaaRows
import Derived.Test.YtlpbciclkagnbaaRunesKit
import Derived.Below
import Derived.Lib.Hide
import Derived.WalkKit
import Derived.Deep.AppendSrc
import Derived.Deep.Upon
import Derived.WideShapes
import Derived.Maps.AppendAt
import Derived.WalkSpells
import Derived.WalkLawsBesides
namespace Go.Proofs.Ytlpbciclkagnbaa.Pl
open Go Go.RowKit

def In64 (n : Int) : Prop := -9223372036854775808 ≤ n ∧ n ≤ 9223372036854775807
def Len (n : Nat) : Prop := n ≤ 9223372036854775807
/-- A list whose items take one cell each, in a block of the kind P. -/
def LstP (P : Nat → Prop) (w : World) (v : Value) (vs : List Value) : Prop :=
  ∃ ao cap, v = .slice ao vs.length cap ∧ (vs.length ≤ cap ∧ Len vs.length) ∧ (vs ≠ [] → ∃ g off, P g ∧ g < w.heap.size ∧ ao = some ⟨g, off, none⟩ ∧ ∀ (j : Nat) (h : j < vs.length), w.cell? ⟨g, off + j, none⟩ = some vs[j])
def ints (l : List Int) : List Value := l.map (.int .i64)
theorem ints_len (l : List Int) : (ints l).length = l.length := List.length_map _
theorem ints_get (l : List Int) (j : Nat) (h : j < l.length) : (ints l)[j]'(by rw [ints_len]; exact h) = .int .i64 l[j] := List.getElem_map ..

/-- Blocks of F alone may have turned; new ones may have come. -/
structure Turns (F : List Nat) (w w' : World) : Prop where
  os : w'.os = w.os
  tape : w'.tape = w.tape
  output : w'.output = w.output
  size : w.heap.size ≤ w'.heap.size
  block : ∀ k, k < w.heap.size → k ∉ F → w'.heap[k]? = w.heap[k]?

section
variable {P P' : Nat → Prop} {F G : List Nat} {w w' w1 : World} {v : Value} {vs : List Value}
theorem Turns.refl (F : List Nat) (w : World) : Turns F w w := ⟨rfl, rfl, rfl, Nat.le_refl _, fun _ _ _ => rfl⟩
theorem Turns.of_below (h : Below w.heap.size w w') : Turns F w w' := ⟨h.os, h.tape, h.output, h.size, fun k hk _ => h.block k hk⟩
theorem Turns.to_below (h : Turns F w w') {B : Nat} (hB : B ≤ w.heap.size) (hF : ∀ k ∈ F, B ≤ k) : Below B w w' :=
  ⟨h.os, h.tape, h.output, h.size, fun k hk => h.block k (Nat.lt_of_lt_of_le hk hB) (fun hm => absurd (hF k hm) (Nat.not_le.2 hk))⟩
/-- A step behind another, whose blocks are old ones or new. -/
theorem Turns.trans (h : Turns F w w1) (k : Turns G w1 w') (hG : ∀ x ∈ G, x ∈ F ∨ w.heap.size ≤ x) : Turns F w w' :=
  ⟨k.os.trans h.os, k.tape.trans h.tape, k.output.trans h.output, Nat.le_trans h.size k.size, fun i hi hn =>
    (k.block i (Nat.lt_of_lt_of_le hi h.size) (fun hm => (hG i hm).elim hn (fun h2 => absurd h2 (Nat.not_le.2 hi)))).trans (h.block i hi hn)⟩
theorem Turns.mono (h : Turns F w w') (hG : ∀ x ∈ F, x ∈ G) : Turns G w w' := ⟨h.os, h.tape, h.output, h.size, fun k hk hn => h.block k hk (fun hm => hn (hG k hm))⟩

theorem LstP.keep (h : LstP P w v vs) (hb : ∀ k, P k → k < w.heap.size → w'.heap[k]? = w.heap[k]?) (hs : w.heap.size ≤ w'.heap.size) : LstP P w' v vs := by
  obtain ⟨ao, cap, rfl, hl, hc⟩ := h
  refine ⟨ao, cap, rfl, hl, fun hne => ?_⟩
  obtain ⟨g, off, hg, hg2, rfl, hx⟩ := hc hne
  exact ⟨g, off, hg, Nat.lt_of_lt_of_le hg2 hs, rfl, fun j h => (World.cell?_of_block (w := w) (w' := w') (a := ⟨g, off + j, none⟩) (hb g hg hg2)).trans (hx j h)⟩
theorem LstP.mono (h : LstP P w v vs) (hP : ∀ k, k < w.heap.size → P k → P' k) : LstP P' w v vs := by
  obtain ⟨ao, cap, rfl, hl, hc⟩ := h
  refine ⟨ao, cap, rfl, hl, fun hne => ?_⟩
  obtain ⟨g, off, hg, hg2, r⟩ := hc hne
  exact ⟨g, off, hP g hg2 hg, hg2, r⟩
theorem LstP.below (h : LstP P w v vs) (hb : Below w.heap.size w w') : LstP P w' v vs := h.keep (fun k _ hk => hb.block k hk) hb.size
/-- What is beside F stands where F alone turns, and beside what F becomes. -/
theorem LstP.turns (h : LstP (· ∉ F) w v vs) (hb : Turns F w w') (hG : ∀ x ∈ G, x ∈ F ∨ w.heap.size ≤ x) : LstP (· ∉ G) w' v vs :=
  (h.mono (P' := fun k => k < w.heap.size ∧ k ∉ F) (fun _ h1 h2 => ⟨h1, h2⟩)).keep (fun k hP hk => hb.block k hk hP.2) hb.size |>.mono (fun k _ hP hm => (hG k hm).elim hP.2 (fun h2 => absurd h2 (Nat.not_le.2 hP.1)))
theorem LstP.slice (h : LstP P w v vs) : ∃ ao cap, v = .slice ao vs.length cap ∧ vs.length ≤ cap ∧ Len vs.length := by
  obtain ⟨ao, cap, hv, hl, _⟩ := h
  exact ⟨ao, cap, hv, hl⟩
theorem LstP.item (h : LstP P w v vs) {i : Nat} (hi : i < vs.length) : ∃ g off cap, P g ∧ g < w.heap.size ∧ v = .slice (some ⟨g, off, none⟩) vs.length cap ∧ (vs.length ≤ cap ∧ Len vs.length) ∧ w.cell? ⟨g, off + i, none⟩ = some vs[i] := by
  obtain ⟨ao, cap, rfl, hl, hc⟩ := h
  obtain ⟨g, off, hg, hg2, rfl, hx⟩ := hc (by rintro rfl; exact absurd hi (Nat.not_lt_zero _))
  exact ⟨g, off, cap, hg, hg2, rfl, hl, hx i hi⟩
theorem LstP.nil (P : Nat → Prop) (w : World) : LstP P w (.slice none 0 0) [] := ⟨none, 0, rfl, ⟨Nat.le_refl _, Nat.zero_le _⟩, fun h => absurd rfl h⟩
theorem LstP.own {b : Nat} {e : TypeId} {n : Nat} (h : w.ownsRow b e 1 v n vs) (hl : Len n) : LstP (b ≤ ·) w v vs := by
  have hn : vs.length = n := by have := h.1; simpa using this
  subst hn
  rcases h.2 with ⟨rfl, h0⟩ | ⟨g, cap, cur, rfl, hb, hg, hcap, _⟩
  · exact ⟨none, 0, by rw [h0], ⟨by omega, hl⟩, fun hl => absurd (List.eq_nil_of_length_eq_zero h0) hl⟩
  · refine ⟨_, cap, rfl, ⟨hcap, hl⟩, fun _ => ⟨g, 0, hb, (Array.getElem?_eq_some_iff.1 hg).1, rfl, fun i hi => ?_⟩⟩
    rw [Nat.zero_add, h.cellAt i (by omega)]
    simp [hi]
theorem cell_of {b : Nat} {cs : Array Value} {T : TypeId} {fr : Nat × Nat} (h : w.heap[b]? = some (.cells cs T fr)) (j : Nat) (v : Value) (hv : cs[j]? = some v) : w.cell? ⟨b, j, none⟩ = some v := by
  unfold World.cell?
  rw [h]
  exact hv
theorem free_of {b : Nat} {cs : Array Value} {T : TypeId} (h : w.heap[b]? = some (.cells cs T (0, 0))) (j : Nat) : w.frozen? ⟨b, j, none⟩ = false := Lib.frozen_of_heap h j
theorem new_block (w : World) (o : Obj) : (w.alloc o).heap[w.heap.size]? = some o := by
  show (w.heap.push o)[w.heap.size]? = some o
  simp
theorem lt_of_get {o : Obj} {b : Nat} (h : w.heap[b]? = some o) : b < w.heap.size := by
  rcases Nat.lt_or_ge b w.heap.size with h' | h'
  · exact h'
  · rw [Array.getElem?_eq_none h'] at h; cases h
/-- The first k items of a list; what is behind them. -/
theorem LstP.to {P : Program} {K : Nat → Prop} {T e : TypeId} {w : World} {ao : Option Addr} {n cap : Nat} {vs : List Value} (h : LstP K w (.slice ao n cap) vs) (k : Nat) (hk : k ≤ vs.length)
    (ht : P.underlying T = some (.slice e)) (he : P.elem T = e) (hs : ∀ w, (Go.sizeOf e).run P w = .ok 1 w) :
    ∃ ao' c', (∀ w', (Instr.slice T (.slice ao n cap) none (some (.int .i64 (k : Int))) none).run P w' = .ok (.slice ao' k c') w') ∧ LstP K w (.slice ao' k c') (vs.take k) := by
  obtain ⟨ao0, cap0, e0, ⟨hc, hl⟩, hx⟩ := h
  cases e0
  have ht' : P.underlying T = some (.slice (P.elem T)) := by rw [he]; exact ht
  have hlen : (vs.take k).length = k := by rw [List.length_take]; omega
  refine ⟨if cap = 0 then ao else ao.map (·.add (0 * 1)), cap - 0, fun w' => ?_, ?_⟩
  · have hrun := run_slice_h (P := P) w' T ao vs.length cap ht' .i64 (k : Int) (by omega) (by omega)
    rw [he, hs] at hrun
    rw [hrun]
    simp [Result.andThen, sliced]
  · refine ⟨_, _, by rw [hlen], ⟨by rw [hlen]; omega, by unfold Len at *; rw [hlen]; omega⟩, fun hne => ?_⟩
    have hpos : 0 < k := by
      rcases Nat.eq_zero_or_pos k with h | h
      · exact absurd (by rw [h, List.take_zero]) hne
      · exact h
    obtain ⟨g, off, hP, hg, rfl, hcell⟩ := hx (fun h => by rw [h, List.length_nil] at hk; omega)
    refine ⟨g, off, hP, hg, ?_, fun j hj => ?_⟩
    · rw [if_neg (by omega)]
      simp [Addr.add]
    · rw [hlen] at hj
      rw [hcell j (by omega), List.getElem_take]
theorem LstP.from' {P : Program} {K : Nat → Prop} {T e : TypeId} {w : World} {ao : Option Addr} {n cap : Nat} {vs : List Value} (h : LstP K w (.slice ao n cap) vs) (k : Nat) (hk : k ≤ vs.length)
    (ht : P.underlying T = some (.slice e)) (he : P.elem T = e) (hs : ∀ w, (Go.sizeOf e).run P w = .ok 1 w) :
    ∃ ao' n' c', (∀ w', (Instr.slice T (.slice ao n cap) (some (.int .i64 (k : Int))) none none).run P w' = .ok (.slice ao' n' c') w') ∧ LstP K w (.slice ao' n' c') (vs.drop k) := by
  obtain ⟨ao0, cap0, e0, ⟨hc, hl⟩, hx⟩ := h
  cases e0
  have ht' : P.underlying T = some (.slice (P.elem T)) := by rw [he]; exact ht
  have hlen : (vs.drop k).length = vs.length - k := by rw [List.length_drop]
  refine ⟨if cap = k then ao else ao.map (·.add (k * 1)), vs.length - k, cap - k, fun w' => ?_, ?_⟩
  · have hrun := run_slice_l (P := P) w' T ao vs.length cap ht' .i64 (k : Int) (by omega) (by omega)
    rw [he, hs] at hrun
    rw [hrun]
    simp [Result.andThen, sliced]
  · refine ⟨_, _, by rw [hlen], ⟨by rw [hlen]; omega, by unfold Len at *; rw [hlen]; omega⟩, fun hne => ?_⟩
    have hpos : k < vs.length := by
      rcases Nat.lt_or_ge k vs.length with h | h
      · exact h
      · exact absurd (List.drop_eq_nil_of_le h) hne
    obtain ⟨g, off, hP, hg, rfl, hcell⟩ := hx (fun h => by rw [h, List.length_nil] at hpos; omega)
    refine ⟨g, off + k, hP, hg, ?_, fun j hj => ?_⟩
    · rw [if_neg (by omega)]
      simp [Addr.add]
    · rw [hlen] at hj
      rw [Nat.add_assoc, hcell (k + j) (by omega), List.getElem_drop]
/-- 'append(l, src...)': items of one cell behind what is owned. -/
theorem wpList_append_part {P : Program} {K : Nat → Prop} {w : World} {ops : Array Oper} {rest : List Oper} {o : Oper} {a : Act} {Q : Exit → Act → World → Prop} (hgd : o.guard = none) (s x : Operand) (t : TypeId)
    (ho : o.op = .call { callee := .builtin .append, args := #[s, x], argTypes := #[t, t] })
    (base : Nat) (e : TypeId) (z : Value) (bytes : Nat) (ht : P.underlying t = some (.slice e)) (hi : (P.info? e).map (fun i => (i.zero, i.size, i.bytes)) = some (some z, 1, bytes)) (hzs : z.cells.size = 1)
    (v : Value) (n : Nat) (xs : List Value) (hs : a.eval s = v) (hown : w.ownsRow base e 1 v n xs)
    (y : Value) (ys : List Value) (hx : a.eval x = y) (hy : LstP K w y ys) (h1 : ∀ u ∈ ys, u.oneCell' = true)
    (h63 : n + ys.length ≤ maxLen) (hbytes : (n + ys.length) * bytes ≤ 140737488355328) (hbase : base ≤ w.heap.size)
    (h : ∀ v' w', w'.ownsRow base e 1 v' (n + ys.length) (xs ++ ys) → w.grownBy w' v.ownBlock → (v'.ownBlock = v.ownBlock ∨ v'.ownBlock = some w.heap.size) → wpList P ops Q rest (a.put o.dst v') w') : wpList P ops Q (o :: rest) a w := by
  obtain ⟨i, hi, hz, hsize, hby⟩ := info_parts hi
  obtain ⟨ao, cap, rfl, ⟨hc, hl⟩, hcell⟩ := hy
  by_cases hne : ys = []
  · subst hne
    have hsrc : Src P i.size t (.slice ao 0 cap) 0 [] w := by
      cases ao with
      | none => exact Src.ofNil w ht cap
      | some ad => exact Src.ofSlice w ht ad 0 cap [] (by simp) (fun j u hj => by simp at hj) (fun u hu => by cases hu)
    obtain ⟨aa, cs, rfl, hle⟩ : ∃ aa cs, v = .slice aa n cs ∧ n ≤ cs := by
      rcases hown.2 with ⟨rfl, rfl⟩ | ⟨g, c, cur, rfl, _, _, hle, _⟩
      · exact ⟨_, _, rfl, Nat.le_refl _⟩
      · exact ⟨_, _, rfl, hle⟩
    have hrun := run_append_nothing w t t o.type e i ht hi aa n cs hle _ hsrc
    refine wpList_plain hgd fun K hK' => ?_
    unfold Oper.wp
    simp [execOp, ho, resolve, invoke, builtin, hs, hx, hrun, Result.andThen]
    refine hK' _ _ (h _ _ (by simpa using hown) ⟨rfl, rfl, rfl, Nat.le_refl _, fun _ _ _ => rfl⟩ (.inl rfl))
  · obtain ⟨g, off, _, _, rfl, hx2⟩ := hcell hne
    refine wpList_append_own_at (w := w) hgd s x t ho base e i z 1 bytes ht hi hz hsize hby hzs (by decide) v n xs hs hown ⟨g, off, none⟩ ys.length cap ys hx (by simp) (fun j u hj => ?_) h1 h63 hbytes hbase (fun v' w' h2 h3 _ h5 => h v' w' h2 h3 h5)
    rw [Go.WideShapes.add_plain]
    obtain ⟨hlt, he⟩ := List.getElem?_eq_some_iff.1 hj
    rw [hx2 j hlt, he]
/-- 'append(l, x)': one item, which lies in a block of its own. -/
theorem wpList_append_at {P : Program} {w : World} {ops : Array Oper} {rest : List Oper} {o : Oper} {a : Act} {Q : Exit → Act → World → Prop} (hgd : o.guard = none) (s x : Operand) (t : TypeId)
    (ho : o.op = .call { callee := .builtin .append, args := #[s, x], argTypes := #[t, t] })
    (base : Nat) (e : TypeId) (z : Value) (bytes : Nat) (ht : P.underlying t = some (.slice e)) (hi : (P.info? e).map (fun i => (i.zero, i.size, i.bytes)) = some (some z, 1, bytes)) (hzs : z.cells.size = 1)
    (v : Value) (n : Nat) (xs : List Value) (hs : a.eval s = v) (hown : w.ownsRow base e 1 v n xs)
    (y : Value) (hx : a.eval x = .slice (some ⟨w.heap.size, 0, none⟩) 1 1) (h1 : y.oneCell' = true)
    (h63 : n + 1 ≤ maxLen) (hbytes : (n + 1) * bytes ≤ 140737488355328) (hbase : base ≤ w.heap.size)
    (h : ∀ v' w', w'.ownsRow base e 1 v' (n + 1) (xs ++ [y]) → (w.alloc (.cells #[y] e)).grownBy w' v.ownBlock → (v'.ownBlock = v.ownBlock ∨ v'.ownBlock = some (w.heap.size + 1)) → wpList P ops Q rest (a.put o.dst v') w') : wpList P ops Q (o :: rest) a (w.alloc (.cells #[y] e)) := by
  obtain ⟨i, hi, hz, hsize, hby⟩ := info_parts hi
  refine wpList_append_own_at (w := w.alloc (.cells #[y] e)) hgd s x t ho base e i z 1 bytes ht hi hz hsize hby hzs (by decide) v n xs hs (hown.alloc _) ⟨w.heap.size, 0, none⟩ 1 1 [y] hx rfl (fun j u hj => ?_) (fun u hu => ?_) h63 hbytes (by simp; omega) (fun v' w' h1 h2 _ h5 => h v' w' h1 h2 (by simpa using h5))
  · match j, hj with
    | 0, hj => simp at hj; subst hj; simp [Addr.add]
  · simp at hu; subst hu; exact h1
theorem own_slice {w : World} {b : Nat} {e : TypeId} {size : Nat} {v : Value} {n : Nat} {xs : List Value} (h : w.ownsRow b e size v n xs) : ∃ ao c, v = .slice ao n c := by
  rcases h.2 with ⟨rfl, rfl⟩ | ⟨g, cap, cur, rfl, _⟩
  · exact ⟨_, _, rfl⟩
  · exact ⟨_, _, rfl⟩
theorem own_some {w : World} {b : Nat} {e : TypeId} {size : Nat} {v : Value} {n : Nat} {xs : List Value} (h : w.ownsRow b e size v n xs) : ∃ ao m c, v = .slice ao m c := by
  obtain ⟨ao, c, h⟩ := own_slice h
  exact ⟨ao, n, c, h⟩
theorem own_lt {w : World} {b e n g : Nat} {v : Value} {xs : List Value} (h : w.ownsRow b e 1 v n xs) (hg : v.ownBlock = some g) : b ≤ g ∧ g < w.heap.size := by
  rcases h.2 with ⟨rfl, _⟩ | ⟨g2, cap, cur, rfl, hb, hh, _⟩
  · cases hg
  · injection hg with hg
    dsimp only at hg
    subst hg
    exact ⟨hb, lt_of_get hh⟩
end
theorem mixed : Try.prog.follows .mixedOrders = true := by kernel_rfl
theorem ret_bool {x y : Bool} (h : x = y) : Ending.returned (Value.bool x) = .returned (.bool y) := by rw [h]
theorem ret_int {x y : Int} (h : x = y) : Ending.returned (Value.int .i64 x) = .returned (.int .i64 y) := by rw [h]
end Go.Proofs.Ytlpbciclkagnbaa.Pl
