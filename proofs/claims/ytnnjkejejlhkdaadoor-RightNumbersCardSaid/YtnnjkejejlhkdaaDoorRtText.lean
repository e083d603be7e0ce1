/-
  Layer 9: the chapter's first program, as it is made; that the examples come out as written.
-/
import Derived.Test.YtnnjkejejlhkdaaDoorRtRight
namespace Go.Proofs.YtnnjkejejlhkdaaDoor.Rt
open Go Go.RowKit

section
variable {w : World} {g : Nat} {T : TypeId}
theorem lst_of {vs : List Value} {c : Nat} (h : w.heap[g]? = some (.cells vs.toArray T (0, 0))) (hl : Len vs.length) : LstB w.heap.size w (.slice (some ⟨g, 0, none⟩) vs.length c) vs :=
  ⟨_, _, rfl, hl, fun _ => ⟨g, 0, lt_of_get h, rfl, fun j hj => cell_of h _ _ (by rw [Nat.zero_add, List.getElem?_toArray, List.getElem?_eq_getElem hj])⟩⟩
theorem lst_nil {B : Nat} : LstB B w (.slice none 0 0) [] := ⟨_, _, rfl, Nat.zero_le _, fun h => absurd rfl h⟩
theorem rows_nil {α : Type} {C B : Nat} {V : Array Value → α → Prop} : RowsB C V B w (.slice none 0 0) [] := ⟨_, _, rfl, Nat.zero_le _, fun h => absurd rfl h⟩
theorem flat_at {C : Nat} : ∀ (css : List (Array Value)) (_ : ∀ cs ∈ css, cs.size = C) (i : Nat) (hi : i < css.length) (j : Nat) (_ : j < C), (css.flatMap (·.toList))[i * C + j]? = css[i][j]?
  | cs :: r, hC, 0, _, j, hj => by
    rw [List.flatMap_cons, Nat.zero_mul, Nat.zero_add, List.getElem?_append_left (by rw [Array.length_toList, hC cs (List.mem_cons_self ..)]; exact hj), Array.getElem?_toList]
    rfl
  | cs :: r, hC, i + 1, hi, j, hj => by
    have h0 := hC cs (List.mem_cons_self ..)
    rw [List.flatMap_cons, List.getElem?_append_right (by rw [Array.length_toList, h0, Nat.succ_mul]; omega), Array.length_toList, h0, show (i + 1) * C + j - C = i * C + j from by rw [Nat.succ_mul]; omega]
    exact flat_at r (fun c hc => hC c (List.mem_cons_of_mem _ hc)) i (by simpa using hi) j hj
theorem rows_of {α : Type} {C : Nat} {V : Array Value → α → Prop} {l : List α} {c : Nat} (css : List (Array Value)) (h : w.heap[g]? = some (.cells (css.flatMap (·.toList)).toArray T (0, 0))) (hC : ∀ cs ∈ css, cs.size = C) (hl : css.length = l.length) (hlen : Len l.length) (hV : ∀ i (h1 : i < css.length) (h2 : i < l.length), V css[i] l[i]) : RowsB C V w.heap.size w (.slice (some ⟨g, 0, none⟩) l.length c) l :=
  ⟨_, _, rfl, hlen, fun _ => ⟨g, 0, lt_of_get h, rfl, fun i hi => ⟨css[i]'(by omega), hV i (by omega) hi, fun j hj => by
    have hs : j < (css[i]'(by omega)).size := by rw [hC _ (List.getElem_mem _)]; exact hj
    refine ⟨hs, cell_of h _ _ ?_⟩
    rw [Nat.zero_add, List.getElem?_toArray, flat_at css hC i (by omega) j hj, Array.getElem?_eq_getElem hs]⟩⟩⟩
end

def textP (next slots : Int) (exl : List Int) (n1 : Int) : Pg :=
  ⟨[⟨#[121]⟩], [⟨0, true, slots, [false], [], [⟨1, [0], [], [0], next, 0, 1⟩, ⟨2, [], [1], exl, -1, 0, 1⟩], [⟨4, 1, []⟩, ⟨8, n1, []⟩, ⟨8, 0, []⟩, ⟨10, 0, []⟩, ⟨14, 1, [2, 3]⟩], 0⟩]⟩
def sl (g n : Nat) : Value := .slice (some ⟨g, 0, none⟩) n n
def nilS : Value := .slice none 0 0
def textV (q : Nat) : Value := .agg #[sl (q + 1) 1, sl (q + 10) 1]
def stmtsC (q : Nat) (next : Int) (ex1 : Value) : Array Value := #[.int .u8 1, sl (q + 3) 1, nilS, sl (q + 4) 1, .int .i64 next, .int .i64 0, .int .i64 1, .int .u8 2, nilS, sl (q + 5) 1, ex1, .int .i64 (-1), .int .i64 0, .int .i64 1]
def exprsC (q : Nat) (n1 : Int) : Array Value := #[.int .u8 4, .int .i64 1, nilS, .int .u8 8, .int .i64 n1, nilS, .int .u8 8, .int .i64 0, nilS, .int .u8 10, .int .i64 0, nilS, .int .u8 14, .int .i64 1, sl (q + 8) 2]
def protoC (q : Nat) (slots : Int) : Array Value := #[.int .i64 0, .bool true, .int .i64 slots, sl (q + 2) 1, nilS, sl (q + 7) 2, sl (q + 9) 5, .int .i64 0]
/-- A text's program, at the blocks behind q. -/
structure TextAt (q : Nat) (next slots : Int) (ex1 : Value) (n1 : Int) (w : World) : Prop where
  b1 : w.heap[q + 1]? = some (.cells #[.string ⟨#[121]⟩] 9 (0, 0))
  b2 : w.heap[q + 2]? = some (.cells #[.bool false] 4 (0, 0))
  b3 : w.heap[q + 3]? = some (.cells #[.int .i64 0] 3 (0, 0))
  b4 : w.heap[q + 4]? = some (.cells #[.int .i64 0] 3 (0, 0))
  b5 : w.heap[q + 5]? = some (.cells #[.int .i64 1] 3 (0, 0))
  b6 : w.heap[q + 6]? = some (.cells #[.int .i64 4] 3 (0, 0))
  b7 : w.heap[q + 7]? = some (.cells (stmtsC q next ex1) 44 (0, 0))
  b8 : w.heap[q + 8]? = some (.cells #[.int .i64 2, .int .i64 3] 3 (0, 0))
  b9 : w.heap[q + 9]? = some (.cells (exprsC q n1) 41 (0, 0))
  b10 : w.heap[q + 10]? = some (.cells (protoC q slots) 35 (0, 0))
/-- All of its blocks are as they were. -/
theorem TextAt.same {q : Nat} {next slots n1 : Int} {ex1 : Value} {w w' : World} (h : TextAt q next slots ex1 n1 w) (hb : ∀ b, q + 1 ≤ b → b ≤ q + 10 → w'.heap[b]? = w.heap[b]?) : TextAt q next slots ex1 n1 w' :=
  ⟨(hb _ (by omega) (by omega)).trans h.b1, (hb _ (by omega) (by omega)).trans h.b2, (hb _ (by omega) (by omega)).trans h.b3, (hb _ (by omega) (by omega)).trans h.b4, (hb _ (by omega) (by omega)).trans h.b5, (hb _ (by omega) (by omega)).trans h.b6, (hb _ (by omega) (by omega)).trans h.b7, (hb _ (by omega) (by omega)).trans h.b8, (hb _ (by omega) (by omega)).trans h.b9, (hb _ (by omega) (by omega)).trans h.b10⟩
theorem TextAt.below {q : Nat} {next slots n1 : Int} {ex1 : Value} {w w' : World} (h : TextAt q next slots ex1 n1 w) (hb : Below w.heap.size w w') : TextAt q next slots ex1 n1 w' :=
  h.same fun b _ h2 => hb.block b (by have := lt_of_get h.b10; omega)
theorem TextAt.pg {q : Nat} {next slots n1 : Int} {ex1 : Value} {exl : List Int} {w : World} (h : TextAt q next slots ex1 n1 w) (he : LstB w.heap.size w ex1 (ints exl)) (hn : In64 next) (hs : In64 slots) (h1 : In64 n1) (hx : ∀ c ∈ exl, In64 c) : PgV w.heap.size w (textV q) (textP next slots exl n1) := by
  have d0 : In64 0 := ⟨by decide, by decide⟩
  have d1 : In64 1 := ⟨by decide, by decide⟩
  have dm : In64 (-1) := ⟨by decide, by decide⟩
  have dn : ∀ c ∈ ([] : List Int), In64 c := fun c h => by cases h
  have ds : ∀ x, In64 x → ∀ c ∈ [x], In64 c := fun x hx c h => by rw [List.mem_singleton.1 h]; exact hx
  refine ⟨_, _, rfl, lst_of (vs := [.string ⟨#[121]⟩]) h.b1 (by unfold Len; decide), ?_⟩
  refine rows_of (l := (textP next slots exl n1).protos) [protoC q slots] (by rw [h.b10]; rfl) (fun cs hc => by rw [List.mem_singleton.1 hc]; rfl) rfl (show 1 ≤ 9223372036854775807 by decide) (fun i hi _ => ?_)
  obtain rfl : i = 0 := by simpa using hi
  refine ⟨_, _, _, _, rfl, lst_of (vs := [.bool false]) h.b2 (by unfold Len; decide), rows_nil, ?_, ?_, d0, hs, d0⟩
  · refine rows_of (l := ([⟨1, [0], [], [0], next, 0, 1⟩, ⟨2, [], [1], exl, -1, 0, 1⟩] : List St)) [#[.int .u8 1, sl (q + 3) 1, nilS, sl (q + 4) 1, .int .i64 next, .int .i64 0, .int .i64 1], #[.int .u8 2, nilS, sl (q + 5) 1, ex1, .int .i64 (-1), .int .i64 0, .int .i64 1]] (by rw [h.b7]; rfl) (fun cs hc => by
      simp only [List.mem_cons, List.not_mem_nil, or_false] at hc
      rcases hc with rfl | rfl <;> rfl) rfl (show 2 ≤ 9223372036854775807 by decide) (fun i hi _ => ?_)
    match i, hi with
    | 0, _ => exact ⟨_, _, _, rfl, lst_of (vs := [.int .i64 0]) h.b3 (by unfold Len; decide), lst_nil, lst_of (vs := [.int .i64 0]) h.b4 (by unfold Len; decide), (show 1 < 256 by decide), ds 0 d0, dn, ds 0 d0, hn, d0, d1⟩
    | 1, _ => exact ⟨_, _, _, rfl, lst_nil, lst_of (vs := [.int .i64 1]) h.b5 (by unfold Len; decide), he, (show 2 < 256 by decide), dn, ds 1 d1, hx, dm, d0, d1⟩
  · refine rows_of (l := ([⟨4, 1, []⟩, ⟨8, n1, []⟩, ⟨8, 0, []⟩, ⟨10, 0, []⟩, ⟨14, 1, [2, 3]⟩] : List Ex)) [#[.int .u8 4, .int .i64 1, nilS], #[.int .u8 8, .int .i64 n1, nilS], #[.int .u8 8, .int .i64 0, nilS], #[.int .u8 10, .int .i64 0, nilS], #[.int .u8 14, .int .i64 1, sl (q + 8) 2]] (by rw [h.b9]; rfl) (fun cs hc => by
      simp only [List.mem_cons, List.not_mem_nil, or_false] at hc
      rcases hc with rfl | rfl | rfl | rfl | rfl <;> rfl) rfl (show 5 ≤ 9223372036854775807 by decide) (fun i hi _ => ?_)
    match i, hi with
    | 0, _ => exact ⟨_, rfl, lst_nil, (show 4 < 256 by decide), d1, dn⟩
    | 1, _ => exact ⟨_, rfl, lst_nil, (show 8 < 256 by decide), h1, dn⟩
    | 2, _ => exact ⟨_, rfl, lst_nil, (show 8 < 256 by decide), d0, dn⟩
    | 3, _ => exact ⟨_, rfl, lst_nil, (show 10 < 256 by decide), d0, dn⟩
    | 4, _ => exact ⟨_, rfl, lst_of (vs := [.int .i64 2, .int .i64 3]) h.b8 (by unfold Len; decide), (show 14 < 256 by decide), d1, fun c h => by
        have h : c ∈ ([2, 3] : List Int) := h
        simp only [List.mem_cons, List.not_mem_nil, or_false] at h
        rcases h with rfl | rfl <;> exact ⟨by decide, by decide⟩⟩

theorem grows (w : World) (l : List Obj) : ∀ (w' : World), w' = l.foldl World.alloc w → Below w.heap.size w w' ∧ w'.heap.size = w.heap.size + l.length ∧ ∀ i (h : i < l.length), w'.heap[w.heap.size + i]? = some l[i] := by
  induction l generalizing w with
  | nil => rintro w' rfl; exact ⟨Below.refl _ _, rfl, fun i h => absurd h (Nat.not_lt_zero _)⟩
  | cons o r ih =>
    intro w' hw
    obtain ⟨h1, h2, h3⟩ := ih (w.alloc o) w' hw
    have hs : (w.alloc o).heap.size = w.heap.size + 1 := by simp
    have hb : Below w.heap.size w (w.alloc o) := (Below.refl _ _).alloc (Nat.le_refl _) o
    refine ⟨hb.trans (h1.mono hb.size), by rw [h2, hs, List.length_cons]; omega, fun i hi => ?_⟩
    cases i with
    | zero => exact at_below (new_block w o) h1
    | succ i =>
      have := h3 i (by simpa using hi)
      rw [hs] at this
      rw [show w.heap.size + (i + 1) = w.heap.size + 1 + i from by omega]
      exact this

set_option maxHeartbeats 4000000 in
set_option maxRecDepth 100000 in
theorem text_fn (w : World) : Calls Tryd.prog 6 #[] w fun e w' => e = .returned (textV w.heap.size) ∧ TextAt w.heap.size 1 1 (sl (w.heap.size + 6) 1) 0 w' ∧ Below w.heap.size w w' ∧ w'.heap.size = w.heap.size + 11 := by
  obtain ⟨q, hq⟩ : ∃ q, q = w.heap.size := ⟨_, rfl⟩
  obtain ⟨h1, h2, h3⟩ := grows w [.cells #[sl (q + 1) 1, sl (q + 10) 1] 26, .cells #[.string ⟨#[121]⟩] 9, .cells #[.bool false] 4, .cells #[.int .i64 0] 3, .cells #[.int .i64 0] 3, .cells #[.int .i64 1] 3, .cells #[.int .i64 4] 3, .cells (stmtsC q 1 (sl (q + 6) 1)) 44, .cells #[.int .i64 2, .int .i64 3] 3, .cells (exprsC q 0) 41, .cells (protoC q 1) 35] _ rfl
  rw [← hq] at h3 ⊢
  have hT : TextAt q 1 1 (sl (q + 6) 1) 0 _ := ⟨h3 1 (by simp), h3 2 (by simp), h3 3 (by simp), h3 4 (by simp), h3 5 (by simp), h3 6 (by simp), h3 7 (by simp), h3 8 (by simp), h3 9 (by simp), h3 10 (by simp)⟩
  have H := Lib.hid (show _ ∧ _ ∧ _ from ⟨hT, h1, h2⟩)
  clear h1 h2 h3 hT
  subst hq
  go_enter Tryd.func6, Tryd.ntmps6
  go_wp2_with fail
  refine bodyPost_ret (v := textV w.heap.size) ?_ rfl ?_
  · simp [results, Tryd.results6, go_sem, textV, sl]
  · exact ⟨rfl, H.out.1, H.out.2.1, H.out.2.2⟩

end Go.Proofs.YtnnjkejejlhkdaaDoor.Rt
