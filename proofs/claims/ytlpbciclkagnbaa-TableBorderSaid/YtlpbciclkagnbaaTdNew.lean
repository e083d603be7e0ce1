/-
  Layer 13: the developers' table: a new one.
-/
import Derived.Test.YtlpbciclkagnbaaTdGet2
namespace Go.Proofs.Ytlpbciclkagnbaa.Td
open Go Go.RowKit Go.Proofs.Ytlpbciclkagnbaa.Pl Go.Proofs.Ytlpbciclkagnbaa.Tb

theorem drew_turns (w : World) : Turns [] w w.drew := ⟨rfl, rfl, rfl, Nat.le_refl _, fun _ _ _ => rfl⟩
theorem new_fn' (w : World) : Calls Try.prog 14 #[] w (fun e w' => ∃ b mb, e = .returned (.pointer (some ⟨b, 0, none⟩)) ∧ w.heap.size ≤ b ∧ w.heap.size ≤ mb ∧ TM w' b mb [] 0 0 ∧ w'.cell? ⟨b, 9, none⟩ = some (.slice none 0 0) ∧ Below w.heap.size w w') := by
  have hmm := @run_makeMap Try.prog
  obtain ⟨β, hβ⟩ : ∃ β, w.heap.size = β := ⟨_, rfl⟩
  have HBE := Lib.hid hβ
  have h1 := new_block (w.alloc (.map #[] 0)) (.cells #[.pointer (some ⟨β + 1, 0, none⟩), .map (some β), .int .u8 0, .int .i64 0, .int .u8 0, .int .i64 0, .pointer none, .pointer none, .bool false, .slice none 0 0, .int .i64 0, .int .i64 0] headT)
  have h0 := (Below.heap_alloc (w.alloc (.map #[] 0)) (.cells #[.pointer (some ⟨β + 1, 0, none⟩), .map (some β), .int .u8 0, .int .i64 0, .int .u8 0, .int .i64 0, .pointer none, .pointer none, .bool false, .slice none 0 0, .int .i64 0, .int .i64 0] headT) _ (by simp)).trans (new_block w (.map #[] 0))
  rw [show (w.alloc (.map #[] 0)).heap.size = w.heap.size + 1 from by simp] at h1
  have hb := ((Below.refl w.heap.size w).alloc (Nat.le_refl _) (.map #[] 0)).alloc (by simp) (.cells #[.pointer (some ⟨β + 1, 0, none⟩), .map (some β), .int .u8 0, .int .i64 0, .int .u8 0, .int .i64 0, .pointer none, .pointer none, .bool false, .slice none 0 0, .int .i64 0, .int .i64 0] headT)
  rw [hβ] at h0 h1 hb
  unfold headT at h0 h1 hb
  have HB := Lib.hid hb
  clear hb
  go_enter Try.func14, Try.ntmps14
  go_upto_region 3 with fail
  generalize hW : (w.alloc (.map #[] 0)).alloc (.cells #[.pointer (some ⟨β + 1, 0, none⟩), .map (some β), .int .u8 0, .int .i64 0, .int .u8 0, .int .i64 0, .pointer none, .pointer none, .bool false, .slice none 0 0, .int .i64 0, .int .i64 0] 32) = w1 at *
  clear hW hβ
  have x6 := cell_of h1 6 _ rfl
  have x7 := cell_of h1 7 _ rfl
  have z6 := free_of h1 6
  have z7 := free_of h1 7
  go_region_held3 (fun _ => True)
    (trivial)
    (fail)
  go_wp2_with fail
  go_ret
  have hle : w.heap.size ≤ β + 1 := by have := HBE.out; omega
  have hB : Below w.heap.size w w1 := by rw [HBE.out]; exact HB.out
  have hh : HeadAt w1 (β + 1) β 0 0 := ⟨⟨_, h1, rfl⟩, cell_of h1 0 _ rfl, cell_of h1 1 _ rfl, cell_of h1 2 _ rfl, cell_of h1 3 _ rfl, cell_of h1 4 _ rfl, cell_of h1 5 _ rfl, cell_of h1 10 _ rfl, cell_of h1 11 _ rfl⟩
  have h9 := cell_of h1 9 _ rfl
  refine ⟨β + 1, β, rfl, hle, Nat.le_of_eq HBE.out, ?_, ?_, ((hB.setCell (p := ⟨β + 1, 6, none⟩) hle _).setCell (p := ⟨β + 1, 7, none⟩) hle _).drew⟩
  · exact {
      head := ((hh.tie (by omega) (by omega)).tie (by omega) (by omega)).turns (G := []) (drew_turns _) (List.not_mem_nil)
      nodes := fun _ h => absurd h (List.not_mem_nil)
      links := ⟨⟨cell_put (a := ⟨β + 1, 7, none⟩) (cell_keep x7 (ne_off (i := 6) (j := 7) (by decide))), cell_keep (c := ⟨β + 1, 6, none⟩) (cell_put x6) (ne_off (i := 7) (j := 6) (by decide))⟩, trivial⟩
      map := ⟨_, by
        show ((w1.setCell _ _).setCell _ _).heap[β]? = _
        rw [heap_setCell_other _ _ _ _ (by show β ≠ β + 1; omega), heap_setCell_other _ _ _ _ (by show β ≠ β + 1; omega)]
        exact h0, pmap_new⟩
      nd := List.nodup_nil
      keys := List.nodup_nil
      ok := fun _ h => absurd h (List.not_mem_nil) }
  · exact cell_keep (cell_keep h9 (ne_off (by omega))) (ne_off (by omega))
end Go.Proofs.Ytlpbciclkagnbaa.Td
