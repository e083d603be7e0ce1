/-
  Layer 13: what the developers' calls say of a table that is none.
-/
import Derived.Test.YtlpbciclkagnbaaTdGet
import Derived.Test.YtlpbciclkagnbaaTbNone
namespace Go.Proofs.Ytlpbciclkagnbaa.Td
open Go Go.RowKit Go.Proofs.Ytlpbciclkagnbaa.Pl Go.Proofs.Ytlpbciclkagnbaa.Tb

/-- A table that is none: nil, or a struct whose pointer to itself is nil. -/
def Dead (w : World) (p : Value) : Prop := p = .pointer none ∨ ∃ b, p = .pointer (some ⟨b, 0, none⟩) ∧ w.cell? ⟨b, 0, none⟩ = some (.pointer none)
theorem Dead.below {w w' : World} {p : Value} (h : Dead w p) (hb : Below w.heap.size w w') : Dead w' p := by
  rcases h with h | ⟨b, h, hc⟩
  · exact .inl h
  · exact .inr ⟨b, h, (hb.cell (p := ⟨b, 0, none⟩) (World.block_lt_of_cell? _ _ hc)).trans hc⟩
theorem made_dead (p : Value) (w : World) (hp : Dead w p) :
    Calls Try.prog 17 #[p] w fun e w' => e = .returned (.bool false) ∧ w' = w := by
  rcases hp with rfl | ⟨b, rfl, hc⟩
  · go_enter Try.func17, Try.ntmps17
    go_wp2_with fail
    go_ret
    exact ⟨rfl, rfl⟩
  · have hq := nil_ptr b w
    go_enter Try.func17, Try.ntmps17
    go_wp2_with fail
    go_ret
    exact ⟨rfl, rfl⟩
theorem dead_len {w : World} {p : Value} (h : Dead w p) : Calls Try.prog 10 #[p] w (fun e w' => e = .returned (.int .i64 0) ∧ Below w.heap.size w w') := by
  go_enter Try.func10, Try.ntmps10
  go_wp2_with fail
  refine (made_dead p w h).mono ?_
  rintro e w1 ⟨rfl, rfl⟩
  go_wp2_with fail
  go_ret
  exact ⟨rfl, Below.refl _ _⟩
theorem dead_count {w : World} {p : Value} (h : Dead w p) : Calls Try.prog 11 #[p] w (fun e w' => e = .returned (.int .i64 0) ∧ Below w.heap.size w w') := by
  go_enter Try.func11, Try.ntmps11
  go_wp2_with fail
  refine (made_dead p w h).mono ?_
  rintro e w1 ⟨rfl, rfl⟩
  go_wp2_with fail
  go_ret
  exact ⟨rfl, Below.refl _ _⟩
theorem dead_values {w : World} {p : Value} (h : Dead w p) : Calls Try.prog 12 #[p] w (fun e w' => ∃ ao cap, e = .returned (.slice ao 0 cap) ∧ Below w.heap.size w w') := by
  go_enter Try.func12, Try.ntmps12
  go_wp2_with fail
  refine (made_dead p w h).mono ?_
  rintro e w1 ⟨rfl, rfl⟩
  go_wp2_with fail
  go_ret
  exact ⟨none, 0, rfl, Below.refl _ _⟩
set_option maxRecDepth 100000 in
theorem dead_get {w : World} {p : Value} (k : Vl) (h : Dead w p) : Calls Try.prog 9 #[p, k.val] w (fun e w' => e = .returned nilV.val ∧ Below w.heap.size w w') := by
  obtain ⟨kk, kn⟩ := k
  have hb := ((Below.refl w.heap.size w).alloc (Nat.le_refl _) (.cells #[.int .u8 (kk : Int), .int .i64 kn] 24)).alloc (by simp) (.cells #[.int .u8 0, .int .i64 0] 24)
  have hx := new_block (w.alloc (.cells #[.int .u8 (kk : Int), .int .i64 kn] 24)) (.cells #[.int .u8 0, .int .i64 0] 24)
  have hd := h.below hb
  rw [show (w.alloc (.cells #[.int .u8 (kk : Int), .int .i64 kn] 24)).heap.size = w.heap.size + 1 from by simp] at hx
  have z0 := cell_of hx 0 _ rfl
  have z1 := cell_of hx 1 _ rfl
  have f0 := free_of hx 0
  have f1 := free_of hx 1
  have HB := Lib.hid hb
  clear hb hx h
  show Calls Try.prog 9 #[p, .agg #[.int .u8 (kk : Int), .int .i64 kn]] w _
  go_enter Try.func9, Try.ntmps9
  go_wp2_with fail
  generalize hW : (w.alloc (.cells #[.int .u8 (kk : Int), .int .i64 kn] 24)).alloc (.cells #[.int .u8 0, .int .i64 0] 24) = w0 at *
  clear hW
  refine (made_dead p w0 hd).mono ?_
  rintro e w1 ⟨rfl, rfl⟩
  go_wp2_with fail
  refine bodyPost_ret (v := .agg #[.int .u8 0, .int .i64 0]) (by simp [results, Try.results9, go_sem, z0, z1]) rfl ?_
  exact ⟨rfl, by
    repeat first
      | exact HB.out
      | refine Below.drew ?_
      | refine Below.setCell (p := ⟨w.heap.size + 1, _, none⟩) ?_ (Nat.le_succ _) _⟩
set_option maxRecDepth 100000 in
theorem dead_next {w : World} {p : Value} (k : Vl) (h : Dead w p) : Calls Try.prog 7 #[p, k.val] w (fun e w' => e = .returned (.tuple #[nilV.val, nilV.val, .int .i64 1]) ∧ Below w.heap.size w w') := by
  obtain ⟨kk, kn⟩ := k
  have hb0 := (Below.refl w.heap.size w).alloc (Nat.le_refl _) (.cells #[.int .u8 (kk : Int), .int .i64 kn] 24)
  have hb := (hb0.alloc (by simp) (.cells #[.int .u8 0, .int .i64 0] 24)).alloc (by simp; omega) (.cells #[.int .u8 0, .int .i64 0] 24)
  have hd := h.below hb
  have hx1 := new_block (w.alloc (.cells #[.int .u8 (kk : Int), .int .i64 kn] 24)) (.cells #[.int .u8 0, .int .i64 0] 24)
  have hx2 := new_block ((w.alloc (.cells #[.int .u8 (kk : Int), .int .i64 kn] 24)).alloc (.cells #[.int .u8 0, .int .i64 0] 24)) (.cells #[.int .u8 0, .int .i64 0] 24)
  have hx1 := (Below.heap_alloc ((w.alloc (.cells #[.int .u8 (kk : Int), .int .i64 kn] 24)).alloc (.cells #[.int .u8 0, .int .i64 0] 24)) (.cells #[.int .u8 0, .int .i64 0] 24) _ (by simp)).trans hx1
  rw [show (w.alloc (.cells #[.int .u8 (kk : Int), .int .i64 kn] 24)).heap.size = w.heap.size + 1 from by simp] at hx1
  rw [show ((w.alloc (.cells #[.int .u8 (kk : Int), .int .i64 kn] 24)).alloc (.cells #[.int .u8 0, .int .i64 0] 24)).heap.size = w.heap.size + 1 + 1 from by simp] at hx2
  have y0 := cell_of hx1 0 _ rfl
  have y1 := cell_of hx1 1 _ rfl
  have y2 := cell_of hx2 0 _ rfl
  have y3 := cell_of hx2 1 _ rfl
  have z0 := free_of hx1 0
  have z1 := free_of hx1 1
  have z2 := free_of hx2 0
  have z3 := free_of hx2 1
  have HB := Lib.hid hb
  clear hb0 hb hx1 hx2 h
  show Calls Try.prog 7 #[p, .agg #[.int .u8 (kk : Int), .int .i64 kn]] w _
  go_enter Try.func7, Try.ntmps7
  go_wp2_with fail
  generalize hW : ((w.alloc (.cells #[.int .u8 (kk : Int), .int .i64 kn] 24)).alloc (.cells #[.int .u8 0, .int .i64 0] 24)).alloc (.cells #[.int .u8 0, .int .i64 0] 24) = w0 at *
  clear hW
  refine (made_dead p w0 hd).mono ?_
  rintro e w1 ⟨rfl, rfl⟩
  go_wp2_with fail
  refine bodyPost_ret (v := .tuple #[.agg #[.int .u8 0, .int .i64 0], .agg #[.int .u8 0, .int .i64 0], .int .i64 1]) (by simp [results, Try.results7, go_sem, y0, y1, y2, y3]) rfl ?_
  exact ⟨rfl, by
    repeat first
      | exact HB.out
      | refine Below.drew ?_
      | refine Below.setCell (p := ⟨w.heap.size + 1, _, none⟩) ?_ (Nat.le_succ _) _
      | refine Below.setCell (p := ⟨w.heap.size + 1 + 1, _, none⟩) ?_ (show w.heap.size ≤ w.heap.size + 1 + 1 by omega) _⟩
set_option maxRecDepth 100000 in
theorem dead_set {w : World} {p : Value} (k v : Vl) (h : Dead w p) : Calls Try.prog 8 #[p, k.val, v.val] w (fun e w' => e = .returned (.int .i64 1) ∧ Below w.heap.size w w') := by
  obtain ⟨kk, kn⟩ := k
  obtain ⟨vk, vn⟩ := v
  have hb := ((Below.refl w.heap.size w).alloc (Nat.le_refl _) (.cells #[.int .u8 (kk : Int), .int .i64 kn] 24)).alloc (by simp) (.cells #[.int .u8 (vk : Int), .int .i64 vn] 24)
  have hd := h.below hb
  have HB := Lib.hid hb
  clear hb h
  show Calls Try.prog 8 #[p, .agg #[.int .u8 (kk : Int), .int .i64 kn], .agg #[.int .u8 (vk : Int), .int .i64 vn]] w _
  go_enter Try.func8, Try.ntmps8
  go_wp2_with fail
  generalize hW : (w.alloc (.cells #[.int .u8 (kk : Int), .int .i64 kn] 24)).alloc (.cells #[.int .u8 (vk : Int), .int .i64 vn] 24) = w0 at *
  clear hW
  refine (made_dead p w0 hd).mono ?_
  rintro e w1 ⟨rfl, rfl⟩
  go_wp2_with fail
  go_ret
  exact ⟨rfl, HB.out⟩
theorem dead_says : DeadSays Dead where
  keep h hb := h.below hb
  next k h _ := dead_next k h
  set k v h _ _ := dead_set k v h
  get k h _ := dead_get k h
  len h := dead_len h
  count h := dead_count h
  values h := dead_values h
  nil _ := .inl rfl
  zero w := .inr ⟨w.heap.size, rfl, cell_of (new_block w _) 0 _ rfl⟩
end Go.Proofs.Ytlpbciclkagnbaa.Td
