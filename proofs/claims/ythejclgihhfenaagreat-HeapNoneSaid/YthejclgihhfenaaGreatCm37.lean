import Derived.Test.YthejclgihhfenaaGreatCm22
/-
  Layer 14: what the developers' calls say of a heap that is none (written by hd-dead.py).
-/
namespace Go.Proofs.YthejclgihhfenaaGreat.Hd
open Go Go.RowKit Go.Proofs.YthejclgihhfenaaGreat.Pl Go.Proofs.YthejclgihhfenaaGreat.Tb Go.Proofs.YthejclgihhfenaaGreat.Vm Go.Proofs.YthejclgihhfenaaGreat.Hp Go.Proofs.YthejclgihhfenaaGreat.Td

/-- A heap that is none: nil, or a struct whose pointer to itself is nil. -/
def Dead (w : World) (p : Value) : Prop := p = .pointer none ∨ ∃ b, p = .pointer (some ⟨b, 0, none⟩) ∧ w.cell? ⟨b, 0, none⟩ = some (.pointer none)
theorem Dead.below {w w' : World} {p : Value} (h : Dead w p) (hb : Below w.heap.size w w') : Dead w' p := by
  rcases h with h | ⟨b, h, hc⟩
  · exact .inl h
  · exact .inr ⟨b, h, (hb.cell (p := ⟨b, 0, none⟩) (World.block_lt_of_cell? _ _ hc)).trans hc⟩
theorem nil_heap (b : Nat) (w : World) : (binOp .eql 23 (.pointer none) (.pointer (some ⟨b, 0, none⟩))).run Tryz.prog w = .ok (.bool false) w := by
  have h : ∀ d : Nat, (Op.equalIn (d + 1) 23 (.pointer none) (.pointer (some ⟨b, 0, none⟩))).run Tryz.prog w = .ok false w := fun d => by
    simp [Op.equalIn, run_underlying Tryz.underlying23]
  simp only [binOp]
  simp [Op.equal, Op.maxDepth, h 9999]
theorem made_dead (p : Value) (w : World) (hp : Dead w p) :
    Calls Tryz.prog 55 #[p] w fun e w' => e = .returned (.bool false) ∧ w' = w := by
  rcases hp with rfl | ⟨b, rfl, hc⟩
  · go_enter Tryz.func55, Tryz.ntmps55
    go_wp2_with fail
    go_ret
    exact ⟨rfl, rfl⟩
  · have hq := nil_heap b w
    go_enter Tryz.func55, Tryz.ntmps55
    go_wp2_with fail
    go_ret
    exact ⟨rfl, rfl⟩
set_option maxRecDepth 100000 in
theorem dead_at {w : World} {p : Value} (v : Vl) (h : Dead w p) : Calls Tryz.prog 77 #[p, v.val] w (fun e w' => e = .returned (.pointer none) ∧ Below w.heap.size w w') := by
  obtain ⟨vk, vn⟩ := v
  have hb0 := Below.refl w.heap.size w
  have hb1 := hb0.alloc (by first | exact Nat.le_refl _ | (simp; done) | (simp; omega)) (.cells #[.int .u8 (vk : Int), .int .i64 vn] 37)
  have hd := h.below hb1
  have HB := Lib.hid hb1
  clear h hb0 hb1
  show Calls Tryz.prog 77 #[p, .agg #[.int .u8 (vk : Int), .int .i64 vn]] w _
  go_enter Tryz.func77, Tryz.ntmps77
  go_wp2_with fail
  generalize hW : (w.alloc (.cells #[.int .u8 (vk : Int), .int .i64 vn] 37)) = w0 at *
  clear hW
  refine (made_dead p w0 hd).mono ?_
  rintro e w1 ⟨rfl, rfl⟩
  go_wp2_with fail
  go_ret
  exact ⟨rfl, by
    repeat first
      | exact HB.out
      | refine Below.drew ?_
      | refine below_drewN ?_ _
      | refine Below.setCell (p := ⟨_, _, none⟩) ?_ (by first | exact Nat.le_refl _ | exact Nat.le_succ _ | (simp; done) | (simp; omega)) _⟩
set_option maxRecDepth 100000 in
theorem dead_find {w : World} {p : Value} (v : Vl) (k : Nat) (h : Dead w p) : Calls Tryz.prog 62 #[p, .int .u8 (k : Int), v.val] w (fun e w' => e = .returned (.pointer none) ∧ Below w.heap.size w w') := by
  obtain ⟨vk, vn⟩ := v
  have hb1 := (Below.refl w.heap.size w).alloc (Nat.le_refl _) (.cells #[.int .u8 (vk : Int), .int .i64 vn] 37)
  have hd := h.below hb1
  have HB := Lib.hid hb1
  clear h hb1
  show Calls Tryz.prog 62 #[p, .int .u8 (k : Int), .agg #[.int .u8 (vk : Int), .int .i64 vn]] w _
  go_enter Tryz.func62, Tryz.ntmps62
  go_wp2_with fail
  · go_ret
    exact ⟨rfl, HB.out⟩
  · refine (dead_at ⟨vk, vn⟩ hd).mono ?_
    rintro e w1 ⟨rfl, b'⟩
    have HB := Lib.hid (HB.out.trans (b'.mono HB.out.size))
    clear b'
    go_wp2_with fail
    go_ret
    exact ⟨rfl, HB.out⟩
set_option maxRecDepth 100000 in
theorem dead_str {w : World} {p : Value} (s : ByteArray) (h : Dead w p) : Calls Tryz.prog 10 #[p, .string s] w (fun e w' => e = .returned (.tuple #[.agg #[.int .u8 0, .int .i64 0], .int .i64 1]) ∧ Below w.heap.size w w') := by
  have hb0 := Below.refl w.heap.size w
  have hb1 := hb0.alloc (by first | exact Nat.le_refl _ | (simp; done) | (simp; omega)) (.cells #[.int .u8 0, .int .i64 0] 37)
  have hx0 : (w.alloc (.cells #[.int .u8 0, .int .i64 0] 37)).heap[w.heap.size]? = some (.cells #[.int .u8 0, .int .i64 0] 37) := by
    rw [show w.heap.size = w.heap.size from by simp]
    exact new_block _ _
  have HX0 := Lib.hid hx0
  have hd := h.below hb1
  have HB := Lib.hid hb1
  clear h hb0 hb1 hx0
  show Calls Tryz.prog 10 #[p, .string s] w _
  go_enter Tryz.func10, Tryz.ntmps10
  go_wp2_with fail
  generalize hW : (w.alloc (.cells #[.int .u8 0, .int .i64 0] 37)) = w0 at *
  clear hW
  refine (made_dead p w0 hd).mono ?_
  rintro e w1 ⟨rfl, rfl⟩
  have hy0 := HX0.out
  have z0 := cell_of hy0 0 _ rfl
  have f0 := free_of hy0 0
  have z1 := cell_of hy0 1 _ rfl
  have f1 := free_of hy0 1
  clear hy0
  go_wp2_with fail
  refine bodyPost_ret (v := .tuple #[.agg #[.int .u8 0, .int .i64 0], .int .i64 1]) (by simp [results, Tryz.results10, go_sem, z0, z1]) rfl ?_
  exact ⟨rfl, by
    repeat first
      | exact HB.out
      | refine Below.drew ?_
      | refine below_drewN ?_ _
      | refine Below.setCell (p := ⟨_, _, none⟩) ?_ (by first | exact Nat.le_refl _ | exact Nat.le_succ _ | (simp; done) | (simp; omega)) _⟩
set_option maxRecDepth 100000 in
theorem dead_table {w : World} {p : Value} (h : Dead w p) : Calls Tryz.prog 12 #[p] w (fun e w' => e = .returned (.tuple #[.agg #[.int .u8 0, .int .i64 0], .int .i64 1]) ∧ Below w.heap.size w w') := by
  have hb0 := Below.refl w.heap.size w
  have hb1 := hb0.alloc (by first | exact Nat.le_refl _ | (simp; done) | (simp; omega)) (.cells #[.int .u8 0, .int .i64 0] 37)
  have hx0 : (w.alloc (.cells #[.int .u8 0, .int .i64 0] 37)).heap[w.heap.size]? = some (.cells #[.int .u8 0, .int .i64 0] 37) := by
    rw [show w.heap.size = w.heap.size from by simp]
    exact new_block _ _
  have HX0 := Lib.hid hx0
  have hd := h.below hb1
  have HB := Lib.hid hb1
  clear h hb0 hb1 hx0
  show Calls Tryz.prog 12 #[p] w _
  go_enter Tryz.func12, Tryz.ntmps12
  go_wp2_with fail
  generalize hW : (w.alloc (.cells #[.int .u8 0, .int .i64 0] 37)) = w0 at *
  clear hW
  refine (made_dead p w0 hd).mono ?_
  rintro e w1 ⟨rfl, rfl⟩
  have hy0 := HX0.out
  have z0 := cell_of hy0 0 _ rfl
  have f0 := free_of hy0 0
  have z1 := cell_of hy0 1 _ rfl
  have f1 := free_of hy0 1
  clear hy0
  go_wp2_with fail
  refine bodyPost_ret (v := .tuple #[.agg #[.int .u8 0, .int .i64 0], .int .i64 1]) (by simp [results, Tryz.results12, go_sem, z0, z1]) rfl ?_
  exact ⟨rfl, by
    repeat first
      | exact HB.out
      | refine Below.drew ?_
      | refine below_drewN ?_ _
      | refine Below.setCell (p := ⟨_, _, none⟩) ?_ (by first | exact Nat.le_refl _ | exact Nat.le_succ _ | (simp; done) | (simp; omega)) _⟩
set_option maxRecDepth 100000 in
theorem dead_cell {w : World} {p : Value} (v : Vl) (h : Dead w p) : Calls Tryz.prog 16 #[p, v.val] w (fun e w' => e = .returned (.tuple #[.agg #[.int .u8 0, .int .i64 0], .int .i64 1]) ∧ Below w.heap.size w w') := by
  obtain ⟨vk, vn⟩ := v
  have hb0 := Below.refl w.heap.size w
  have hb1 := hb0.alloc (by first | exact Nat.le_refl _ | (simp; done) | (simp; omega)) (.cells #[.int .u8 (vk : Int), .int .i64 vn] 37)
  have hb2 := hb1.alloc (by first | exact Nat.le_refl _ | (simp; done) | (simp; omega)) (.cells #[.int .u8 0, .int .i64 0] 37)
  have hx0 : ((w.alloc (.cells #[.int .u8 (vk : Int), .int .i64 vn] 37)).alloc (.cells #[.int .u8 0, .int .i64 0] 37)).heap[w.heap.size + 1]? = some (.cells #[.int .u8 0, .int .i64 0] 37) := by
    rw [show w.heap.size + 1 = (w.alloc (.cells #[.int .u8 (vk : Int), .int .i64 vn] 37)).heap.size from by simp]
    exact new_block _ _
  have HX0 := Lib.hid hx0
  have hd := h.below hb2
  have HB := Lib.hid hb2
  clear h hb0 hb1 hb2 hx0
  show Calls Tryz.prog 16 #[p, .agg #[.int .u8 (vk : Int), .int .i64 vn]] w _
  go_enter Tryz.func16, Tryz.ntmps16
  go_wp2_with fail
  generalize hW : ((w.alloc (.cells #[.int .u8 (vk : Int), .int .i64 vn] 37)).alloc (.cells #[.int .u8 0, .int .i64 0] 37)) = w0 at *
  clear hW
  refine (made_dead p w0 hd).mono ?_
  rintro e w1 ⟨rfl, rfl⟩
  have hy0 := HX0.out
  have z0 := cell_of hy0 0 _ rfl
  have f0 := free_of hy0 0
  have z1 := cell_of hy0 1 _ rfl
  have f1 := free_of hy0 1
  clear hy0
  go_wp2_with fail
  refine bodyPost_ret (v := .tuple #[.agg #[.int .u8 0, .int .i64 0], .int .i64 1]) (by simp [results, Tryz.results16, go_sem, z0, z1]) rfl ?_
  exact ⟨rfl, by
    repeat first
      | exact HB.out
      | refine Below.drew ?_
      | refine below_drewN ?_ _
      | refine Below.setCell (p := ⟨_, _, none⟩) ?_ (by first | exact Nat.le_refl _ | exact Nat.le_succ _ | (simp; done) | (simp; omega)) _⟩
set_option maxRecDepth 100000 in
theorem dead_thread {w : World} {p : Value} (h : Dead w p) : Calls Tryz.prog 18 #[p] w (fun e w' => e = .returned (.tuple #[.agg #[.int .u8 0, .int .i64 0], .int .i64 1]) ∧ Below w.heap.size w w') := by
  have hb0 := Below.refl w.heap.size w
  have hb1 := hb0.alloc (by first | exact Nat.le_refl _ | (simp; done) | (simp; omega)) (.cells #[.int .u8 0, .int .i64 0] 37)
  have hx0 : (w.alloc (.cells #[.int .u8 0, .int .i64 0] 37)).heap[w.heap.size]? = some (.cells #[.int .u8 0, .int .i64 0] 37) := by
    rw [show w.heap.size = w.heap.size from by simp]
    exact new_block _ _
  have HX0 := Lib.hid hx0
  have hd := h.below hb1
  have HB := Lib.hid hb1
  clear h hb0 hb1 hx0
  show Calls Tryz.prog 18 #[p] w _
  go_enter Tryz.func18, Tryz.ntmps18
  go_wp2_with fail
  generalize hW : (w.alloc (.cells #[.int .u8 0, .int .i64 0] 37)) = w0 at *
  clear hW
  refine (made_dead p w0 hd).mono ?_
  rintro e w1 ⟨rfl, rfl⟩
  have hy0 := HX0.out
  have z0 := cell_of hy0 0 _ rfl
  have f0 := free_of hy0 0
  have z1 := cell_of hy0 1 _ rfl
  have f1 := free_of hy0 1
  clear hy0
  go_wp2_with fail
  refine bodyPost_ret (v := .tuple #[.agg #[.int .u8 0, .int .i64 0], .int .i64 1]) (by simp [results, Tryz.results18, go_sem, z0, z1]) rfl ?_
  exact ⟨rfl, by
    repeat first
      | exact HB.out
      | refine Below.drew ?_
      | refine below_drewN ?_ _
      | refine Below.setCell (p := ⟨_, _, none⟩) ?_ (by first | exact Nat.le_refl _ | exact Nat.le_succ _ | (simp; done) | (simp; omega)) _⟩
set_option maxRecDepth 100000 in
theorem dead_next {w : World} {p : Value} (v : Vl) (x : Vl) (h : Dead w p) : Calls Tryz.prog 43 #[p, v.val, x.val] w (fun e w' => e = .returned (.tuple #[.agg #[.int .u8 0, .int .i64 0], .agg #[.int .u8 0, .int .i64 0], .int .i64 1]) ∧ Below w.heap.size w w') := by
  obtain ⟨vk, vn⟩ := v
  obtain ⟨xk, xn⟩ := x
  have hb0 := Below.refl w.heap.size w
  have hb1 := hb0.alloc (by first | exact Nat.le_refl _ | (simp; done) | (simp; omega)) (.cells #[.int .u8 (vk : Int), .int .i64 vn] 37)
  have hb2 := hb1.alloc (by first | exact Nat.le_refl _ | (simp; done) | (simp; omega)) (.cells #[.int .u8 (xk : Int), .int .i64 xn] 37)
  have hb3 := hb2.alloc (by first | exact Nat.le_refl _ | (simp; done) | (simp; omega)) (.cells #[.int .u8 0, .int .i64 0] 37)
  have hb4 := hb3.alloc (by first | exact Nat.le_refl _ | (simp; done) | (simp; omega)) (.cells #[.int .u8 0, .int .i64 0] 37)
  have hx0 : ((((w.alloc (.cells #[.int .u8 (vk : Int), .int .i64 vn] 37)).alloc (.cells #[.int .u8 (xk : Int), .int .i64 xn] 37)).alloc (.cells #[.int .u8 0, .int .i64 0] 37)).alloc (.cells #[.int .u8 0, .int .i64 0] 37)).heap[w.heap.size + 1 + 1]? = some (.cells #[.int .u8 0, .int .i64 0] 37) := by
    rw [heap_alloc_old _ _ (by simp)]
    rw [show w.heap.size + 1 + 1 = ((w.alloc (.cells #[.int .u8 (vk : Int), .int .i64 vn] 37)).alloc (.cells #[.int .u8 (xk : Int), .int .i64 xn] 37)).heap.size from by simp]
    exact new_block _ _
  have HX0 := Lib.hid hx0
  have hx1 : ((((w.alloc (.cells #[.int .u8 (vk : Int), .int .i64 vn] 37)).alloc (.cells #[.int .u8 (xk : Int), .int .i64 xn] 37)).alloc (.cells #[.int .u8 0, .int .i64 0] 37)).alloc (.cells #[.int .u8 0, .int .i64 0] 37)).heap[w.heap.size + 1 + 1 + 1]? = some (.cells #[.int .u8 0, .int .i64 0] 37) := by
    rw [show w.heap.size + 1 + 1 + 1 = (((w.alloc (.cells #[.int .u8 (vk : Int), .int .i64 vn] 37)).alloc (.cells #[.int .u8 (xk : Int), .int .i64 xn] 37)).alloc (.cells #[.int .u8 0, .int .i64 0] 37)).heap.size from by simp]
    exact new_block _ _
  have HX1 := Lib.hid hx1
  have hd := h.below hb4
  have HB := Lib.hid hb4
  clear h hb0 hb1 hb2 hb3 hb4 hx0 hx1
  show Calls Tryz.prog 43 #[p, .agg #[.int .u8 (vk : Int), .int .i64 vn], .agg #[.int .u8 (xk : Int), .int .i64 xn]] w _
  go_enter Tryz.func43, Tryz.ntmps43
  go_wp2_with fail
  generalize hW : ((((w.alloc (.cells #[.int .u8 (vk : Int), .int .i64 vn] 37)).alloc (.cells #[.int .u8 (xk : Int), .int .i64 xn] 37)).alloc (.cells #[.int .u8 0, .int .i64 0] 37)).alloc (.cells #[.int .u8 0, .int .i64 0] 37)) = w0 at *
  clear hW
  refine (made_dead p w0 hd).mono ?_
  rintro e w1 ⟨rfl, rfl⟩
  have hy0 := HX0.out
  have hy1 := HX1.out
  have z0 := cell_of hy0 0 _ rfl
  have f0 := free_of hy0 0
  have z1 := cell_of hy0 1 _ rfl
  have f1 := free_of hy0 1
  clear hy0
  have z2 := cell_of hy1 0 _ rfl
  have f2 := free_of hy1 0
  have z3 := cell_of hy1 1 _ rfl
  have f3 := free_of hy1 1
  clear hy1
  go_wp2_with fail
  refine bodyPost_ret (v := .tuple #[.agg #[.int .u8 0, .int .i64 0], .agg #[.int .u8 0, .int .i64 0], .int .i64 1]) (by simp [results, Tryz.results43, go_sem, z0, z1, z2, z3]) rfl ?_
  exact ⟨rfl, by
    repeat first
      | exact HB.out
      | refine Below.drew ?_
      | refine below_drewN ?_ _
      | refine Below.setCell (p := ⟨_, _, none⟩) ?_ (by first | exact Nat.le_refl _ | exact Nat.le_succ _ | (simp; done) | (simp; omega)) _⟩
set_option maxRecDepth 100000 in
theorem dead_text {w : World} {p : Value} (v : Vl) (h : Dead w p) : Calls Tryz.prog 44 #[p, v.val] w (fun e w' => e = .returned (.tuple #[.string ByteArray.empty, .bool false]) ∧ Below w.heap.size w w') := by
  obtain ⟨vk, vn⟩ := v
  have hb0 := Below.refl w.heap.size w
  have hb1 := hb0.alloc (by first | exact Nat.le_refl _ | (simp; done) | (simp; omega)) (.cells #[.int .u8 (vk : Int), .int .i64 vn] 37)
  have hd := h.below hb1
  have HB := Lib.hid hb1
  clear h hb0 hb1
  show Calls Tryz.prog 44 #[p, .agg #[.int .u8 (vk : Int), .int .i64 vn]] w _
  go_enter Tryz.func44, Tryz.ntmps44
  go_wp2_with fail
  generalize hW : (w.alloc (.cells #[.int .u8 (vk : Int), .int .i64 vn] 37)) = w0 at *
  clear hW
  refine (dead_find ⟨vk, vn⟩ 4 hd).mono ?_
  rintro e w1 ⟨rfl, b'⟩
  have HB := Lib.hid (HB.out.trans (b'.mono HB.out.size))
  clear b'
  go_wp2_with fail
  refine bodyPost_ret (v := .tuple #[.string ByteArray.empty, .bool false]) (by simp [results, Tryz.results44, go_sem]; rfl) rfl ?_
  exact ⟨rfl, by
    repeat first
      | exact HB.out
      | refine Below.drew ?_
      | refine below_drewN ?_ _
      | refine Below.setCell (p := ⟨_, _, none⟩) ?_ (by first | exact Nat.le_refl _ | exact Nat.le_succ _ | (simp; done) | (simp; omega)) _⟩
set_option maxRecDepth 100000 in
theorem dead_proto {w : World} {p : Value} (v : Vl) (h : Dead w p) : Calls Tryz.prog 45 #[p, v.val] w (fun e w' => e = .returned (.tuple #[.int .i64 0, .bool false]) ∧ Below w.heap.size w w') := by
  obtain ⟨vk, vn⟩ := v
  have hb0 := Below.refl w.heap.size w
  have hb1 := hb0.alloc (by first | exact Nat.le_refl _ | (simp; done) | (simp; omega)) (.cells #[.int .u8 (vk : Int), .int .i64 vn] 37)
  have hd := h.below hb1
  have HB := Lib.hid hb1
  clear h hb0 hb1
  show Calls Tryz.prog 45 #[p, .agg #[.int .u8 (vk : Int), .int .i64 vn]] w _
  go_enter Tryz.func45, Tryz.ntmps45
  go_wp2_with fail
  generalize hW : (w.alloc (.cells #[.int .u8 (vk : Int), .int .i64 vn] 37)) = w0 at *
  clear hW
  refine (dead_find ⟨vk, vn⟩ 6 hd).mono ?_
  rintro e w1 ⟨rfl, b'⟩
  have HB := Lib.hid (HB.out.trans (b'.mono HB.out.size))
  clear b'
  go_wp2_with fail
  refine bodyPost_ret (v := .tuple #[.int .i64 0, .bool false]) (by simp [results, Tryz.results45, go_sem]) rfl ?_
  exact ⟨rfl, by
    repeat first
      | exact HB.out
      | refine Below.drew ?_
      | refine below_drewN ?_ _
      | refine Below.setCell (p := ⟨_, _, none⟩) ?_ (by first | exact Nat.le_refl _ | exact Nat.le_succ _ | (simp; done) | (simp; omega)) _⟩
set_option maxRecDepth 100000 in
theorem dead_known {w : World} {p : Value} (s : ByteArray) (h : Dead w p) : Calls Tryz.prog 36 #[p, .string s] w (fun e w' => e = .returned (.tuple #[.agg #[.int .u8 0, .int .i64 0], .bool false]) ∧ Below w.heap.size w w') := by
  have hb0 := Below.refl w.heap.size w
  have hb1 := hb0.alloc (by first | exact Nat.le_refl _ | (simp; done) | (simp; omega)) (.cells #[.int .u8 0, .int .i64 0] 37)
  have hx0 : (w.alloc (.cells #[.int .u8 0, .int .i64 0] 37)).heap[w.heap.size]? = some (.cells #[.int .u8 0, .int .i64 0] 37) := by
    rw [show w.heap.size = w.heap.size from by simp]
    exact new_block _ _
  have HX0 := Lib.hid hx0
  have hd := h.below hb1
  have HB := Lib.hid hb1
  clear h hb0 hb1 hx0
  show Calls Tryz.prog 36 #[p, .string s] w _
  go_enter Tryz.func36, Tryz.ntmps36
  go_wp2_with fail
  generalize hW : (w.alloc (.cells #[.int .u8 0, .int .i64 0] 37)) = w0 at *
  clear hW
  refine (made_dead p w0 hd).mono ?_
  rintro e w1 ⟨rfl, rfl⟩
  have hy0 := HX0.out
  have z0 := cell_of hy0 0 _ rfl
  have f0 := free_of hy0 0
  have z1 := cell_of hy0 1 _ rfl
  have f1 := free_of hy0 1
  clear hy0
  go_wp2_with fail
  refine bodyPost_ret (v := .tuple #[.agg #[.int .u8 0, .int .i64 0], .bool false]) (by simp [results, Tryz.results36, go_sem, z0, z1]) rfl ?_
  exact ⟨rfl, by
    repeat first
      | exact HB.out
      | refine Below.drew ?_
      | refine below_drewN ?_ _
      | refine Below.setCell (p := ⟨_, _, none⟩) ?_ (by first | exact Nat.le_refl _ | exact Nat.le_succ _ | (simp; done) | (simp; omega)) _⟩
set_option maxRecDepth 100000 in
theorem dead_watch {w : World} {p : Value} (h : Dead w p) : Calls Tryz.prog 28 #[p, .bool true] w (fun e w' => e = .returned (.tuple #[]) ∧ Below w.heap.size w w') := by
  have hb0 := Below.refl w.heap.size w
  have hd := h.below hb0
  have HB := Lib.hid hb0
  clear h hb0
  show Calls Tryz.prog 28 #[p, .bool true] w _
  go_enter Tryz.func28, Tryz.ntmps28
  go_wp2_with fail
  refine (made_dead p w hd).mono ?_
  rintro e w1 ⟨rfl, rfl⟩
  go_wp2_with fail
  refine bodyPost_ret (v := .tuple #[]) (by simp [results, Tryz.results28, go_sem]) rfl ?_
  exact ⟨rfl, by
    repeat first
      | exact HB.out
      | refine Below.drew ?_
      | refine below_drewN ?_ _
      | refine Below.setCell (p := ⟨_, _, none⟩) ?_ (by first | exact Nat.le_refl _ | exact Nat.le_succ _ | (simp; done) | (simp; omega)) _⟩
set_option maxRecDepth 100000 in
theorem dead_set {w : World} {p : Value} (v : Vl) (x : Vl) (y : Vl) (h : Dead w p) : Calls Tryz.prog 20 #[p, v.val, x.val, y.val] w (fun e w' => e = .returned (.int .i64 1) ∧ Below w.heap.size w w') := by
  obtain ⟨vk, vn⟩ := v
  obtain ⟨xk, xn⟩ := x
  obtain ⟨yk, yn⟩ := y
  have hb0 := Below.refl w.heap.size w
  have hb1 := hb0.alloc (by first | exact Nat.le_refl _ | (simp; done) | (simp; omega)) (.cells #[.int .u8 (vk : Int), .int .i64 vn] 37)
  have hb2 := hb1.alloc (by first | exact Nat.le_refl _ | (simp; done) | (simp; omega)) (.cells #[.int .u8 (xk : Int), .int .i64 xn] 37)
  have hb3 := hb2.alloc (by first | exact Nat.le_refl _ | (simp; done) | (simp; omega)) (.cells #[.int .u8 (yk : Int), .int .i64 yn] 37)
  have hd := h.below hb3
  have HB := Lib.hid hb3
  clear h hb0 hb1 hb2 hb3
  show Calls Tryz.prog 20 #[p, .agg #[.int .u8 (vk : Int), .int .i64 vn], .agg #[.int .u8 (xk : Int), .int .i64 xn], .agg #[.int .u8 (yk : Int), .int .i64 yn]] w _
  go_enter Tryz.func20, Tryz.ntmps20
  go_wp2_with fail
  generalize hW : (((w.alloc (.cells #[.int .u8 (vk : Int), .int .i64 vn] 37)).alloc (.cells #[.int .u8 (xk : Int), .int .i64 xn] 37)).alloc (.cells #[.int .u8 (yk : Int), .int .i64 yn] 37)) = w0 at *
  clear hW
  refine (made_dead p w0 hd).mono ?_
  rintro e w1 ⟨rfl, rfl⟩
  go_wp2_with fail
  go_ret
  exact ⟨rfl, by
    repeat first
      | exact HB.out
      | refine Below.drew ?_
      | refine below_drewN ?_ _
      | refine Below.setCell (p := ⟨_, _, none⟩) ?_ (by first | exact Nat.le_refl _ | exact Nat.le_succ _ | (simp; done) | (simp; omega)) _⟩
set_option maxRecDepth 100000 in
theorem dead_setmeta {w : World} {p : Value} (v : Vl) (x : Vl) (h : Dead w p) : Calls Tryz.prog 22 #[p, v.val, x.val] w (fun e w' => e = .returned (.int .i64 1) ∧ Below w.heap.size w w') := by
  obtain ⟨vk, vn⟩ := v
  obtain ⟨xk, xn⟩ := x
  have hb0 := Below.refl w.heap.size w
  have hb1 := hb0.alloc (by first | exact Nat.le_refl _ | (simp; done) | (simp; omega)) (.cells #[.int .u8 (vk : Int), .int .i64 vn] 37)
  have hb2 := hb1.alloc (by first | exact Nat.le_refl _ | (simp; done) | (simp; omega)) (.cells #[.int .u8 (xk : Int), .int .i64 xn] 37)
  have hd := h.below hb2
  have HB := Lib.hid hb2
  clear h hb0 hb1 hb2
  show Calls Tryz.prog 22 #[p, .agg #[.int .u8 (vk : Int), .int .i64 vn], .agg #[.int .u8 (xk : Int), .int .i64 xn]] w _
  go_enter Tryz.func22, Tryz.ntmps22
  go_wp2_with fail
  generalize hW : ((w.alloc (.cells #[.int .u8 (vk : Int), .int .i64 vn] 37)).alloc (.cells #[.int .u8 (xk : Int), .int .i64 xn] 37)) = w0 at *
  clear hW
  refine (made_dead p w0 hd).mono ?_
  rintro e w1 ⟨rfl, rfl⟩
  go_wp2_with fail
  go_ret
  exact ⟨rfl, by
    repeat first
      | exact HB.out
      | refine Below.drew ?_
      | refine below_drewN ?_ _
      | refine Below.setCell (p := ⟨_, _, none⟩) ?_ (by first | exact Nat.le_refl _ | exact Nat.le_succ _ | (simp; done) | (simp; omega)) _⟩
set_option maxRecDepth 100000 in
theorem dead_store {w : World} {p : Value} (v : Vl) (x : Vl) (h : Dead w p) : Calls Tryz.prog 24 #[p, v.val, x.val] w (fun e w' => e = .returned (.int .i64 1) ∧ Below w.heap.size w w') := by
  obtain ⟨vk, vn⟩ := v
  obtain ⟨xk, xn⟩ := x
  have hb0 := Below.refl w.heap.size w
  have hb1 := hb0.alloc (by first | exact Nat.le_refl _ | (simp; done) | (simp; omega)) (.cells #[.int .u8 (vk : Int), .int .i64 vn] 37)
  have hb2 := hb1.alloc (by first | exact Nat.le_refl _ | (simp; done) | (simp; omega)) (.cells #[.int .u8 (xk : Int), .int .i64 xn] 37)
  have hd := h.below hb2
  have HB := Lib.hid hb2
  clear h hb0 hb1 hb2
  show Calls Tryz.prog 24 #[p, .agg #[.int .u8 (vk : Int), .int .i64 vn], .agg #[.int .u8 (xk : Int), .int .i64 xn]] w _
  go_enter Tryz.func24, Tryz.ntmps24
  go_wp2_with fail
  generalize hW : ((w.alloc (.cells #[.int .u8 (vk : Int), .int .i64 vn] 37)).alloc (.cells #[.int .u8 (xk : Int), .int .i64 xn] 37)) = w0 at *
  clear hW
  refine (made_dead p w0 hd).mono ?_
  rintro e w1 ⟨rfl, rfl⟩
  go_wp2_with fail
  go_ret
  exact ⟨rfl, by
    repeat first
      | exact HB.out
      | refine Below.drew ?_
      | refine below_drewN ?_ _
      | refine Below.setCell (p := ⟨_, _, none⟩) ?_ (by first | exact Nat.le_refl _ | exact Nat.le_succ _ | (simp; done) | (simp; omega)) _⟩
set_option maxRecDepth 100000 in
theorem dead_free {w : World} {p : Value} (v : Vl) (h : Dead w p) : Calls Tryz.prog 26 #[p, v.val] w (fun e w' => e = .returned (.int .i64 1) ∧ Below w.heap.size w w') := by
  obtain ⟨vk, vn⟩ := v
  have hb0 := Below.refl w.heap.size w
  have hb1 := hb0.alloc (by first | exact Nat.le_refl _ | (simp; done) | (simp; omega)) (.cells #[.int .u8 (vk : Int), .int .i64 vn] 37)
  have hd := h.below hb1
  have HB := Lib.hid hb1
  clear h hb0 hb1
  show Calls Tryz.prog 26 #[p, .agg #[.int .u8 (vk : Int), .int .i64 vn]] w _
  go_enter Tryz.func26, Tryz.ntmps26
  go_wp2_with fail
  generalize hW : (w.alloc (.cells #[.int .u8 (vk : Int), .int .i64 vn] 37)) = w0 at *
  clear hW
  refine (made_dead p w0 hd).mono ?_
  rintro e w1 ⟨rfl, rfl⟩
  go_wp2_with fail
  go_ret
  exact ⟨rfl, by
    repeat first
      | exact HB.out
      | refine Below.drew ?_
      | refine below_drewN ?_ _
      | refine Below.setCell (p := ⟨_, _, none⟩) ?_ (by first | exact Nat.le_refl _ | exact Nat.le_succ _ | (simp; done) | (simp; omega)) _⟩
set_option maxRecDepth 100000 in
theorem dead_state {w : World} {p : Value} (v : Vl) (h : Dead w p) : Calls Tryz.prog 33 #[p, v.val] w (fun e w' => e = .returned (.pointer none) ∧ Below w.heap.size w w') := by
  obtain ⟨vk, vn⟩ := v
  have hb0 := Below.refl w.heap.size w
  have hb1 := hb0.alloc (by first | exact Nat.le_refl _ | (simp; done) | (simp; omega)) (.cells #[.int .u8 (vk : Int), .int .i64 vn] 37)
  have hd := h.below hb1
  have HB := Lib.hid hb1
  clear h hb0 hb1
  show Calls Tryz.prog 33 #[p, .agg #[.int .u8 (vk : Int), .int .i64 vn]] w _
  go_enter Tryz.func33, Tryz.ntmps33
  go_wp2_with fail
  generalize hW : (w.alloc (.cells #[.int .u8 (vk : Int), .int .i64 vn] 37)) = w0 at *
  clear hW
  refine (dead_find ⟨vk, vn⟩ 8 hd).mono ?_
  rintro e w1 ⟨rfl, b'⟩
  have HB := Lib.hid (HB.out.trans (b'.mono HB.out.size))
  clear b'
  go_wp2_with fail
  go_ret
  exact ⟨rfl, by
    repeat first
      | exact HB.out
      | refine Below.drew ?_
      | refine below_drewN ?_ _
      | refine Below.setCell (p := ⟨_, _, none⟩) ?_ (by first | exact Nat.le_refl _ | exact Nat.le_succ _ | (simp; done) | (simp; omega)) _⟩
set_option maxRecDepth 100000 in
theorem dead_has {w : World} {p : Value} (v : Vl) (h : Dead w p) : Calls Tryz.prog 46 #[p, v.val] w (fun e w' => e = .returned (.bool false) ∧ Below w.heap.size w w') := by
  obtain ⟨vk, vn⟩ := v
  have hb0 := Below.refl w.heap.size w
  have hb1 := hb0.alloc (by first | exact Nat.le_refl _ | (simp; done) | (simp; omega)) (.cells #[.int .u8 (vk : Int), .int .i64 vn] 37)
  have hd := h.below hb1
  have HB := Lib.hid hb1
  clear h hb0 hb1
  show Calls Tryz.prog 46 #[p, .agg #[.int .u8 (vk : Int), .int .i64 vn]] w _
  go_enter Tryz.func46, Tryz.ntmps46
  go_wp2_with fail
  generalize hW : (w.alloc (.cells #[.int .u8 (vk : Int), .int .i64 vn] 37)) = w0 at *
  clear hW
  refine (dead_at ⟨vk, vn⟩ hd).mono ?_
  rintro e w1 ⟨rfl, b'⟩
  have HB := Lib.hid (HB.out.trans (b'.mono HB.out.size))
  clear b'
  go_wp2_with fail
  go_ret
  exact ⟨rfl, by
    repeat first
      | exact HB.out
      | refine Below.drew ?_
      | refine below_drewN ?_ _
      | refine Below.setCell (p := ⟨_, _, none⟩) ?_ (by first | exact Nat.le_refl _ | exact Nat.le_succ _ | (simp; done) | (simp; omega)) _⟩
set_option maxRecDepth 100000 in
theorem dead_used {w : World} {p : Value} (h : Dead w p) : Calls Tryz.prog 38 #[p] w (fun e w' => e = .returned (.int .i64 0) ∧ Below w.heap.size w w') := by
  have hb0 := Below.refl w.heap.size w
  have hd := h.below hb0
  have HB := Lib.hid hb0
  clear h hb0
  show Calls Tryz.prog 38 #[p] w _
  go_enter Tryz.func38, Tryz.ntmps38
  go_wp2_with fail
  refine (made_dead p w hd).mono ?_
  rintro e w1 ⟨rfl, rfl⟩
  go_wp2_with fail
  go_ret
  exact ⟨rfl, by
    repeat first
      | exact HB.out
      | refine Below.drew ?_
      | refine below_drewN ?_ _
      | refine Below.setCell (p := ⟨_, _, none⟩) ?_ (by first | exact Nat.le_refl _ | exact Nat.le_succ _ | (simp; done) | (simp; omega)) _⟩
set_option maxRecDepth 100000 in
theorem dead_max {w : World} {p : Value} (h : Dead w p) : Calls Tryz.prog 42 #[p] w (fun e w' => e = .returned (.int .i64 0) ∧ Below w.heap.size w w') := by
  have hb0 := Below.refl w.heap.size w
  have hd := h.below hb0
  have HB := Lib.hid hb0
  clear h hb0
  show Calls Tryz.prog 42 #[p] w _
  go_enter Tryz.func42, Tryz.ntmps42
  go_wp2_with fail
  refine (made_dead p w hd).mono ?_
  rintro e w1 ⟨rfl, rfl⟩
  go_wp2_with fail
  go_ret
  exact ⟨rfl, by
    repeat first
      | exact HB.out
      | refine Below.drew ?_
      | refine below_drewN ?_ _
      | refine Below.setCell (p := ⟨_, _, none⟩) ?_ (by first | exact Nat.le_refl _ | exact Nat.le_succ _ | (simp; done) | (simp; omega)) _⟩
set_option maxRecDepth 100000 in
theorem dead_objects {w : World} {p : Value} (h : Dead w p) : Calls Tryz.prog 41 #[p] w (fun e w' => (∃ ao cap, e = .returned (.slice ao 0 cap)) ∧ Below w.heap.size w w') := by
  have hb0 := Below.refl w.heap.size w
  have hd := h.below hb0
  have HB := Lib.hid hb0
  clear h hb0
  show Calls Tryz.prog 41 #[p] w _
  go_enter Tryz.func41, Tryz.ntmps41
  go_wp2_with fail
  refine (made_dead p w hd).mono ?_
  rintro e w1 ⟨rfl, rfl⟩
  go_wp2_with fail
  go_ret
  exact ⟨⟨none, 0, rfl⟩, by
    repeat first
      | exact HB.out
      | refine Below.drew ?_
      | refine below_drewN ?_ _
      | refine Below.setCell (p := ⟨_, _, none⟩) ?_ (by first | exact Nat.le_refl _ | exact Nat.le_succ _ | (simp; done) | (simp; omega)) _⟩
set_option maxRecDepth 100000 in
theorem dead_kids {w : World} {p : Value} (v : Vl) (h : Dead w p) : Calls Tryz.prog 47 #[p, v.val] w (fun e w' => (∃ ao cap, e = .returned (.slice ao 0 cap)) ∧ Below w.heap.size w w') := by
  obtain ⟨vk, vn⟩ := v
  have hb0 := Below.refl w.heap.size w
  have hb1 := hb0.alloc (by first | exact Nat.le_refl _ | (simp; done) | (simp; omega)) (.cells #[.int .u8 (vk : Int), .int .i64 vn] 37)
  have hd := h.below hb1
  have HB := Lib.hid hb1
  clear h hb0 hb1
  show Calls Tryz.prog 47 #[p, .agg #[.int .u8 (vk : Int), .int .i64 vn]] w _
  go_enter Tryz.func47, Tryz.ntmps47
  go_wp2_with fail
  generalize hW : (w.alloc (.cells #[.int .u8 (vk : Int), .int .i64 vn] 37)) = w0 at *
  clear hW
  refine (dead_at ⟨vk, vn⟩ hd).mono ?_
  rintro e w1 ⟨rfl, b'⟩
  have HB := Lib.hid (HB.out.trans (b'.mono HB.out.size))
  clear b'
  go_wp2_with fail
  go_ret
  exact ⟨⟨none, 0, rfl⟩, by
    repeat first
      | exact HB.out
      | refine Below.drew ?_
      | refine below_drewN ?_ _
      | refine Below.setCell (p := ⟨_, _, none⟩) ?_ (by first | exact Nat.le_refl _ | exact Nat.le_succ _ | (simp; done) | (simp; omega)) _⟩
set_option maxRecDepth 100000 in
theorem dead_dirty {w : World} {p : Value} (h : Dead w p) : Calls Tryz.prog 31 #[p] w (fun e w' => (∃ ao cap, e = .returned (.slice ao 0 cap)) ∧ Below w.heap.size w w') := by
  have hb0 := Below.refl w.heap.size w
  have hd := h.below hb0
  have HB := Lib.hid hb0
  clear h hb0
  show Calls Tryz.prog 31 #[p] w _
  go_enter Tryz.func31, Tryz.ntmps31
  go_wp2_with fail
  refine (made_dead p w hd).mono ?_
  rintro e w1 ⟨rfl, rfl⟩
  go_wp2_with fail
  go_ret
  exact ⟨⟨none, 0, rfl⟩, by
    repeat first
      | exact HB.out
      | refine Below.drew ?_
      | refine below_drewN ?_ _
      | refine Below.setCell (p := ⟨_, _, none⟩) ?_ (by first | exact Nat.le_refl _ | exact Nat.le_succ _ | (simp; done) | (simp; omega)) _⟩
set_option maxRecDepth 100000 in
theorem dead_cells {w : World} {p : Value} (v : Vl) (h : Dead w p) : Calls Tryz.prog 48 #[p, v.val] w (fun e w' => (∃ ao cap, e = .returned (.slice ao 0 cap)) ∧ Below w.heap.size w w') := by
  obtain ⟨vk, vn⟩ := v
  have hb0 := Below.refl w.heap.size w
  have hb1 := hb0.alloc (by first | exact Nat.le_refl _ | (simp; done) | (simp; omega)) (.cells #[.int .u8 (vk : Int), .int .i64 vn] 37)
  have hd := h.below hb1
  have HB := Lib.hid hb1
  clear h hb0 hb1
  show Calls Tryz.prog 48 #[p, .agg #[.int .u8 (vk : Int), .int .i64 vn]] w _
  go_enter Tryz.func48, Tryz.ntmps48
  go_wp2_with fail
  generalize hW : (w.alloc (.cells #[.int .u8 (vk : Int), .int .i64 vn] 37)) = w0 at *
  clear hW
  refine (dead_find ⟨vk, vn⟩ 6 hd).mono ?_
  rintro e w1 ⟨rfl, b'⟩
  have HB := Lib.hid (HB.out.trans (b'.mono HB.out.size))
  clear b'
  go_wp2_with fail
  go_ret
  exact ⟨⟨none, 0, rfl⟩, by
    repeat first
      | exact HB.out
      | refine Below.drew ?_
      | refine below_drewN ?_ _
      | refine Below.setCell (p := ⟨_, _, none⟩) ?_ (by first | exact Nat.le_refl _ | exact Nat.le_succ _ | (simp; done) | (simp; omega)) _⟩
set_option maxRecDepth 100000 in
theorem dead_len {w : World} {p : Value} (v : Vl) (h : Dead w p) : Calls Tryz.prog 49 #[p, v.val] w (fun e w' => e = .returned (.int .i64 0) ∧ Below w.heap.size w w') := by
  obtain ⟨vk, vn⟩ := v
  have hb0 := Below.refl w.heap.size w
  have hb1 := hb0.alloc (by first | exact Nat.le_refl _ | (simp; done) | (simp; omega)) (.cells #[.int .u8 (vk : Int), .int .i64 vn] 37)
  have hd := h.below hb1
  have HB := Lib.hid hb1
  clear h hb0 hb1
  show Calls Tryz.prog 49 #[p, .agg #[.int .u8 (vk : Int), .int .i64 vn]] w _
  go_enter Tryz.func49, Tryz.ntmps49
  go_wp2_with fail
  generalize hW : (w.alloc (.cells #[.int .u8 (vk : Int), .int .i64 vn] 37)) = w0 at *
  clear hW
  refine (dead_find ⟨vk, vn⟩ 5 hd).mono ?_
  rintro e w1 ⟨rfl, b'⟩
  have HB := Lib.hid (HB.out.trans (b'.mono HB.out.size))
  clear b'
  go_wp2_with fail
  go_ret
  exact ⟨rfl, by
    repeat first
      | exact HB.out
      | refine Below.drew ?_
      | refine below_drewN ?_ _
      | refine Below.setCell (p := ⟨_, _, none⟩) ?_ (by first | exact Nat.le_refl _ | exact Nat.le_succ _ | (simp; done) | (simp; omega)) _⟩
set_option maxRecDepth 100000 in
theorem dead_serial {w : World} {p : Value} (v : Vl) (h : Dead w p) : Calls Tryz.prog 50 #[p, v.val] w (fun e w' => e = .returned (.int .i64 0) ∧ Below w.heap.size w w') := by
  obtain ⟨vk, vn⟩ := v
  have hb0 := Below.refl w.heap.size w
  have hb1 := hb0.alloc (by first | exact Nat.le_refl _ | (simp; done) | (simp; omega)) (.cells #[.int .u8 (vk : Int), .int .i64 vn] 37)
  have hd := h.below hb1
  have HB := Lib.hid hb1
  clear h hb0 hb1
  show Calls Tryz.prog 50 #[p, .agg #[.int .u8 (vk : Int), .int .i64 vn]] w _
  go_enter Tryz.func50, Tryz.ntmps50
  go_wp2_with fail
  generalize hW : (w.alloc (.cells #[.int .u8 (vk : Int), .int .i64 vn] 37)) = w0 at *
  clear hW
  refine (dead_at ⟨vk, vn⟩ hd).mono ?_
  rintro e w1 ⟨rfl, b'⟩
  have HB := Lib.hid (HB.out.trans (b'.mono HB.out.size))
  clear b'
  go_wp2_with fail
  go_ret
  exact ⟨rfl, by
    repeat first
      | exact HB.out
      | refine Below.drew ?_
      | refine below_drewN ?_ _
      | refine Below.setCell (p := ⟨_, _, none⟩) ?_ (by first | exact Nat.le_refl _ | exact Nat.le_succ _ | (simp; done) | (simp; omega)) _⟩
set_option maxRecDepth 100000 in
theorem dead_get {w : World} {p : Value} (v : Vl) (x : Vl) (h : Dead w p) : Calls Tryz.prog 51 #[p, v.val, x.val] w (fun e w' => e = .returned (.agg #[.int .u8 0, .int .i64 0]) ∧ Below w.heap.size w w') := by
  obtain ⟨vk, vn⟩ := v
  obtain ⟨xk, xn⟩ := x
  have hb0 := Below.refl w.heap.size w
  have hb1 := hb0.alloc (by first | exact Nat.le_refl _ | (simp; done) | (simp; omega)) (.cells #[.int .u8 (vk : Int), .int .i64 vn] 37)
  have hb2 := hb1.alloc (by first | exact Nat.le_refl _ | (simp; done) | (simp; omega)) (.cells #[.int .u8 (xk : Int), .int .i64 xn] 37)
  have hb3 := hb2.alloc (by first | exact Nat.le_refl _ | (simp; done) | (simp; omega)) (.cells #[.int .u8 0, .int .i64 0] 37)
  have hx0 : (((w.alloc (.cells #[.int .u8 (vk : Int), .int .i64 vn] 37)).alloc (.cells #[.int .u8 (xk : Int), .int .i64 xn] 37)).alloc (.cells #[.int .u8 0, .int .i64 0] 37)).heap[w.heap.size + 1 + 1]? = some (.cells #[.int .u8 0, .int .i64 0] 37) := by
    rw [show w.heap.size + 1 + 1 = ((w.alloc (.cells #[.int .u8 (vk : Int), .int .i64 vn] 37)).alloc (.cells #[.int .u8 (xk : Int), .int .i64 xn] 37)).heap.size from by simp]
    exact new_block _ _
  have HX0 := Lib.hid hx0
  have hd := h.below hb3
  have HB := Lib.hid hb3
  clear h hb0 hb1 hb2 hb3 hx0
  show Calls Tryz.prog 51 #[p, .agg #[.int .u8 (vk : Int), .int .i64 vn], .agg #[.int .u8 (xk : Int), .int .i64 xn]] w _
  go_enter Tryz.func51, Tryz.ntmps51
  go_wp2_with fail
  generalize hW : (((w.alloc (.cells #[.int .u8 (vk : Int), .int .i64 vn] 37)).alloc (.cells #[.int .u8 (xk : Int), .int .i64 xn] 37)).alloc (.cells #[.int .u8 0, .int .i64 0] 37)) = w0 at *
  clear hW
  refine (dead_find ⟨vk, vn⟩ 5 hd).mono ?_
  rintro e w1 ⟨rfl, b'⟩
  have hy0 := (b'.block _ (lt_of_get HX0.out)).trans HX0.out
  have HB := Lib.hid (HB.out.trans (b'.mono HB.out.size))
  clear b'
  have z0 := cell_of hy0 0 _ rfl
  have f0 := free_of hy0 0
  have z1 := cell_of hy0 1 _ rfl
  have f1 := free_of hy0 1
  clear hy0
  go_wp2_with fail
  refine bodyPost_ret (v := .agg #[.int .u8 0, .int .i64 0]) (by simp [results, Tryz.results51, go_sem, z0, z1]) rfl ?_
  exact ⟨rfl, by
    repeat first
      | exact HB.out
      | refine Below.drew ?_
      | refine below_drewN ?_ _
      | refine Below.setCell (p := ⟨_, _, none⟩) ?_ (by first | exact Nat.le_refl _ | exact Nat.le_succ _ | (simp; done) | (simp; omega)) _⟩
set_option maxRecDepth 100000 in
theorem dead_meta {w : World} {p : Value} (v : Vl) (h : Dead w p) : Calls Tryz.prog 52 #[p, v.val] w (fun e w' => e = .returned (.agg #[.int .u8 0, .int .i64 0]) ∧ Below w.heap.size w w') := by
  obtain ⟨vk, vn⟩ := v
  have hb0 := Below.refl w.heap.size w
  have hb1 := hb0.alloc (by first | exact Nat.le_refl _ | (simp; done) | (simp; omega)) (.cells #[.int .u8 (vk : Int), .int .i64 vn] 37)
  have hb2 := hb1.alloc (by first | exact Nat.le_refl _ | (simp; done) | (simp; omega)) (.cells #[.int .u8 0, .int .i64 0] 37)
  have hx0 : ((w.alloc (.cells #[.int .u8 (vk : Int), .int .i64 vn] 37)).alloc (.cells #[.int .u8 0, .int .i64 0] 37)).heap[w.heap.size + 1]? = some (.cells #[.int .u8 0, .int .i64 0] 37) := by
    rw [show w.heap.size + 1 = (w.alloc (.cells #[.int .u8 (vk : Int), .int .i64 vn] 37)).heap.size from by simp]
    exact new_block _ _
  have HX0 := Lib.hid hx0
  have hd := h.below hb2
  have HB := Lib.hid hb2
  clear h hb0 hb1 hb2 hx0
  show Calls Tryz.prog 52 #[p, .agg #[.int .u8 (vk : Int), .int .i64 vn]] w _
  go_enter Tryz.func52, Tryz.ntmps52
  go_wp2_with fail
  generalize hW : ((w.alloc (.cells #[.int .u8 (vk : Int), .int .i64 vn] 37)).alloc (.cells #[.int .u8 0, .int .i64 0] 37)) = w0 at *
  clear hW
  refine (dead_find ⟨vk, vn⟩ 5 hd).mono ?_
  rintro e w1 ⟨rfl, b'⟩
  have hy0 := (b'.block _ (lt_of_get HX0.out)).trans HX0.out
  have HB := Lib.hid (HB.out.trans (b'.mono HB.out.size))
  clear b'
  have z0 := cell_of hy0 0 _ rfl
  have f0 := free_of hy0 0
  have z1 := cell_of hy0 1 _ rfl
  have f1 := free_of hy0 1
  clear hy0
  go_wp2_with fail
  refine bodyPost_ret (v := .agg #[.int .u8 0, .int .i64 0]) (by simp [results, Tryz.results52, go_sem, z0, z1]) rfl ?_
  exact ⟨rfl, by
    repeat first
      | exact HB.out
      | refine Below.drew ?_
      | refine below_drewN ?_ _
      | refine Below.setCell (p := ⟨_, _, none⟩) ?_ (by first | exact Nat.le_refl _ | exact Nat.le_succ _ | (simp; done) | (simp; omega)) _⟩
set_option maxRecDepth 100000 in
theorem dead_load {w : World} {p : Value} (v : Vl) (h : Dead w p) : Calls Tryz.prog 53 #[p, v.val] w (fun e w' => e = .returned (.agg #[.int .u8 0, .int .i64 0]) ∧ Below w.heap.size w w') := by
  obtain ⟨vk, vn⟩ := v
  have hb0 := Below.refl w.heap.size w
  have hb1 := hb0.alloc (by first | exact Nat.le_refl _ | (simp; done) | (simp; omega)) (.cells #[.int .u8 (vk : Int), .int .i64 vn] 37)
  have hb2 := hb1.alloc (by first | exact Nat.le_refl _ | (simp; done) | (simp; omega)) (.cells #[.int .u8 0, .int .i64 0] 37)
  have hx0 : ((w.alloc (.cells #[.int .u8 (vk : Int), .int .i64 vn] 37)).alloc (.cells #[.int .u8 0, .int .i64 0] 37)).heap[w.heap.size + 1]? = some (.cells #[.int .u8 0, .int .i64 0] 37) := by
    rw [show w.heap.size + 1 = (w.alloc (.cells #[.int .u8 (vk : Int), .int .i64 vn] 37)).heap.size from by simp]
    exact new_block _ _
  have HX0 := Lib.hid hx0
  have hd := h.below hb2
  have HB := Lib.hid hb2
  clear h hb0 hb1 hb2 hx0
  show Calls Tryz.prog 53 #[p, .agg #[.int .u8 (vk : Int), .int .i64 vn]] w _
  go_enter Tryz.func53, Tryz.ntmps53
  go_wp2_with fail
  generalize hW : ((w.alloc (.cells #[.int .u8 (vk : Int), .int .i64 vn] 37)).alloc (.cells #[.int .u8 0, .int .i64 0] 37)) = w0 at *
  clear hW
  refine (dead_find ⟨vk, vn⟩ 9 hd).mono ?_
  rintro e w1 ⟨rfl, b'⟩
  have hy0 := (b'.block _ (lt_of_get HX0.out)).trans HX0.out
  have HB := Lib.hid (HB.out.trans (b'.mono HB.out.size))
  clear b'
  have z0 := cell_of hy0 0 _ rfl
  have f0 := free_of hy0 0
  have z1 := cell_of hy0 1 _ rfl
  have f1 := free_of hy0 1
  clear hy0
  go_wp2_with fail
  refine bodyPost_ret (v := .agg #[.int .u8 0, .int .i64 0]) (by simp [results, Tryz.results53, go_sem, z0, z1]) rfl ?_
  exact ⟨rfl, by
    repeat first
      | exact HB.out
      | refine Below.drew ?_
      | refine below_drewN ?_ _
      | refine Below.setCell (p := ⟨_, _, none⟩) ?_ (by first | exact Nat.le_refl _ | exact Nat.le_succ _ | (simp; done) | (simp; omega)) _⟩
set_option maxRecDepth 100000 in
theorem dead_func {w : World} {p : Value} (h : Dead w p) : Calls Tryz.prog 14 #[p, .int .i64 1, .slice none 0 0] w (fun e w' => e = .returned (.tuple #[.agg #[.int .u8 0, .int .i64 0], .int .i64 1]) ∧ Below w.heap.size w w') := by
  have hb0 := Below.refl w.heap.size w
  have hb1 := hb0.alloc (Nat.le_refl _) (.cells #[p] 23)
  have hb2 := hb1.alloc (by simp) (.cells #[.int .u8 0, .int .i64 0] 37)
  have hx0 : ((w.alloc (.cells #[p] 23)).alloc (.cells #[.int .u8 0, .int .i64 0] 37)).heap[w.heap.size]? = some (.cells #[p] 23) := by
    rw [heap_alloc_old _ _ (by simp)]
    exact new_block _ _
  have hx1 : ((w.alloc (.cells #[p] 23)).alloc (.cells #[.int .u8 0, .int .i64 0] 37)).heap[w.heap.size + 1]? = some (.cells #[.int .u8 0, .int .i64 0] 37) := by
    rw [show w.heap.size + 1 = (w.alloc (.cells #[p] 23)).heap.size from by simp]
    exact new_block _ _
  have hd := h.below hb2
  have y0 := cell_of hx0 0 _ rfl
  have g0 := free_of hx0 0
  have HX0 := Lib.hid hx0
  have HX1 := Lib.hid hx1
  have HB := Lib.hid hb2
  obtain ⟨o, rfl⟩ : ∃ o, p = .pointer o := by
    rcases h with h | ⟨b, h, _⟩
    · exact ⟨_, h⟩
    · exact ⟨_, h⟩
  clear h hb0 hb1 hb2 hx0 hx1
  go_enter Tryz.func14, Tryz.ntmps14
  go_wp2_with fail
  generalize hW : (w.alloc (.cells #[.pointer o] 23)).alloc (.cells #[.int .u8 0, .int .i64 0] 37) = w0 at *
  clear hW
  refine (made_dead (.pointer o) w0 hd).mono ?_
  rintro e w1 ⟨rfl, rfl⟩
  have hy0 := HX1.out
  have z0 := cell_of hy0 0 _ rfl
  have f0 := free_of hy0 0
  have z1 := cell_of hy0 1 _ rfl
  have f1 := free_of hy0 1
  clear hy0
  go_wp2_with fail
  refine bodyPost_ret (v := .tuple #[.agg #[.int .u8 0, .int .i64 0], .int .i64 1]) (by simp [results, Tryz.results14, go_sem, z0, z1]) rfl ?_
  exact ⟨rfl, by
    repeat first
      | exact HB.out
      | refine Below.drew ?_
      | refine below_drewN ?_ _
      | refine Below.setCell (p := ⟨_, _, none⟩) ?_ (by first | exact Nat.le_refl _ | exact Nat.le_succ _ | (simp; done) | (simp; omega)) _⟩
end Go.Proofs.YthejclgihhfenaaGreat.Hd
