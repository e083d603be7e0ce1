/-
  Layer 13: the developers' table: Get, Len, Count, New.
-/
import Derived.Test.YtlpbciclkagnbaaTdGet
namespace Go.Proofs.Ytlpbciclkagnbaa.Td
open Go Go.RowKit Go.Proofs.Ytlpbciclkagnbaa.Pl Go.Proofs.Ytlpbciclkagnbaa.Tb

theorem find_cons (p : Plc) (l : List Plc) (k : Vl) : findP (p :: l) k = if p.k = k then some p.b else findP l k := by
  unfold findP
  rw [List.find?_cons]
  by_cases h : p.k = k
  · rw [decide_eq_true h, if_pos h]; rfl
  · rw [decide_eq_false h, if_neg h]
theorem has_cons (p : Vl × Vl) (t : Tbl) (k : Vl) : hasT (p :: t) k = (decide (p.1 = k) || hasT t k) := by unfold hasT; rw [List.any_cons]
theorem find_cases : ∀ (l : List Plc) (k : Vl), (findP l k = none ∧ hasT (tblOf l) k = false ∧ getT (tblOf l) k = nilV ∧ ∀ p ∈ l, p.k ≠ k) ∨ ∃ p ∈ l, p.k = k ∧ findP l k = some p.b ∧ hasT (tblOf l) k = true ∧ getT (tblOf l) k = p.v
  | [], k => .inl ⟨rfl, rfl, rfl, fun _ h => absurd h (List.not_mem_nil)⟩
  | p :: l, k => by
    show (findP (p :: l) k = none ∧ hasT (pv p :: tblOf l) k = false ∧ getT (pv p :: tblOf l) k = nilV ∧ _) ∨ ∃ q ∈ p :: l, q.k = k ∧ findP (p :: l) k = some q.b ∧ hasT (pv p :: tblOf l) k = true ∧ getT (pv p :: tblOf l) k = q.v
    rw [find_cons, has_cons, get_cons]
    by_cases h : p.k = k
    · exact .inr ⟨p, List.mem_cons_self .., h, by rw [if_pos h], by rw [show decide ((pv p).1 = k) = true from decide_eq_true h]; rfl, by rw [if_pos (show (pv p).1 = k from h)]; rfl⟩
    · rw [if_neg h, if_neg (show ¬ (pv p).1 = k from h), show decide ((pv p).1 = k) = false from decide_eq_false h, Bool.false_or]
      rcases find_cases l k with ⟨h1, h2, h3, h4⟩ | ⟨q, hq, h1, h2, h3, h4⟩
      · exact .inl ⟨h1, h2, h3, fun r hr => by
          rcases List.mem_cons.1 hr with rfl | hr
          · exact h
          · exact h4 r hr⟩
      · exact .inr ⟨q, List.mem_cons_of_mem _ hq, h1, h2, h3, h4⟩
section
variable {w w' : World} {b mb : Nat} {l : List Plc} {lv ln : Int} {G : List Nat}
theorem TM.below (h : TM w b mb l lv ln) (hb : Below w.heap.size w w') : TM w' b mb l lv ln :=
  h.turns (G := []) (Turns.of_below hb) (List.not_mem_nil) (List.not_mem_nil) (fun _ _ => List.not_mem_nil)
set_option maxRecDepth 100000 in
theorem get_fn' (h : TM w b mb l lv ln) (k : Vl) (hk : k.In) :
    Calls Try.prog 9 #[.pointer (some ⟨b, 0, none⟩), k.val] w (fun e w' => e = .returned (getT (tblOf l) k).val ∧ Below w.heap.size w w') := by
  obtain ⟨M, hM, hp⟩ := h.map
  have hwa := ((Below.refl w.heap.size w).alloc (Nat.le_refl _) (.cells #[.int .u8 (k.kind : Int), .int .i64 k.n] 24)).alloc (by simp) (.cells #[.int .u8 0, .int .i64 0] 24)
  have hM1 := (hwa.block mb h.mapLt).trans hM
  have lk : ∀ w' : World, w'.heap[mb]? = some M → _ := fun w' hw' => hp.look_ok (w := w') hw' k hk
  have h1 := h.below hwa
  have hs := h1.head.self
  have hm := h1.head.map
  have HW := Lib.hid hwa
  have hx0 := (Below.heap_alloc (w.alloc (.cells #[.int .u8 (k.kind : Int), .int .i64 k.n] 24)) (.cells #[.int .u8 0, .int .i64 0] 24) _ (by simp)).trans (new_block w (.cells #[.int .u8 (k.kind : Int), .int .i64 k.n] 24))
  have y0 := cell_of hx0 0 _ rfl
  have y1 := cell_of hx0 1 _ rfl
  have hx1 := new_block (w.alloc (.cells #[.int .u8 (k.kind : Int), .int .i64 k.n] 24)) (.cells #[.int .u8 0, .int .i64 0] 24)
  rw [show (w.alloc (.cells #[.int .u8 (k.kind : Int), .int .i64 k.n] 24)).heap.size = w.heap.size + 1 from by simp] at hx1
  have z0 := cell_of hx1 0 _ rfl
  have z1 := cell_of hx1 1 _ rfl
  have f0 := free_of hx1 0
  have f1 := free_of hx1 1
  obtain ⟨β, hβ⟩ : ∃ β, w.heap.size = β := ⟨_, rfl⟩
  have HBE := Lib.hid hβ
  rcases find_cases l k with ⟨f1, _, f3, _⟩ | ⟨p, hp1, hpk, f1, _, f3⟩
  · rw [f1] at lk
    rw [f3]
    unfold ptrP mapT at lk
    unfold Vl.val Vl.cells nilV at *
    clear hM hx0 hx1 h hp hwa h1 hk f1 f3
    obtain ⟨kk, kn⟩ := k
    dsimp only at *
    go_enter Try.func9, Try.ntmps9
    go_wp2_with fail
    generalize hW : (w.alloc (.cells #[.int .u8 (kk : Int), .int .i64 kn] 24)).alloc (.cells #[.int .u8 0, .int .i64 0] 24) = w0 at *
    rw [hβ] at y0 y1 z0 z1 f0 f1
    clear hW hβ
    refine (made_fn b _ hs).mono ?_
    rintro e w1 ⟨rfl, rfl⟩
    go_wp2_with fail
    have hMd : w1.drew.heap[mb]? = some M := hM1
    go_region_held3 (fun w' => w'.cell? ⟨b, 1, none⟩ = some (.map (some mb)) ∧ w'.cell? ⟨β, 0, none⟩ = some (.int .u8 (kk : Int)) ∧ w'.cell? ⟨β, 1, none⟩ = some (.int .i64 kn) ∧ w'.heap[mb]? = some M)
      (go_keep)
      (fail)
    go_wp2_with fail
    refine bodyPost_ret (v := .agg #[.int .u8 0, .int .i64 0]) (by simp [results, Try.results9, go_sem, z0, z1]) rfl ?_
    have hle : w.heap.size ≤ β + 1 := by have := HBE.out; omega
    exact ⟨rfl, ((HW.out.setCell (p := ⟨β + 1, 0, none⟩) hle _).setCell (p := ⟨β + 1, 1, none⟩) hle _).drew⟩
  · rw [f1] at lk
    rw [f3]
    unfold ptrP mapT at lk
    have hn := h1.nodes p hp1
    have hpb := Lib.hid (show p.b ≠ w.heap.size + 1 from fun e => by have := (h.nodes p hp1).shape.lt; omega)
    unfold Vl.val Vl.cells at *
    clear hM hx0 hx1 h hp hwa h1 f1 f3
    have q0 := hn.v0
    have q1 := hn.v1
    have HI := Lib.hid hk
    clear hn hk hpk hp1
    generalize p.b = g at *
    generalize p.v = pu at *
    obtain ⟨pk, pn⟩ := pu
    obtain ⟨kk, kn⟩ := k
    dsimp only at *
    go_enter Try.func9, Try.ntmps9
    go_wp2_with fail
    generalize hW : (w.alloc (.cells #[.int .u8 (kk : Int), .int .i64 kn] 24)).alloc (.cells #[.int .u8 0, .int .i64 0] 24) = w0 at *
    rw [hβ] at y0 y1 z0 z1 f0 f1 hpb
    clear hW hβ
    refine (made_fn b _ hs).mono ?_
    rintro e w1 ⟨rfl, rfl⟩
    go_wp2_with fail
    have hMd : w1.drew.heap[mb]? = some M := hM1
    go_region_held3 (fun w' => w'.cell? ⟨b, 1, none⟩ = some (.map (some mb)) ∧ w'.cell? ⟨β, 0, none⟩ = some (.int .u8 (kk : Int)) ∧ w'.cell? ⟨β, 1, none⟩ = some (.int .i64 kn) ∧ w'.heap[mb]? = some M)
      (go_keep)
      (fail)
    go_wp2_with fail
    refine bodyPost_ret (v := .agg #[.int .u8 (pk : Int), .int .i64 pn]) (by simp [results, Try.results9, go_sem, z0, z1]) rfl ?_
    have hle : w.heap.size ≤ β + 1 := by have := HBE.out; omega
    exact ⟨rfl, ((HW.out.setCell (p := ⟨β + 1, 0, none⟩) hle _).setCell (p := ⟨β + 1, 1, none⟩) hle _).drew⟩
theorem len_fn' (h : TM w b mb l lv ln) :
    Calls Try.prog 10 #[.pointer (some ⟨b, 0, none⟩)] w (fun e w' => e = .returned (.int .i64 ln) ∧ w' = w) := by
  have hs := h.head.self
  have hl := h.head.len
  clear h
  go_enter Try.func10, Try.ntmps10
  go_wp2_with fail
  refine (made_fn b _ hs).mono ?_
  rintro e w1 ⟨rfl, rfl⟩
  go_wp2_with fail
  go_ret
  exact ⟨rfl, rfl⟩
theorem count_fn' (h : TM w b mb l lv ln) :
    Calls Try.prog 11 #[.pointer (some ⟨b, 0, none⟩)] w (fun e w' => e = .returned (.int .i64 lv) ∧ w' = w) := by
  have hs := h.head.self
  have hl := h.head.live
  clear h
  go_enter Try.func11, Try.ntmps11
  go_wp2_with fail
  refine (made_fn b _ hs).mono ?_
  rintro e w1 ⟨rfl, rfl⟩
  go_wp2_with fail
  go_ret
  exact ⟨rfl, rfl⟩
end
end Go.Proofs.Ytlpbciclkagnbaa.Td
