/-
  Layer 12: what the developers' pool tells: left, used, count, size.
-/
import Derived.Test.YtpfhaafaoedgpaaPlDev
import Derived.Test.YtpfhaafaoedgpaaPlRefC
namespace Go.Proofs.Ytpfhaafaoedgpaa.Pl
open Go Go.RowKit

section
variable {w : World} {b : Nat} {m : Int} {l : Ob} {vs vf : Value} {fr : List Int}
theorem PAt.drew (h : PAt w b m l vs vf fr) : PAt w.drew b m l vs vf fr := h.turns (G := []) (Turns.of_below (drew_below w)) (fun h => absurd h (List.not_mem_nil)) (fun _ _ h => absurd h (List.not_mem_nil)) (fun _ _ h => absurd h (List.not_mem_nil))
theorem PAt.used (h : PAt w b m l vs vf fr) : 0 ≤ usedL l ∧ usedL l ≤ m ∧ m ≤ 1073741824 := ⟨used_pos l h.ok.pos, h.ok.sum, h.ok.top.2⟩
theorem szs_at {l : Ob} {k : Nat} (h : k < l.length) : gt (szsL l) k = (l[k]).getD (-1) := by
  unfold gt
  rw [List.getD_eq_getElem?_getD, szs_get l k l[k] (List.getElem?_eq_getElem h)]
  rfl
theorem left_fn (h : PAt w b m l vs vf fr) : Calls Try.prog 27 #[.pointer (some ⟨b, 0, none⟩)] w (fun e w' => e = .returned (.int .i64 (m - usedL l)) ∧ w' = w.drew) := by
  have x1 := cell_of h.cells 1 _ rfl
  have x2 := cell_of h.cells 2 _ rfl
  obtain ⟨u1, u2, u3⟩ := h.used
  generalize usedL l = U at *
  clear h
  have e0 := IntWalk.i64_in (m - U) (by omega)
  go_enter Try.func27, Try.ntmps27
  go_upto_region 1 with fail
  go_region_held3 (fun w' => w'.cell? ⟨b, 1, none⟩ = some (.int .i64 m) ∧ w'.cell? ⟨b, 2, none⟩ = some (.int .i64 U))
    (go_keep)
    (fail)
  go_wp2_with fail
  go_ret
  exact ⟨rfl, rfl⟩
theorem used_fn' (h : PAt w b m l vs vf fr) : Calls Try.prog 14 #[.pointer (some ⟨b, 0, none⟩)] w (fun e w' => e = .returned (.int .i64 (usedL l)) ∧ Below w.heap.size w w') := by
  have x0 := cell_of h.cells 0 _ rfl
  have x2 := cell_of h.cells 2 _ rfl
  generalize usedL l = U at *
  clear h
  go_enter Try.func14, Try.ntmps14
  go_wp2_with fail
  refine (made_fn b w x0).mono ?_
  rintro e w1 ⟨rfl, rfl⟩
  go_wp2_with fail
  go_ret
  exact ⟨rfl, Below.refl _ _⟩
theorem count_fn (h : PAt w b m l vs vf fr) : Calls Try.prog 13 #[.pointer (some ⟨b, 0, none⟩)] w (fun e w' => e = .returned (.int .i64 (cntL l)) ∧ w' = w.drew) := by
  have hc := h.cnt
  have hl := h.len
  obtain ⟨aS, cS, rfl, _, _⟩ := row_len h.sizes
  obtain ⟨aF, cF, rfl, _, _⟩ := row_len h.free
  have x0 := cell_of h.cells 0 _ rfl
  have x3 := cell_of h.cells 3 _ rfl
  have x4 := cell_of h.cells 4 _ rfl
  rw [szs_len] at x3
  clear h
  have e1 : (l.length : Int) - fr.length = cntL l := by omega
  have e0 := IntWalk.i64_in ((l.length : Int) - fr.length) (by omega)
  generalize cntL l = c at *
  generalize l.length = n at *
  generalize fr.length = f at *
  generalize usedL l = U at *
  go_enter Try.func13, Try.ntmps13
  go_wp2_with fail
  refine (made_fn b w x0).mono ?_
  rintro e w1 ⟨rfl, rfl⟩
  go_upto_region 3 with fail
  go_region_held3 (fun w' => w'.cell? ⟨b, 3, none⟩ = some (.slice aS n cS) ∧ w'.cell? ⟨b, 4, none⟩ = some (.slice aF f cF))
    (go_keep)
    (fail)
  go_wp2_with fail
  go_ret
  exact ⟨ret_int (IntWalk.i64_in _ (by omega)), rfl⟩
set_option maxHeartbeats 1000000 in
theorem size_fn' (id : Int) (hid : In64 id) (h : PAt w b m l vs vf fr) : Calls Try.prog 12 #[.pointer (some ⟨b, 0, none⟩), .int .i64 id] w (fun e w' => e = .returned (.tuple #[.int .i64 (sizeL l id).1, .bool (sizeL l id).2]) ∧ Below w.heap.size w w') := by
  obtain ⟨i1, i2⟩ := hid
  have hl := h.len
  have x0 := cell_of h.cells 0 _ rfl
  have HP := Lib.hid h.ok.pos
  have HS := Lib.hid h.sizes
  obtain ⟨aS, cS, hv, _, _⟩ := row_len h.sizes
  rw [szs_len] at hv
  subst hv
  have x3 := cell_of h.cells 3 _ rfl
  clear h
  have HZ := Lib.hid (show sizeL l id = match obAt l id with | none => (0, false) | some o => (o, true) from rfl)
  by_cases h1 : id < 1
  · have ho : obAt l id = none := by unfold obAt; rw [if_neg (by omega)]
    have HZ2 := Lib.hid (show sizeL l id = (0, false) by rw [HZ.out, ho])
    generalize sizeL l id = Z at *
    go_enter Try.func12, Try.ntmps12
    go_wp2_with fail
    refine (made_fn b w x0).mono ?_
    rintro e w1 ⟨rfl, rfl⟩
    go_wp2_with fail
    go_ret2
    exact ⟨ret_ib (by rw [HZ2.out]) (by rw [HZ2.out]), Below.refl _ _⟩
  by_cases h2 : (l.length : Int) < id
  · have ho : obAt l id = none := by unfold obAt; rw [if_pos (by omega), List.getElem?_eq_none (by omega)]; rfl
    have HZ2 := Lib.hid (show sizeL l id = (0, false) by rw [HZ.out, ho])
    generalize sizeL l id = Z at *
    generalize l.length = n at *
    go_enter Try.func12, Try.ntmps12
    go_wp2_with fail
    refine (made_fn b w x0).mono ?_
    rintro e w1 ⟨rfl, rfl⟩
    go_wp2_with fail
    go_ret2
    exact ⟨ret_ib (by rw [HZ2.out]) (by rw [HZ2.out]), Below.refl _ _⟩
  obtain ⟨k, hk⟩ : ∃ k : Nat, id - 1 = (k : Int) := ⟨(id - 1).toNat, by omega⟩
  have hkl : k < l.length := by omega
  have hob : obAt l id = l[k] := by
    unfold obAt
    rw [if_pos (by omega), hk, Int.toNat_natCast, List.getElem?_eq_getElem hkl]
    rfl
  obtain ⟨g, cap, e1, _, _, _, hx, _⟩ := row_item HS.out k (by rw [szs_len]; exact hkl)
  injection e1 with e11 e12 e13
  subst e11
  subst e13
  rw [szs_at hkl] at hx
  have hk' : (k : Int) < l.length := by omega
  have e0 : IntKind.i64.wrap (id - 1) = (k : Int) := by rw [← hk]; exact IntWalk.i64_in _ (by omega)
  clear e12
  cases hlk : l[k] with
  | none =>
    have HZ2 := Lib.hid (show sizeL l id = (0, false) by rw [HZ.out, hob, hlk])
    rw [hlk] at hx
    have hx : w.cell? ⟨g, k, none⟩ = some (.int .i64 (-1)) := hx
    clear hlk hob hk
    generalize sizeL l id = Z at *
    generalize l.length = n at *
    go_enter Try.func12, Try.ntmps12
    go_wp2_with fail
    refine (made_fn b w x0).mono ?_
    rintro e w1 ⟨rfl, rfl⟩
    go_wp2_with fail
    go_ret2
    exact ⟨ret_ib (by rw [HZ2.out]) (by rw [HZ2.out]), Below.refl _ _⟩
  | some s =>
    have HZ2 := Lib.hid (show sizeL l id = (s, true) by rw [HZ.out, hob, hlk])
    have hs := HP.out s (by rw [← hlk]; exact List.getElem_mem hkl)
    rw [hlk] at hx
    have hx : w.cell? ⟨g, k, none⟩ = some (.int .i64 s) := hx
    have hs2 : (s == -1) = false := by rw [beq_eq_false_iff_ne]; omega
    clear hlk hob hk
    generalize sizeL l id = Z at *
    generalize l.length = n at *
    go_enter Try.func12, Try.ntmps12
    go_wp2_with fail
    refine (made_fn b w x0).mono ?_
    rintro e w1 ⟨rfl, rfl⟩
    go_wp2_with fail
    go_ret2
    exact ⟨ret_ib (by rw [HZ2.out]) (by rw [HZ2.out]), Below.refl _ _⟩
end
end Go.Proofs.Ytpfhaafaoedgpaa.Pl
