import Derived.Test.YthejclgihhfenaaGreatCm17
import Derived.Deep.CutBlock
import Derived.Deep.DeepCutAuto
import Derived.StillTailTactics
/-
  Layer 12: the document's pool: a new one; an object more.
-/
namespace Go.Proofs.YthejclgihhfenaaGreat.Pl
open Go Go.RowKit

theorem ret_ae {a b : Value} {c d : Int} (h : a = b) (h' : c = d) : Ending.returned (.tuple #[a, .int .i64 c]) = .returned (.tuple #[b, .int .i64 d]) := by rw [h, h']
theorem ret_aie {a b : Value} {c d e f : Int} (h : a = b) (h' : c = d) (h2 : e = f) : Ending.returned (.tuple #[a, .int .i64 c, .int .i64 e]) = .returned (.tuple #[b, .int .i64 d, .int .i64 f]) := by rw [h, h', h2]
theorem oneInts (l : List Int) : ∀ u ∈ ints l, u.oneCell' = true := by
  intro u hu
  obtain ⟨x, _, rfl⟩ := List.mem_map.1 hu
  rfl

def badBound (b : Int) : Bool := decide (b < 0) || decide (1073741824 < b)
def NewPost (b : Int) (w : World) (e : Ending) (w' : World) : Prop :=
  e = .returned (.tuple #[.agg #[.int .i64 (if badBound b then 0 else b), .slice none 0 0, .slice none 0 0], .int .i64 (if badBound b then 2 else 0)]) ∧ Below w.heap.size w w'
theorem ret_new {a b c d : Int} (h : a = b) (h' : c = d) : Ending.returned (.tuple #[.agg #[.int .i64 a, .slice none 0 0, .slice none 0 0], .int .i64 c]) = .returned (.tuple #[.agg #[.int .i64 b, .slice none 0 0, .slice none 0 0], .int .i64 d]) := by rw [h, h']
end Go.Proofs.YthejclgihhfenaaGreat.Pl

/-
  Layer 12: what the developers' pool tells: left, used, count, size.
-/
namespace Go.Proofs.YthejclgihhfenaaGreat.Pl
open Go Go.RowKit

section
variable {w : World} {b : Nat} {m : Int} {l : Ob} {vs vf : Value} {fr : List Int}
theorem PAt.drew (h : PAt w b m l vs vf fr) : PAt w.drew b m l vs vf fr := h.turns (G := []) (Turns.of_below (drew_below w)) (fun h => absurd h (List.not_mem_nil)) (fun _ _ h => absurd h (List.not_mem_nil)) (fun _ _ h => absurd h (List.not_mem_nil))
theorem PAt.used (h : PAt w b m l vs vf fr) : 0 ≤ usedL l ∧ usedL l ≤ m ∧ m ≤ 1073741824 := ⟨used_pos l h.ok.pos, h.ok.sum, h.ok.top.2⟩
theorem szs_at {l : Ob} {k : Nat} (h : k < l.length) : gt (szsL l) k = (l[k]).getD (-1) := by
  unfold gt
  rw [List.getD_eq_getElem?_getD, szs_get l k l[k] (List.getElem?_eq_getElem h)]
  rfl
theorem left_fn (h : PAt w b m l vs vf fr) : Calls Tryz.prog 108 #[.pointer (some ⟨b, 0, none⟩)] w (fun e w' => e = .returned (.int .i64 (m - usedL l)) ∧ w' = w.drew) := by
  have x1 := cell_of h.cells 1 _ rfl
  have x2 := cell_of h.cells 2 _ rfl
  obtain ⟨u1, u2, u3⟩ := h.used
  generalize usedL l = U at *
  clear h
  have e0 := IntWalk.i64_in (m - U) (by omega)
  go_enter Tryz.func108, Tryz.ntmps108
  go_upto_region 1 with fail
  go_region_held3 (fun w' => w'.cell? ⟨b, 1, none⟩ = some (.int .i64 m) ∧ w'.cell? ⟨b, 2, none⟩ = some (.int .i64 U))
    (go_keep)
    (fail)
  go_wp2_with fail
  go_ret
  exact ⟨rfl, rfl⟩
theorem used_fn' (h : PAt w b m l vs vf fr) : Calls Tryz.prog 82 #[.pointer (some ⟨b, 0, none⟩)] w (fun e w' => e = .returned (.int .i64 (usedL l)) ∧ Below w.heap.size w w') := by
  have x0 := cell_of h.cells 0 _ rfl
  have x2 := cell_of h.cells 2 _ rfl
  generalize usedL l = U at *
  clear h
  go_enter Tryz.func82, Tryz.ntmps82
  go_wp2_with fail
  refine (made_fn b w x0).mono ?_
  rintro e w1 ⟨rfl, rfl⟩
  go_wp2_with fail
  go_ret
  exact ⟨rfl, Below.refl _ _⟩
theorem count_fn (h : PAt w b m l vs vf fr) : Calls Tryz.prog 88 #[.pointer (some ⟨b, 0, none⟩)] w (fun e w' => e = .returned (.int .i64 (cntL l)) ∧ w' = w.drew) := by
  have hc := h.cnt
  have hl := h.len
  obtain ⟨aS, cS, rfl, _, _⟩ := row_len h.sizes
  obtain ⟨aF, cF, rfl, _, _⟩ := row_len h.free
  have x0 := cell_of h.cells 0 _ rfl
  have x3 := cell_of h.cells 3 _ rfl
  have x4 := cell_of h.cells 4 _ rfl
  rw [szs_len] at x3
  clear h
  have e1 : (l.length : Int) - fr.length = cntL l := by omega
  have e0 := IntWalk.i64_in ((l.length : Int) - fr.length) (by omega)
  generalize cntL l = c at *
  generalize l.length = n at *
  generalize fr.length = f at *
  generalize usedL l = U at *
  go_enter Tryz.func88, Tryz.ntmps88
  go_wp2_with fail
  refine (made_fn b w x0).mono ?_
  rintro e w1 ⟨rfl, rfl⟩
  go_upto_region 3 with fail
  go_region_held3 (fun w' => w'.cell? ⟨b, 3, none⟩ = some (.slice aS n cS) ∧ w'.cell? ⟨b, 4, none⟩ = some (.slice aF f cF))
    (go_keep)
    (fail)
  go_wp2_with fail
  go_ret
  exact ⟨ret_int (IntWalk.i64_in _ (by omega)), rfl⟩
set_option maxHeartbeats 1000000 in
theorem size_fn' (id : Int) (hid : In64 id) (h : PAt w b m l vs vf fr) : Calls Tryz.prog 107 #[.pointer (some ⟨b, 0, none⟩), .int .i64 id] w (fun e w' => e = .returned (.tuple #[.int .i64 (sizeL l id).1, .bool (sizeL l id).2]) ∧ Below w.heap.size w w') := by
  obtain ⟨i1, i2⟩ := hid
  have hl := h.len
  have x0 := cell_of h.cells 0 _ rfl
  have HP := Lib.hid h.ok.pos
  have HS := Lib.hid h.sizes
  obtain ⟨aS, cS, hv, _, _⟩ := row_len h.sizes
  rw [szs_len] at hv
  subst hv
  have x3 := cell_of h.cells 3 _ rfl
  clear h
  have HZ := Lib.hid (show sizeL l id = match obAt l id with | none => (0, false) | some o => (o, true) from rfl)
  by_cases h1 : id < 1
  · have ho : obAt l id = none := by unfold obAt; rw [if_neg (by omega)]
    have HZ2 := Lib.hid (show sizeL l id = (0, false) by rw [HZ.out, ho])
    generalize sizeL l id = Z at *
    go_enter Tryz.func107, Tryz.ntmps107
    go_wp2_with fail
    refine (made_fn b w x0).mono ?_
    rintro e w1 ⟨rfl, rfl⟩
    go_wp2_with fail
    go_ret2
    exact ⟨ret_ib (by rw [HZ2.out]) (by rw [HZ2.out]), Below.refl _ _⟩
  by_cases h2 : (l.length : Int) < id
  · have ho : obAt l id = none := by unfold obAt; rw [if_pos (by omega), List.getElem?_eq_none (by omega)]; rfl
    have HZ2 := Lib.hid (show sizeL l id = (0, false) by rw [HZ.out, ho])
    generalize sizeL l id = Z at *
    generalize l.length = n at *
    go_enter Tryz.func107, Tryz.ntmps107
    go_wp2_with fail
    refine (made_fn b w x0).mono ?_
    rintro e w1 ⟨rfl, rfl⟩
    go_wp2_with fail
    go_ret2
    exact ⟨ret_ib (by rw [HZ2.out]) (by rw [HZ2.out]), Below.refl _ _⟩
  obtain ⟨k, hk⟩ : ∃ k : Nat, id - 1 = (k : Int) := ⟨(id - 1).toNat, by omega⟩
  have hkl : k < l.length := by omega
  have hob : obAt l id = l[k] := by
    unfold obAt
    rw [if_pos (by omega), hk, Int.toNat_natCast, List.getElem?_eq_getElem hkl]
    rfl
  obtain ⟨g, cap, e1, _, _, _, hx, _⟩ := row_item HS.out k (by rw [szs_len]; exact hkl)
  injection e1 with e11 e12 e13
  subst e11
  subst e13
  rw [szs_at hkl] at hx
  have hk' : (k : Int) < l.length := by omega
  have e0 : IntKind.i64.wrap (id - 1) = (k : Int) := by rw [← hk]; exact IntWalk.i64_in _ (by omega)
  clear e12
  cases hlk : l[k] with
  | none =>
    have HZ2 := Lib.hid (show sizeL l id = (0, false) by rw [HZ.out, hob, hlk])
    rw [hlk] at hx
    have hx : w.cell? ⟨g, k, none⟩ = some (.int .i64 (-1)) := hx
    clear hlk hob hk
    generalize sizeL l id = Z at *
    generalize l.length = n at *
    go_enter Tryz.func107, Tryz.ntmps107
    go_wp2_with fail
    refine (made_fn b w x0).mono ?_
    rintro e w1 ⟨rfl, rfl⟩
    go_wp2_with fail
    go_ret2
    exact ⟨ret_ib (by rw [HZ2.out]) (by rw [HZ2.out]), Below.refl _ _⟩
  | some s =>
    have HZ2 := Lib.hid (show sizeL l id = (s, true) by rw [HZ.out, hob, hlk])
    have hs := HP.out s (by rw [← hlk]; exact List.getElem_mem hkl)
    rw [hlk] at hx
    have hx : w.cell? ⟨g, k, none⟩ = some (.int .i64 s) := hx
    have hs2 : (s == -1) = false := by rw [beq_eq_false_iff_ne]; omega
    clear hlk hob hk
    generalize sizeL l id = Z at *
    generalize l.length = n at *
    go_enter Tryz.func107, Tryz.ntmps107
    go_wp2_with fail
    refine (made_fn b w x0).mono ?_
    rintro e w1 ⟨rfl, rfl⟩
    go_wp2_with fail
    go_ret2
    exact ⟨ret_ib (by rw [HZ2.out]) (by rw [HZ2.out]), Below.refl _ _⟩
end
end Go.Proofs.YthejclgihhfenaaGreat.Pl

/-
  Layer 12: the developers' pool: a new one.
-/
namespace Go.Proofs.YthejclgihhfenaaGreat.Pl
open Go Go.RowKit

theorem own_mem {v : Value} {k : Nat} : k ∈ own v ↔ v.ownBlock = some k := by
  unfold own
  cases v.ownBlock <;> simp [eq_comm]
theorem PAt.pa {w : World} {b : Nat} {m : Int} {l : Ob} {vs vf : Value} {fr : List Int} (h : PAt w b m l vs vf fr) : PA w b m l (b :: (own vs ++ own vf)) := by
  refine ⟨vs, vf, fr, h, List.mem_cons_self .., fun k hk => List.mem_cons_of_mem _ (List.mem_append_left _ (own_mem.2 hk)), fun k hk => List.mem_cons_of_mem _ (List.mem_append_right _ (own_mem.2 hk)), fun k hk => ?_⟩
  rcases List.mem_cons.1 hk with e | hk
  · rw [e]; exact lt_of_get h.cells
  · rcases List.mem_append.1 hk with hk | hk
    · exact (h.sizes.lt k (own_mem.1 hk)).2
    · exact (h.free.lt k (own_mem.1 hk)).2
theorem new_no (m : Int) (w : World) (_ : In64 m) (hm : m < 0 ∨ 1073741824 < m) : Calls Tryz.prog 54 #[.int .i64 m] w (fun e w' => e = .returned (.tuple #[.pointer none, .int .i64 2]) ∧ Below w.heap.size w w') := by
  by_cases h1 : m < 0
  · go_enter Tryz.func54, Tryz.ntmps54
    go_wp2_with fail
    go_ret2
    exact ⟨rfl, Below.refl _ _⟩
  · have h2 : 1073741824 < m := by omega
    clear hm
    go_enter Tryz.func54, Tryz.ntmps54
    go_wp2_with fail
    go_ret2
    exact ⟨rfl, Below.refl _ _⟩
theorem pat_new (m : Int) (h0 : 0 ≤ m) (h1 : m ≤ 1073741824) (w : World) (b : Nat) (hb : w.heap[b]? = some (.cells #[.pointer (some ⟨b, 0, none⟩), .int .i64 m, .int .i64 0, .slice none 0 0, .slice none 0 0] 134 (0, 0))) : PAt w b m [] (.slice none 0 0) (.slice none 0 0) [] where
  cells := hb
  sizes := World.ownsRow_nil _ _ _ _
  free := World.ownsRow_nil _ _ _ _
  apart := .inl rfl
  heap := heap_nil
  perm := List.Perm.refl _
  ok := ⟨fun _ h => absurd h (List.not_mem_nil), h0, ⟨h0, h1⟩, Nat.zero_le _⟩
  len := Nat.zero_le _
theorem new_yes (m : Int) (w : World) (h0 : 0 ≤ m) (h1 : m ≤ 1073741824) : Calls Tryz.prog 54 #[.int .i64 m] w (NewSays PA m w) := by
  have HB := Lib.hid (new_block w (.cells #[.pointer (some ⟨w.heap.size, 0, none⟩), .int .i64 m, .int .i64 0, .slice none 0 0, .slice none 0 0] 134))
  have H0 := Lib.hid h0
  have H1 := Lib.hid h1
  go_enter Tryz.func54, Tryz.ntmps54
  go_wp2_with fail
  go_ret2
  refine ⟨w.heap.size, _, rfl, (pat_new m H0.out H1.out _ _ HB.out).pa, fun k h => ?_, (Below.refl _ _).alloc (Nat.le_refl _) _⟩
  rw [List.mem_singleton.1 (show k ∈ [w.heap.size] from h)]
  exact Nat.le_refl _
end Go.Proofs.YthejclgihhfenaaGreat.Pl

/-
  Layer 12: the developers' pool: an object's other size.
-/
namespace Go.Proofs.YthejclgihhfenaaGreat.Pl
open Go Go.RowKit

section
variable {w w' : World} {b : Nat} {m : Int} {l : Ob} {vs vf : Value} {fr : List Int} {F : List Nat}
theorem fresh_refl (F : List Nat) (w : World) : Fresh F F w := fun _ h => .inl h
theorem PAt.below (h : PAt w b m l vs vf fr) (hb : Below w.heap.size w w') : PAt w' b m l vs vf fr :=
  h.turns (G := []) (Turns.of_below hb) (fun h => absurd h (List.not_mem_nil)) (fun _ _ h => absurd h (List.not_mem_nil)) (fun _ _ h => absurd h (List.not_mem_nil))
/-- What the used's and a size's stores make of a pool. -/
theorem PAt.put {g n cap k : Nat} (h : PAt w b m l (.slice (some ⟨g, 0, none⟩) n cap) vf fr) (u x : Int) :
    ((w.setCell ⟨b, 2, none⟩ (.int .i64 u)).setCell ⟨g, k, none⟩ (.int .i64 x)).heap[b]? = some (.cells #[.pointer (some ⟨b, 0, none⟩), .int .i64 m, .int .i64 u, .slice (some ⟨g, 0, none⟩) n cap, vf] 134 (0, 0)) ∧
    Row ((w.setCell ⟨b, 2, none⟩ (.int .i64 u)).setCell ⟨g, k, none⟩ (.int .i64 x)) (.slice (some ⟨g, 0, none⟩) n cap) ((szsL l).set k x) ∧
    Row ((w.setCell ⟨b, 2, none⟩ (.int .i64 u)).setCell ⟨g, k, none⟩ (.int .i64 x)) vf fr ∧
    Turns [b, g] w ((w.setCell ⟨b, 2, none⟩ (.int .i64 u)).setCell ⟨g, k, none⟩ (.int .i64 x)) := by
  have hgb : g ≠ b := fun e => row_ne h.sizes h.cells (by rw [e]; rfl)
  have ht1 : Turns [b] w (w.setCell ⟨b, 2, none⟩ (.int .i64 u)) := turns_set (Turns.refl _ _) (List.mem_singleton.2 rfl)
  have ht2 : Turns [b, g] w ((w.setCell ⟨b, 2, none⟩ (.int .i64 u)).setCell ⟨g, k, none⟩ (.int .i64 x)) := turns_set (turns_set (Turns.refl _ _) (List.mem_cons_self ..)) (List.mem_cons_of_mem _ (List.mem_singleton.2 rfl))
  refine ⟨?_, ?_, ?_, ht2⟩
  · rw [heap_setCell_other _ _ _ _ (show b ≠ g from hgb.symm)]
    exact setCell_at (cs := #[.pointer (some ⟨b, 0, none⟩), .int .i64 m, .int .i64 (usedL l), .slice (some ⟨g, 0, none⟩) n cap, vf]) h.cells
  · refine row_set (row_turns h.sizes ht1 (fun j hj hm => ?_)) k x
    injection hj with hj
    dsimp only at hj
    exact hgb (hj.trans (List.mem_singleton.1 hm))
  · refine row_turns h.free ht2 (fun j hj hm => ?_)
    rcases List.mem_cons.1 hm with e | e
    · exact row_ne h.free h.cells (by rw [hj, e])
    · rcases h.apart with ha | ha
      · cases ha
      · exact ha (by rw [hj, List.mem_singleton.1 e]; rfl)
theorem PAt.resized {g n cap k : Nat} {o t : Int} (h : PAt w b m l (.slice (some ⟨g, 0, none⟩) n cap) vf fr) (hk : l[k]? = some (some o)) (h0 : 0 ≤ t) (h1 : ¬ m < usedL l - o + t) (u : Int) (hu : u = usedL l - o + t) :
    PAt ((w.setCell ⟨b, 2, none⟩ (.int .i64 u)).setCell ⟨g, k, none⟩ (.int .i64 t)) b m (l.set k (some t)) (.slice (some ⟨g, 0, none⟩) n cap) vf fr := by
  obtain ⟨p1, p2, p3, _⟩ := h.put (k := k) u t
  refine ⟨?_, ?_, p3, h.apart, h.heap, by rw [free_same 1 l k o t hk]; exact h.perm, ok_resize h.ok hk h0 h1, by rw [List.length_set]; exact h.len⟩
  · rw [used_set l k (some o) (some t) hk]
    rw [hu] at p1
    rw [hu]
    exact p1
  · rw [szs_set]
    exact p2
theorem dres_none (id size : Int) (h : obAt l id = none) : resizeL m l id size = (l, 2) := by unfold resizeL; rw [h]
theorem dres_some (id size : Int) {o : Int} (h : obAt l id = some o) : resizeL m l id size = if size < 0 then (l, 2) else if m < usedL l - o + size then (l, 5) else (l.set (id - 1).toNat (some size), 0) := by unfold resizeL; rw [h]
theorem dsz_none (id : Int) (h : obAt l id = none) : sizeL l id = (0, false) := by unfold sizeL; rw [h]
theorem dsz_some (id : Int) {o : Int} (h : obAt l id = some o) : sizeL l id = (o, true) := by unfold sizeL; rw [h]

set_option maxHeartbeats 2000000 in
theorem resize_fn' (id size : Int) (hp : PA w b m l F) (hid : In64 id) (hsz : In64 size) : Calls Tryz.prog 71 #[.pointer (some ⟨b, 0, none⟩), .int .i64 id, .int .i64 size] w (ResizeSays PA b m l F id size w) := by
  have HPA := Lib.hid hp
  obtain ⟨vs, vf, fr, h, hF1, hF2, hF3, hF4⟩ := hp
  have x0 := cell_of h.cells 0 _ rfl
  have c := size_fn' id hid h
  have HH := Lib.hid h
  have HF := Lib.hid (And.intro hF1 (And.intro hF2 (And.intro hF3 hF4)))
  clear h hF1 hF2 hF3 hF4
  obtain ⟨s1, s2⟩ := hsz
  obtain ⟨i1, i2⟩ := hid
  cases ho : obAt l id with
  | none =>
    rw [dsz_none id ho] at c
    have HR := Lib.hid (dres_none (m := m) id size ho)
    clear ho
    go_enter Tryz.func71, Tryz.ntmps71
    go_wp2_with fail
    refine (made_fn b w x0).mono ?_
    rintro e w1 ⟨rfl, rfl⟩
    go_wp2_with fail
    refine c.mono ?_
    rintro e w2 ⟨rfl, hb⟩
    have HB := Lib.hid hb
    clear hb c
    go_wp2_with fail
    go_ret
    exact ⟨ret_int (by rw [HR.out]), F, by rw [HR.out]; exact HPA.out.keep (Turns.of_below (F := []) HB.out) (fun _ _ h => absurd h (List.not_mem_nil)), Turns.of_below HB.out, fresh_refl _ _⟩
  | some o =>
    rw [dsz_some id ho] at c
    have HR := Lib.hid (dres_some (m := m) id size ho)
    have HO := Lib.hid ho
    by_cases hneg : size < 0
    · have HR2 := Lib.hid (HR.out.trans (if_pos hneg))
      clear ho
      go_enter Tryz.func71, Tryz.ntmps71
      go_wp2_with fail
      refine (made_fn b w x0).mono ?_
      rintro e w1 ⟨rfl, rfl⟩
      go_wp2_with fail
      refine c.mono ?_
      rintro e w2 ⟨rfl, hb⟩
      have HB := Lib.hid hb
      clear hb c
      go_wp2_with fail
      go_ret
      exact ⟨ret_int (by rw [HR2.out]), F, by rw [HR2.out]; exact HPA.out.keep (Turns.of_below (F := []) HB.out) (fun _ _ h => absurd h (List.not_mem_nil)), Turns.of_below HB.out, fresh_refl _ _⟩
    obtain ⟨o1, o2, o3⟩ := ob_some ho
    have hos := HH.out.ok.pos o (List.mem_of_getElem? o2)
    have hou := used_item l HH.out.ok.pos _ _ o2
    obtain ⟨u1, u2, u3⟩ := HH.out.used
    have e0 := IntWalk.i64_in (m - usedL l + o) (by omega)
    by_cases hbig : m < usedL l - o + size
    · have HR2 := Lib.hid ((HR.out.trans (if_neg hneg)).trans (if_pos hbig))
      have hgt : m - usedL l + o < size := by omega
      clear ho
      go_enter Tryz.func71, Tryz.ntmps71
      go_wp2_with fail
      refine (made_fn b w x0).mono ?_
      rintro e w1 ⟨rfl, rfl⟩
      go_wp2_with fail
      refine c.mono ?_
      rintro e w2 ⟨rfl, hb⟩
      have cl := left_fn (HH.out.below hb)
      have HB := Lib.hid (hb.trans ((drew_below w2).mono hb.size))
      clear hb c
      go_wp2_with fail
      refine cl.mono ?_
      rintro e w3 ⟨rfl, rfl⟩
      clear cl
      generalize usedL l = U at *
      go_wp2_with fail
      go_ret
      exact ⟨ret_int (by rw [HR2.out]), F, by rw [HR2.out]; exact HPA.out.keep (Turns.of_below (F := []) HB.out) (fun _ _ h => absurd h (List.not_mem_nil)), Turns.of_below HB.out, fresh_refl _ _⟩
    · have HR2 := Lib.hid ((HR.out.trans (if_neg hneg)).trans (if_neg hbig))
      have hgt : ¬ m - usedL l + o < size := by omega
      obtain ⟨k, hk⟩ : ∃ k : Nat, id - 1 = (k : Int) := ⟨(id - 1).toNat, by omega⟩
      have e1 : IntKind.i64.wrap (id - 1) = (k : Int) := by rw [← hk]; exact IntWalk.i64_in _ (by omega)
      have e2 := IntWalk.i64_in (size - o) (by omega)
      have e3 := IntWalk.i64_in (usedL l + (size - o)) (by omega)
      rw [hk, Int.toNat_natCast] at o2
      have HK := Lib.hid (show (id - 1).toNat = k by rw [hk, Int.toNat_natCast])
      have hkl : k < l.length := (List.getElem?_eq_some_iff.1 o2).1
      have hkl' : (k : Int) < l.length := by omega
      have HO2 := Lib.hid o2
      have HBIG := Lib.hid hbig
      have HSZ := Lib.hid hneg
      clear ho o2 hk o1 o3 hbig
      go_enter Tryz.func71, Tryz.ntmps71
      go_wp2_with fail
      refine (made_fn b w x0).mono ?_
      rintro e w1 ⟨rfl, rfl⟩
      go_wp2_with fail
      refine c.mono ?_
      rintro e w2 ⟨rfl, hb⟩
      have cl := left_fn (HH.out.below hb)
      have hP := (HH.out.below hb).drew
      have HB := Lib.hid (hb.trans ((drew_below w2).mono hb.size))
      clear hb c
      go_wp2_with fail
      refine cl.mono ?_
      rintro e w3 ⟨rfl, rfl⟩
      clear cl
      generalize w2.drew = w3 at *
      obtain ⟨g, cap, hv, _, _, hg, hx, hz⟩ := row_item hP.sizes k (by rw [szs_len]; exact hkl)
      rw [szs_len] at hv
      have y2 := cell_of hP.cells 2 _ rfl
      have y3 := cell_of hP.cells 3 _ rfl
      have z2 := free_of hP.cells 2
      have z3 := free_of hP.cells 3
      have hgb : g ≠ b := fun e => row_ne hP.sizes hP.cells (by rw [hv, e]; rfl)
      subst hv
      have HQ := Lib.hid (hP.resized HO2.out (t := size) (by have := HSZ.out; omega) (by have := HBIG.out; omega) (usedL l + (size - o)) (by omega))
      have HT := Lib.hid (hP.put (k := k) (usedL l + (size - o)) size).2.2.2
      clear hP
      generalize hU : usedL l = U at *
      generalize hN : l.length = n at *
      go_wp2_with fail
      go_ret
      have hfin : PA ((w3.setCell ⟨b, 2, none⟩ (.int .i64 (U + (size - o)))).setCell ⟨g, k, none⟩ (.int .i64 size)) b m (l.set k (some size)) F :=
        ⟨_, _, _, HQ.out, HF.out.1, HF.out.2.1, HF.out.2.2.1, fun j hj => by
          have h1 := HF.out.2.2.2 j hj
          have h2 := HB.out.size
          have h3 := HT.out.size
          omega⟩
      refine ⟨ret_int (by rw [HR2.out]), F, by rw [HR2.out, HK.out]; exact hfin, (Turns.of_below HB.out).trans HT.out (fun j hj => .inl ?_), fresh_refl _ _⟩
      rcases List.mem_cons.1 hj with e | e
      · rw [e]; exact HF.out.1
      · rw [List.mem_singleton.1 e]; exact HF.out.2.1 g rfl
end
end Go.Proofs.YthejclgihhfenaaGreat.Pl
