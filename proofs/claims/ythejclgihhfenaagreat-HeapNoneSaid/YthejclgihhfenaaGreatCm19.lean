import Derived.Test.YthejclgihhfenaaGreatCm18
import Derived.Lib.SliceRun
/-
  Layer 12: the developers' pool: an object given back.
-/
namespace Go.Proofs.YthejclgihhfenaaGreat.Pl
open Go Go.RowKit

section
variable {w w' w2 : World} {b : Nat} {m : Int} {l : Ob} {vs vf : Value} {fr : List Int} {F : List Nat}
theorem dgive_none (id : Int) (h : obAt l id = none) : giveL l id = (l, 2) := by unfold giveL; rw [h]
theorem dgive_some (id : Int) {o : Int} (h : obAt l id = some o) : giveL l id = (l.set (id - 1).toNat none, 0) := by unfold giveL; rw [h]
/-- What the stores and the push make of a pool. -/
theorem PAt.given {g n cap k : Nat} {o x u : Int} {vf' : Value} {fr' : List Int} (h : PAt w b m l (.slice (some ⟨g, 0, none⟩) n cap) vf fr) (hk : l[k]? = some (some o)) (hu : u = usedL l - o) (hx : x = (k : Int) + 1)
    (hb : w'.heap[b]? = some (.cells #[.pointer (some ⟨b, 0, none⟩), .int .i64 m, .int .i64 u, .slice (some ⟨g, 0, none⟩) n cap, vf'] 134 (0, 0))) (hr : Row w' vf' fr') (hh : Heap fr') (hp : fr'.Perm (x :: fr))
    (hv : vf'.ownBlock = vf.ownBlock ∨ ∃ g, vf'.ownBlock = some g ∧ w.heap.size ≤ g)
    (ht : Turns (b :: own vf) ((w.setCell ⟨b, 2, none⟩ (.int .i64 u)).setCell ⟨g, k, none⟩ (.int .i64 (-1))) w') : PAt w' b m (l.set k none) (.slice (some ⟨g, 0, none⟩) n cap) vf' fr' := by
  obtain ⟨p1, p2, p3, p4⟩ := h.put (k := k) u (-1)
  have hgb : g ≠ b := fun e => row_ne h.sizes h.cells (by rw [e]; rfl)
  have hga : vf.ownBlock ≠ some g := fun e => by
    rcases h.apart with ha | ha
    · cases ha
    · exact ha e.symm
  have hgl : g < w.heap.size := (h.sizes.lt g rfl).2
  refine ⟨?_, ?_, hr, .inr ?_, hh, ?_, ok_give h.ok hk, by rw [List.length_set]; exact h.len⟩
  · rw [used_set l k (some o) none hk, show usedL l - (some o).getD 0 + (none : Option Int).getD 0 = u by rw [hu]; simp]
    exact hb
  · rw [szs_set]
    refine row_turns p2 ht (fun j hj hm => ?_)
    injection hj with hj
    dsimp only at hj
    subst hj
    rcases List.mem_cons.1 hm with e | e
    · exact hgb e
    · exact hga (own_mem.1 e)
  · intro e
    have e : some g = vf'.ownBlock := e
    rcases hv with hv | ⟨g2, hv, hl⟩
    · exact hga (hv.symm.trans e.symm)
    · rw [hv] at e
      injection e with e
      omega
  · refine hp.trans ?_
    rw [hx, Int.add_comm]
    exact (h.perm.cons _).trans (free_give 1 l k o hk).symm

set_option maxHeartbeats 2000000 in
theorem give_fn' (id : Int) (hp : PA w b m l F) (hid : In64 id) : Calls Tryz.prog 78 #[.pointer (some ⟨b, 0, none⟩), .int .i64 id] w (GiveSays PA b m l F id w) := by
  have HPA := Lib.hid hp
  obtain ⟨vs, vf, fr, h, hF1, hF2, hF3, hF4⟩ := hp
  have x0 := cell_of h.cells 0 _ rfl
  have c := size_fn' id hid h
  have HH := Lib.hid h
  have HF := Lib.hid (And.intro hF1 (And.intro hF2 (And.intro hF3 hF4)))
  clear h hF1 hF2 hF3 hF4
  obtain ⟨i1, i2⟩ := hid
  cases ho : obAt l id with
  | none =>
    rw [dsz_none id ho] at c
    have HR := Lib.hid (dgive_none id ho)
    clear ho
    go_enter Tryz.func78, Tryz.ntmps78
    go_wp2_with fail
    refine (made_fn b w x0).mono ?_
    rintro e w1 ⟨rfl, rfl⟩
    go_wp2_with fail
    refine c.mono ?_
    rintro e w2 ⟨rfl, hb⟩
    have HB := Lib.hid hb
    clear hb c
    go_wp2_with fail
    go_ret
    exact ⟨ret_int (by rw [HR.out]), F, by rw [HR.out]; exact HPA.out.keep (Turns.of_below (F := []) HB.out) (fun _ _ h => absurd h (List.not_mem_nil)), Turns.of_below HB.out, fresh_refl _ _⟩
  | some o =>
    rw [dsz_some id ho] at c
    have HR := Lib.hid (dgive_some id ho)
    obtain ⟨o1, o2, o3⟩ := ob_some ho
    have hos := HH.out.ok.pos o (List.mem_of_getElem? o2)
    have hou := used_item l HH.out.ok.pos _ _ o2
    obtain ⟨u1, u2, u3⟩ := HH.out.used
    have e0 := IntWalk.i64_in (usedL l - o) (by omega)
    have hlen := HH.out.len
    obtain ⟨k, hk⟩ : ∃ k : Nat, id - 1 = (k : Int) := ⟨(id - 1).toNat, by omega⟩
    have e1 : IntKind.i64.wrap (id - 1) = (k : Int) := by rw [← hk]; exact IntWalk.i64_in _ (by omega)
    rw [hk, Int.toNat_natCast] at o2
    have HK := Lib.hid (show (id - 1).toNat = k by rw [hk, Int.toNat_natCast])
    have HK2 := Lib.hid (show id = (k : Int) + 1 by omega)
    have hkl : k < l.length := (List.getElem?_eq_some_iff.1 o2).1
    have hkl' : (k : Int) < l.length := by omega
    have hfree : fr.length < 65536 := by
      have h1 := HH.out.cnt
      have h2 := cnt_set_none l k o o2
      omega
    have HO2 := Lib.hid o2
    clear ho o2 hk o1 o3
    go_enter Tryz.func78, Tryz.ntmps78
    go_wp2_with fail
    refine (made_fn b w x0).mono ?_
    rintro e w1 ⟨rfl, rfl⟩
    go_wp2_with fail
    refine c.mono ?_
    rintro e w3 ⟨rfl, hb⟩
    have hP := HH.out.below hb
    have HB := Lib.hid hb
    clear hb c
    obtain ⟨g, cap, hv, _, _, hg, hx, hz⟩ := row_item hP.sizes k (by rw [szs_len]; exact hkl)
    rw [szs_len] at hv
    have y2 := cell_of hP.cells 2 _ rfl
    have y3 := cell_of hP.cells 3 _ rfl
    have z2 := free_of hP.cells 2
    have z3 := free_of hP.cells 3
    have hgb : g ≠ b := fun e => row_ne hP.sizes hP.cells (by rw [hv, e]; rfl)
    subst hv
    obtain ⟨p1, p2, p3, p4⟩ := hP.put (k := k) (usedL l - o) (-1)
    have cp := push_fn b _ _ _ _ vf fr id _ p1 p3 hP.heap hfree
    have HT := Lib.hid p4
    have HP := Lib.hid hP
    clear hP p1 p2 p3 p4
    obtain ⟨U, hU⟩ : ∃ U, U = usedL l := ⟨_, rfl⟩
    have HU := Lib.hid (show U - o = usedL l - o by rw [hU])
    rw [← hU] at y2 e0 cp HT u1 u2 hou
    obtain ⟨n, hN⟩ : ∃ n, n = l.length := ⟨_, rfl⟩
    rw [← hN] at y3 cp hkl' hkl HP
    clear hU hN
    go_wp2_with fail
    refine cp.mono ?_
    rintro e w4 ⟨rfl, vf', fr', q1, q2, q3, q4, q5, q6⟩
    have hgw := HT.out.size
    have HQ := Lib.hid (HP.out.given (u := U - o) HO2.out HU.out HK2.out q1 q2 q3 q4 (by
      rcases q5 with q | ⟨g2, q, hl⟩
      · exact .inl q
      · exact .inr ⟨g2, q, by omega⟩) q6)
    have HT2 := Lib.hid q6
    have HV := Lib.hid q5
    clear cp q1 q2 q3 q4 q5 q6
    go_wp2_with fail
    go_ret
    have hsz : w1.heap.size ≤ w4.heap.size := Nat.le_trans HB.out.size (Nat.le_trans hgw HT2.out.size)
    have hfin : PA w4 b m (l.set k none) (F ++ own vf') :=
      ⟨_, _, _, HQ.out, List.mem_append_left _ HF.out.1, fun j hj => List.mem_append_left _ (HF.out.2.1 j hj), fun j hj => List.mem_append_right _ (own_mem.2 hj), fun j hj => by
        rcases List.mem_append.1 hj with hj | hj
        · exact Nat.lt_of_lt_of_le (HF.out.2.2.2 j hj) hsz
        · exact (HQ.out.free.lt j (own_mem.1 hj)).2⟩
    refine ⟨ret_int (by rw [HR.out]), _, by rw [HR.out, HK.out]; exact hfin, ((Turns.of_below HB.out).trans HT.out (fun j hj => .inl ?_)).trans HT2.out (fun j hj => .inl ?_), fun j hj => ?_⟩
    · rcases List.mem_cons.1 hj with e | e
      · rw [e]; exact HF.out.1
      · rw [List.mem_singleton.1 e]; exact HF.out.2.1 g rfl
    · rcases List.mem_cons.1 hj with e | e
      · rw [e]; exact HF.out.1
      · exact HF.out.2.2.1 j (own_mem.1 e)
    · rcases List.mem_append.1 hj with hj | hj
      · exact .inl hj
      · have hj := own_mem.1 hj
        rcases HV.out with q | ⟨g2, q, hl⟩
        · exact .inl (HF.out.2.2.1 j (q.symm.trans hj))
        · rw [q] at hj
          injection hj with hj
          exact .inr (by have := HB.out.size; omega)
end
end Go.Proofs.YthejclgihhfenaaGreat.Pl

/-
  Layer 12: the developers' pool: its objects' numbers.
-/
namespace Go.Proofs.YthejclgihhfenaaGreat.Pl
open Go Go.RowKit

theorem ids_snoc : ∀ (n : Int) (l : Ob) (a : Option Int), idsL n (l ++ [a]) = idsL n l ++ (match a with | none => [] | some _ => [n + l.length])
  | n, [], none => rfl
  | n, [], some s => by simp [idsL]
  | n, none :: l, a => by
    rw [List.cons_append]
    simp only [idsL]
    rw [ids_snoc (n + 1) l a]
    cases a with
    | none => rfl
    | some s => simp; omega
  | n, some t :: l, a => by
    rw [List.cons_append]
    simp only [idsL]
    rw [ids_snoc (n + 1) l a]
    cases a with
    | none => simp
    | some s => simp; omega
theorem ids_take (l : Ob) (k : Nat) (h : k < l.length) : idsL 1 (l.take (k + 1)) = idsL 1 (l.take k) ++ (match l[k] with | none => [] | some _ => [(k : Int) + 1]) := by
  rw [List.take_succ_eq_append_getElem h, ids_snoc]
  rw [List.length_take, Nat.min_eq_left (by omega), Int.add_comm]
theorem ids_le : ∀ (n : Int) (l : Ob), (idsL n l).length ≤ l.length
  | _, [] => Nat.le_refl _
  | n, none :: l => Nat.le_succ_of_le (ids_le (n + 1) l)
  | n, some _ :: l => Nat.succ_le_succ (ids_le (n + 1) l)
theorem ids_few (l : Ob) (k : Nat) : (idsL 1 (l.take k)).length ≤ l.length := Nat.le_trans (ids_le 1 _) (by rw [List.length_take]; omega)

section
variable {w w' : World} {b : Nat} {m : Int} {l : Ob} {vs vf : Value} {fr : List Int} {F : List Nat}
set_option maxHeartbeats 2000000 in
theorem ids_own (h : PAt w b m l vs vf fr) : Calls Tryz.prog 89 #[.pointer (some ⟨b, 0, none⟩)] w (fun e w' => ∃ v, e = .returned v ∧ LstP (w.heap.size ≤ ·) w' v (ints (idsL 1 l)) ∧ Below w.heap.size w w') := by
  have hlen := h.len
  have hcl := cnt_le l
  have cc := count_fn h
  obtain ⟨aS, cS, hv, _, _⟩ := row_len h.sizes
  rw [szs_len] at hv
  subst hv
  have x0 := cell_of h.cells 0 _ rfl
  have x3 := cell_of h.cells 3 _ rfl
  have HS := Lib.hid h.sizes
  have HP := Lib.hid h.ok.pos
  clear h
  obtain ⟨c, hc⟩ : ∃ c, c = cntL l := ⟨_, rfl⟩
  rw [← hc] at cc hcl
  obtain ⟨MC, hMC⟩ : ∃ MC, MC = madeCells #[Value.int .i64 0] c := ⟨_, rfl⟩
  obtain ⟨iB, hiB, hzB, hsB, hbB⟩ := info_parts infoInt
  have hmk : ∀ W : World, (Instr.makeSlice 126 (.int .i64 0) (.int .i64 (c : Int))).run Tryz.prog W = .ok (.slice (some ⟨W.heap.size, 0, none⟩) 0 c) (W.alloc (.cells MC 3)) := fun W => by
    have := run_make (P := Tryz.prog) W 126 3 iB (.int .i64 0) Tryz.underlying126 hiB hzB .i64 .i64 0 (c : Int) (by omega) (by omega) (by rw [hbB]; omega) (by omega)
    rw [hsB] at this
    simp only [Int.toNat_natCast, Int.toNat_zero, Nat.mul_one] at this
    rw [this, hMC]
    rfl
  have HOW := Lib.hid (World.ownsRow_made (base := w.heap.size) (size := 1) (e := 3) w MC c (Nat.le_refl _) (Nat.le_trans (m := 65536) (by omega) (by decide)) (by rw [hMC, size_madeCells]; omega))
  have HB0 := Lib.hid ((show Below w.heap.size w (w.alloc (.cells MC 3)).drew from ((Below.refl _ _).alloc (Nat.le_refl _) _).trans ((drew_below _).mono (by simp))))
  clear hMC hiB hzB hsB hbB hc
  obtain ⟨n, hn⟩ : ∃ n, n = l.length := ⟨_, rfl⟩
  rw [← hn] at x3 hlen hcl
  have HN := Lib.hid hn
  clear hn
  go_enter Tryz.func89, Tryz.ntmps89
  go_wp2_with fail
  refine (made_fn b w x0).mono ?_
  rintro e w1 ⟨rfl, hw⟩
  subst hw
  go_wp2_with fail
  refine cc.mono ?_
  rintro e w2 ⟨rfl, hw⟩
  subst hw
  clear cc
  have x5 := (HB0.out.cell (p := ⟨b, 3, none⟩) (World.block_lt_of_cell? _ _ x3)).trans x3
  have hown : (w1.alloc (.cells MC 3)).drew.ownsRow w1.heap.size 3 1 (.slice (some ⟨w1.heap.size, 0, none⟩) 0 c) ([] : List Int).length (ints []) := HOW.out
  have HB1 := Lib.hid HB0.out
  have HOW1 := Lib.hid hown
  clear hown
  have x6 : (w1.alloc (.cells MC 3)).cell? ⟨b, 3, none⟩ = some (.slice aS n cS) := x5
  go_wp2_with fail
  clear x6 hmk
  generalize (w1.alloc (.cells MC 3)).drew = W at *
  go_loopg [17, 3] n (fun r i v wr => ∃ (k : Nat) (ao : Option Addr) (mm cc : Nat), r = n - k ∧ i = .int .i64 k ∧ k ≤ n ∧ v = .slice ao mm cc ∧ wr.ownsRow w1.heap.size 3 1 (.slice ao mm cc) (idsL 1 (l.take k)).length (ints (idsL 1 (l.take k))) ∧ Below w1.heap.size w1 wr)
  case atStart => exact ⟨0, _, _, _, rfl, rfl, Nat.zero_le _, rfl, HOW1.out, HB1.out⟩
  case round =>
    obtain ⟨k, ao, mm, cc, rfl, rfl, hk, rfl, hown, hb⟩ := hrel
    have HO := Lib.hid hown
    have HB := Lib.hid hb
    have hrow := row_below HS.out hb
    clear hown hb
    have e0 := IntWalk.i64_in ((k : Int) + 1) (by omega)
    by_cases hlt : k < n
    · have hlt' : (k : Int) < n := by omega
      have hkl : k < l.length := by have := HN.out; omega
      obtain ⟨g, cap, e1, _, _, _, hx, _⟩ := row_item hrow k (by rw [szs_len]; exact hkl)
      injection e1 with e11 e12 e13
      subst e11
      subst e13
      rw [szs_at hkl] at hx
      have HT := Lib.hid (ids_take l k hkl)
      have HF := Lib.hid (ids_few l k)
      have HFN := Lib.hid hlen
      clear e12 hrow
      cases hlk : l[k] with
      | none =>
        rw [hlk] at hx HT
        have hx : wr.cell? ⟨g, k, none⟩ = some (.int .i64 (-1)) := hx
        clear hlk
        go_wp2_with fail
        go_roundg (n - (k + 1))
        case measure => omega
        case rel => exact ⟨k + 1, ao, mm, cc, rfl, by go_num, by omega, rfl, by rw [HT.out, List.append_nil]; exact HO.out, HB.out⟩
      | some s =>
        have hs := HP.out s (by rw [← hlk]; exact List.getElem_mem hkl)
        rw [hlk] at hx HT
        have hx : wr.cell? ⟨g, k, none⟩ = some (.int .i64 s) := hx
        have hs2 : (s != -1) = true := by rw [bne_iff_ne]; omega
        clear hlk
        go_wp2_with (at_builtin; go_loud (refine wpList_append_at rfl (.tmp 24) (.tmp 27) 126 rfl w1.heap.size 3 (.int .i64 0) 8 Tryz.underlying126 infoInt rfl (.slice ao mm cc) (idsL 1 (l.take k)).length (ints (idsL 1 (l.take k))) rfl HO.out (.int .i64 ((k : Int) + 1)) rfl rfl ?l1 ?m1 ?n1 ?_))
        case l1 => exact Nat.le_trans (m := 65537) (by have := HF.out; have := HFN.out; have := HN.out; omega) (by decide)
        case m1 => exact Nat.le_trans (Nat.mul_le_mul_right 8 (m := 65537) (by have := HF.out; have := HFN.out; have := HN.out; omega)) (by decide)
        case n1 => exact HB.out.size
        intro v1 w2 h1 h2 h3
        obtain ⟨ao2, mm2, cc2, rfl⟩ := own_some h1
        have hb2 := HB.out.trans (below_appended HO.out h2 HB.out.size)
        have HB2 := Lib.hid hb2
        have HO2 := Lib.hid (show w2.ownsRow w1.heap.size 3 1 (.slice ao2 mm2 cc2) (idsL 1 (l.take (k + 1))).length (ints (idsL 1 (l.take (k + 1)))) by
          rw [HT.out, List.length_append]
          unfold ints
          rw [List.map_append]
          exact h1)
        clear h1 h2 h3 hb2
        go_wp2_with fail
        go_roundg (n - (k + 1))
        case measure => omega
        case rel => exact ⟨k + 1, ao2, mm2, cc2, rfl, by go_num, by omega, rfl, HO2.out, HB2.out⟩
    · have hkn : k = n := by omega
      have HK := Lib.hid (show l.take k = l from List.take_of_length_le (by have := HN.out; omega))
      go_wp2_with fail
      go_ret
      have ho := HO.out
      rw [HK.out] at ho
      have hl := ids_le 1 l
      exact ⟨_, rfl, LstP.own (n := (idsL 1 l).length) ho (by unfold Len; have := HN.out; omega), HB.out⟩
theorem ids_fn (h : PAt w b m l vs vf fr) : Calls Tryz.prog 89 #[.pointer (some ⟨b, 0, none⟩)] w (IdsSays l w) :=
  (ids_own h).mono fun _ _ ⟨v, he, hl, hb⟩ => ⟨v, he, hl.mono (fun _ _ _ => trivial), hb⟩
end
end Go.Proofs.YthejclgihhfenaaGreat.Pl

/-
  Layer 12: the developers' pool: a copy of it.
-/
namespace Go.Proofs.YthejclgihhfenaaGreat.Pl
open Go Go.RowKit

def CloneSays (h : List Int) (w : World) (e : Ending) (w' : World) : Prop := ∃ v', e = .returned v' ∧ w'.ownsRow w.heap.size 3 1 v' h.length (ints h) ∧ Below w.heap.size w w'
end Go.Proofs.YthejclgihhfenaaGreat.Pl

/-
  Layer 12: the developers' pool: the whole copy (written by takes.py out of pl-copy.src).
-/
namespace Go.Proofs.YthejclgihhfenaaGreat.Pl
open Go Go.RowKit

theorem row_zero {w : World} {B : Nat} {v : Value} {h : List Int} (hr : w.ownsRow B 3 1 v h.length (ints h)) : Row w v h := ownsRow_base hr (Nat.zero_le _)
section
variable {w w' : World} {b : Nat} {m : Int} {l : Ob} {vs vf : Value} {fr : List Int} {F : List Nat}
end
end Go.Proofs.YthejclgihhfenaaGreat.Pl

/-
  Layer 12: the developers' pool: an object taken, where that is refused.
-/
namespace Go.Proofs.YthejclgihhfenaaGreat.Pl
open Go Go.RowKit

section
variable {w w' : World} {b : Nat} {m : Int} {l : Ob} {vs vf : Value} {fr : List Int} {F : List Nat}
theorem dtake_less (size : Int) (h : size < 0) : takeL m l size = (l, 0, 2) := by unfold takeL; rw [if_pos h]
theorem dtake_over (size : Int) (h : ¬ size < 0) (h2 : m < usedL l + size ∨ 65536 ≤ cntL l) : takeL m l size = (l, 0, 5) := by unfold takeL; rw [if_neg h, if_pos h2]
theorem dtake_new (size : Int) (h : ¬ size < 0) (h2 : ¬ (m < usedL l + size ∨ 65536 ≤ cntL l)) : takeL m l size = (putL l (leastL l) size, (leastL l : Int) + 1, 0) := by unfold takeL; rw [if_neg h, if_neg h2]
theorem ret_ii {a b c d : Int} (h : a = b) (h' : c = d) : Ending.returned (.tuple #[.int .i64 a, .int .i64 c]) = .returned (.tuple #[.int .i64 b, .int .i64 d]) := by rw [h, h']
theorem take_same (size : Int) {x y : Int} {e : Ending} (h : takeL m l size = (l, x, y)) (hp : PA w b m l F) (hb : Below w.heap.size w w') (he : e = .returned (.tuple #[.int .i64 x, .int .i64 y])) : TakeSays PA b m l F size w e w' := by
  unfold TakeSays
  rw [h]
  exact ⟨he, F, hp.keep (Turns.of_below (F := []) hb) (fun _ _ h => absurd h (List.not_mem_nil)), Turns.of_below hb, fresh_refl _ _⟩
set_option maxHeartbeats 1000000 in
theorem take_refused (size : Int) (hp : PA w b m l F) (hsz : In64 size) (hbad : size < 0 ∨ m < usedL l + size ∨ 65536 ≤ cntL l) : Calls Tryz.prog 96 #[.pointer (some ⟨b, 0, none⟩), .int .i64 size] w (TakeSays PA b m l F size w) := by
  have HPA := Lib.hid hp
  obtain ⟨vs, vf, fr, h, -⟩ := hp
  have x0 := cell_of h.cells 0 _ rfl
  have HH := Lib.hid h
  obtain ⟨u1, u2, u3⟩ := h.used
  obtain ⟨s1, s2⟩ := hsz
  clear h
  by_cases hneg : size < 0
  · have HR := Lib.hid (dtake_less (m := m) (l := l) size hneg)
    clear hbad
    go_enter Tryz.func96, Tryz.ntmps96
    go_wp2_with fail
    refine (made_fn b w x0).mono ?_
    rintro e w1 ⟨rfl, hw⟩
    subst hw
    go_wp2_with fail
    go_ret2
    exact take_same size HR.out HPA.out (Below.refl _ _) rfl
  have hfull : m < usedL l + size ∨ 65536 ≤ cntL l := by rcases hbad with h | h; exact absurd h hneg; exact h
  have HR := Lib.hid (dtake_over (m := m) (l := l) size hneg hfull)
  have cl := left_fn HH.out
  have cc := count_fn HH.out.drew
  have HB1 := Lib.hid (drew_below w)
  have HB2 := Lib.hid ((drew_below w).trans (drew_below w.drew))
  clear hbad
  by_cases hbig : m < usedL l + size
  · have hgt : m - usedL l < size := by omega
    clear hfull cc
    generalize usedL l = U at *
    go_enter Tryz.func96, Tryz.ntmps96
    go_wp2_with fail
    refine (made_fn b w x0).mono ?_
    rintro e w1 ⟨rfl, hw⟩
    subst hw
    go_wp2_with fail
    refine cl.mono ?_
    rintro e w2 ⟨rfl, hw⟩
    subst hw
    clear cl
    go_wp2_with fail
    go_ret2
    exact take_same size HR.out HPA.out HB1.out rfl
  · have hgt : ¬ m - usedL l < size := by omega
    have hcnt : 65536 ≤ cntL l := by rcases hfull with h | h; exact absurd h hbig; exact h
    have hcnt' : (65536 : Int) ≤ (cntL l : Int) := by omega
    clear hfull hcnt
    generalize usedL l = U at *
    obtain ⟨c, hc⟩ : ∃ c, c = cntL l := ⟨_, rfl⟩
    rw [← hc] at hcnt' cc
    clear hc
    go_enter Tryz.func96, Tryz.ntmps96
    go_wp2_with fail
    refine (made_fn b w x0).mono ?_
    rintro e w1 ⟨rfl, hw⟩
    subst hw
    go_wp2_with fail
    refine cl.mono ?_
    rintro e w2 ⟨rfl, hw⟩
    subst hw
    clear cl
    go_wp2_with fail
    refine cc.mono ?_
    rintro e w2 ⟨rfl, hw⟩
    subst hw
    clear cc
    go_wp2_with fail
    go_ret2
    exact take_same size HR.out HPA.out HB2.out rfl
end
end Go.Proofs.YthejclgihhfenaaGreat.Pl
