/-
  Layer 12: the developers' pool: an object given back.
-/
import Derived.Test.YtpfhaafaoedgpaaPlRes
namespace Go.Proofs.Ytpfhaafaoedgpaa.Pl
open Go Go.RowKit

section
variable {w w' w2 : World} {b : Nat} {m : Int} {l : Ob} {vs vf : Value} {fr : List Int} {F : List Nat}
theorem dgive_none (id : Int) (h : obAt l id = none) : giveL l id = (l, 2) := by unfold giveL; rw [h]
theorem dgive_some (id : Int) {o : Int} (h : obAt l id = some o) : giveL l id = (l.set (id - 1).toNat none, 0) := by unfold giveL; rw [h]
/-- What the stores and the push make of a pool. -/
theorem PAt.given {g n cap k : Nat} {o x u : Int} {vf' : Value} {fr' : List Int} (h : PAt w b m l (.slice (some ⟨g, 0, none⟩) n cap) vf fr) (hk : l[k]? = some (some o)) (hu : u = usedL l - o) (hx : x = (k : Int) + 1)
    (hb : w'.heap[b]? = some (.cells #[.pointer (some ⟨b, 0, none⟩), .int .i64 m, .int .i64 u, .slice (some ⟨g, 0, none⟩) n cap, vf'] 52 (0, 0))) (hr : Row w' vf' fr') (hh : Heap fr') (hp : fr'.Perm (x :: fr))
    (hv : vf'.ownBlock = vf.ownBlock ∨ ∃ g, vf'.ownBlock = some g ∧ w.heap.size ≤ g)
    (ht : Turns (b :: own vf) ((w.setCell ⟨b, 2, none⟩ (.int .i64 u)).setCell ⟨g, k, none⟩ (.int .i64 (-1))) w') : PAt w' b m (l.set k none) (.slice (some ⟨g, 0, none⟩) n cap) vf' fr' := by
  obtain ⟨p1, p2, p3, p4⟩ := h.put (k := k) u (-1)
  have hgb : g ≠ b := fun e => row_ne h.sizes h.cells (by rw [e]; rfl)
  have hga : vf.ownBlock ≠ some g := fun e => by
    rcases h.apart with ha | ha
    · cases ha
    · exact ha e.symm
  have hgl : g < w.heap.size := (h.sizes.lt g rfl).2
  refine ⟨?_, ?_, hr, .inr ?_, hh, ?_, ok_give h.ok hk, by rw [List.length_set]; exact h.len⟩
  · rw [used_set l k (some o) none hk, show usedL l - (some o).getD 0 + (none : Option Int).getD 0 = u by rw [hu]; simp]
    exact hb
  · rw [szs_set]
    refine row_turns p2 ht (fun j hj hm => ?_)
    injection hj with hj
    dsimp only at hj
    subst hj
    rcases List.mem_cons.1 hm with e | e
    · exact hgb e
    · exact hga (own_mem.1 e)
  · intro e
    have e : some g = vf'.ownBlock := e
    rcases hv with hv | ⟨g2, hv, hl⟩
    · exact hga (hv.symm.trans e.symm)
    · rw [hv] at e
      injection e with e
      omega
  · refine hp.trans ?_
    rw [hx, Int.add_comm]
    exact (h.perm.cons _).trans (free_give 1 l k o hk).symm

set_option maxHeartbeats 2000000 in
theorem give_fn' (id : Int) (hp : PA w b m l F) (hid : In64 id) : Calls Try.prog 9 #[.pointer (some ⟨b, 0, none⟩), .int .i64 id] w (GiveSays PA b m l F id w) := by
  have HPA := Lib.hid hp
  obtain ⟨vs, vf, fr, h, hF1, hF2, hF3, hF4⟩ := hp
  have x0 := cell_of h.cells 0 _ rfl
  have c := size_fn' id hid h
  have HH := Lib.hid h
  have HF := Lib.hid (And.intro hF1 (And.intro hF2 (And.intro hF3 hF4)))
  clear h hF1 hF2 hF3 hF4
  obtain ⟨i1, i2⟩ := hid
  cases ho : obAt l id with
  | none =>
    rw [dsz_none id ho] at c
    have HR := Lib.hid (dgive_none id ho)
    clear ho
    go_enter Try.func9, Try.ntmps9
    go_wp2_with fail
    refine (made_fn b w x0).mono ?_
    rintro e w1 ⟨rfl, rfl⟩
    go_wp2_with fail
    refine c.mono ?_
    rintro e w2 ⟨rfl, hb⟩
    have HB := Lib.hid hb
    clear hb c
    go_wp2_with fail
    go_ret
    exact ⟨ret_int (by rw [HR.out]), F, by rw [HR.out]; exact HPA.out.keep (Turns.of_below (F := []) HB.out) (fun _ _ h => absurd h (List.not_mem_nil)), Turns.of_below HB.out, fresh_refl _ _⟩
  | some o =>
    rw [dsz_some id ho] at c
    have HR := Lib.hid (dgive_some id ho)
    obtain ⟨o1, o2, o3⟩ := ob_some ho
    have hos := HH.out.ok.pos o (List.mem_of_getElem? o2)
    have hou := used_item l HH.out.ok.pos _ _ o2
    obtain ⟨u1, u2, u3⟩ := HH.out.used
    have e0 := IntWalk.i64_in (usedL l - o) (by omega)
    have hlen := HH.out.len
    obtain ⟨k, hk⟩ : ∃ k : Nat, id - 1 = (k : Int) := ⟨(id - 1).toNat, by omega⟩
    have e1 : IntKind.i64.wrap (id - 1) = (k : Int) := by rw [← hk]; exact IntWalk.i64_in _ (by omega)
    rw [hk, Int.toNat_natCast] at o2
    have HK := Lib.hid (show (id - 1).toNat = k by rw [hk, Int.toNat_natCast])
    have HK2 := Lib.hid (show id = (k : Int) + 1 by omega)
    have hkl : k < l.length := (List.getElem?_eq_some_iff.1 o2).1
    have hkl' : (k : Int) < l.length := by omega
    have hfree : fr.length < 65536 := by
      have h1 := HH.out.cnt
      have h2 := cnt_set_none l k o o2
      omega
    have HO2 := Lib.hid o2
    clear ho o2 hk o1 o3
    go_enter Try.func9, Try.ntmps9
    go_wp2_with fail
    refine (made_fn b w x0).mono ?_
    rintro e w1 ⟨rfl, rfl⟩
    go_wp2_with fail
    refine c.mono ?_
    rintro e w3 ⟨rfl, hb⟩
    have hP := HH.out.below hb
    have HB := Lib.hid hb
    clear hb c
    obtain ⟨g, cap, hv, _, _, hg, hx, hz⟩ := row_item hP.sizes k (by rw [szs_len]; exact hkl)
    rw [szs_len] at hv
    have y2 := cell_of hP.cells 2 _ rfl
    have y3 := cell_of hP.cells 3 _ rfl
    have z2 := free_of hP.cells 2
    have z3 := free_of hP.cells 3
    have hgb : g ≠ b := fun e => row_ne hP.sizes hP.cells (by rw [hv, e]; rfl)
    subst hv
    obtain ⟨p1, p2, p3, p4⟩ := hP.put (k := k) (usedL l - o) (-1)
    have cp := push_fn b _ _ _ _ vf fr id _ p1 p3 hP.heap hfree
    have HT := Lib.hid p4
    have HP := Lib.hid hP
    clear hP p1 p2 p3 p4
    obtain ⟨U, hU⟩ : ∃ U, U = usedL l := ⟨_, rfl⟩
    have HU := Lib.hid (show U - o = usedL l - o by rw [hU])
    rw [← hU] at y2 e0 cp HT u1 u2 hou
    obtain ⟨n, hN⟩ : ∃ n, n = l.length := ⟨_, rfl⟩
    rw [← hN] at y3 cp hkl' hkl HP
    clear hU hN
    go_wp2_with fail
    refine cp.mono ?_
    rintro e w4 ⟨rfl, vf', fr', q1, q2, q3, q4, q5, q6⟩
    have hgw := HT.out.size
    have HQ := Lib.hid (HP.out.given (u := U - o) HO2.out HU.out HK2.out q1 q2 q3 q4 (by
      rcases q5 with q | ⟨g2, q, hl⟩
      · exact .inl q
      · exact .inr ⟨g2, q, by omega⟩) q6)
    have HT2 := Lib.hid q6
    have HV := Lib.hid q5
    clear cp q1 q2 q3 q4 q5 q6
    go_wp2_with fail
    go_ret
    have hsz : w1.heap.size ≤ w4.heap.size := Nat.le_trans HB.out.size (Nat.le_trans hgw HT2.out.size)
    have hfin : PA w4 b m (l.set k none) (F ++ own vf') :=
      ⟨_, _, _, HQ.out, List.mem_append_left _ HF.out.1, fun j hj => List.mem_append_left _ (HF.out.2.1 j hj), fun j hj => List.mem_append_right _ (own_mem.2 hj), fun j hj => by
        rcases List.mem_append.1 hj with hj | hj
        · exact Nat.lt_of_lt_of_le (HF.out.2.2.2 j hj) hsz
        · exact (HQ.out.free.lt j (own_mem.1 hj)).2⟩
    refine ⟨ret_int (by rw [HR.out]), _, by rw [HR.out, HK.out]; exact hfin, ((Turns.of_below HB.out).trans HT.out (fun j hj => .inl ?_)).trans HT2.out (fun j hj => .inl ?_), fun j hj => ?_⟩
    · rcases List.mem_cons.1 hj with e | e
      · rw [e]; exact HF.out.1
      · rw [List.mem_singleton.1 e]; exact HF.out.2.1 g rfl
    · rcases List.mem_cons.1 hj with e | e
      · rw [e]; exact HF.out.1
      · exact HF.out.2.2.1 j (own_mem.1 e)
    · rcases List.mem_append.1 hj with hj | hj
      · exact .inl hj
      · have hj := own_mem.1 hj
        rcases HV.out with q | ⟨g2, q, hl⟩
        · exact .inl (HF.out.2.2.1 j (q.symm.trans hj))
        · rw [q] at hj
          injection hj with hj
          exact .inr (by have := HB.out.size; omega)
end
end Go.Proofs.Ytpfhaafaoedgpaa.Pl
