import Derived.Test.YthejclgihhfenaaGreatCm21
import Derived.LaidEqlPtr
import Derived.Carry
/-
  Layer 14: the developers' heap: what is called a heap; how an object is found.
-/
namespace Go.Proofs.YthejclgihhfenaaGreat.Hd
open Go Go.RowKit Go.Proofs.YthejclgihhfenaaGreat.Pl Go.Proofs.YthejclgihhfenaaGreat.Tb Go.Proofs.YthejclgihhfenaaGreat.Vm Go.Proofs.YthejclgihhfenaaGreat.Hp Go.Proofs.YthejclgihhfenaaGreat.Td

/-- The object that has the number n. -/
def atL (l : ObL) (n : Int) : Option OP := if 1 ≤ n then (l[(n - 1).toNat]?).join else none
def foL (l : ObL) : Int → Option (Option Nat) := fun n => (atL l n).map (fun p => some p.g)
/-- The object of a value. -/
def hitL (l : ObL) (v : Vl) : Option OP := match atL l v.n with
  | some p => if p.o.kind = v.kind then some p else none
  | none => none
theorem at_some {l : ObL} {n : Int} {p : OP} (h : atL l n = some p) : 1 ≤ n ∧ l[(n - 1).toNat]? = some (some p) := by
  unfold atL at h
  split at h
  · rename_i h1
    refine ⟨h1, ?_⟩
    cases e : l[(n - 1).toNat]? with
    | none => rw [e] at h; cases h
    | some x => rw [e] at h; exact congrArg some h
  · cases h
theorem at_of {l : ObL} {i : Nat} {p : OP} (h : l[i]? = some (some p)) : atL l ((i : Int) + 1) = some p := by
  unfold atL
  rw [if_pos (by omega), show ((i : Int) + 1 - 1).toNat = i by omega, h]
  rfl
theorem hit_some {l : ObL} {v : Vl} {p : OP} (h : hitL l v = some p) : 1 ≤ v.n ∧ l[(v.n - 1).toNat]? = some (some p) ∧ p.o.kind = v.kind ∧ atL l v.n = some p := by
  unfold hitL at h
  split at h
  · rename_i q hq
    split at h
    · rename_i hk
      have h := Option.some.inj h
      subst h
      obtain ⟨h1, h2⟩ := at_some hq
      exact ⟨h1, h2, hk, hq⟩
    · cases h
  · cases h
theorem same_heap (b : Nat) (w : World) : (binOp .eql 23 (.pointer (some ⟨b, 0, none⟩)) (.pointer (some ⟨b, 0, none⟩))).run Tryz.prog w = .ok (.bool true) w := by
  obtain ⟨j, hj⟩ : ∃ j, Tryz.prog.info? 69 = some j := Option.isSome_iff_exists.1 (show (Tryz.prog.info? 69).isSome = true by kernel_rfl)
  exact run_eql_ptr_same w _ Tryz.underlying23 hj
theorem made_fn (b : Nat) (w : World) (hb : w.cell? ⟨b, 0, none⟩ = some (.pointer (some ⟨b, 0, none⟩))) :
    Calls Tryz.prog 55 #[.pointer (some ⟨b, 0, none⟩)] w fun e w' => e = .returned (.bool true) ∧ w' = w := by
  have hq := same_heap b w
  go_enter Tryz.func55, Tryz.ntmps55
  go_wp2_with fail
  go_ret
  exact ⟨rfl, rfl⟩
section
variable {w w' : World} {b pb ob tb : Nat} {mx made : Int} {nb : Option Nat} {Fp G : List Nat} {P : Ob} {so st sn : Nat} {ft : ByteArray → Option Int} {fn : Int → Option Unit} {l : ObL}
set_option maxRecDepth 100000 in
theorem at_fn (h : RM w b mx made pb ob tb nb Fp P so (foL l) st ft sn fn l) (v : Vl) (hv : v.In) :
    Calls Tryz.prog 77 #[.pointer (some ⟨b, 0, none⟩), v.val] w fun e w' => e = .returned (ptrG ((hitL l v).map (·.g))) ∧ Below w.heap.size w w' := by
  obtain ⟨M, hM, hp⟩ := h.objs
  have hwa := (Below.refl w.heap.size w).alloc (Nat.le_refl _) (.cells #[.int .u8 (v.kind : Int), .int .i64 v.n] 37)
  have hM1 := (hwa.block ob (lt_of_get hM)).trans hM
  have lk : ∀ w' : World, w'.heap[ob]? = some M → (Instr.lookup 65 (.map (some ob)) (.int .i64 v.n) true).run Tryz.prog w' = .ok (.tuple #[ptrG ((foL l v.n).getD none), .bool (foL l v.n).isSome]) w' := fun w' hw' => hp.look_ok so_ok (w := w') hw' v.n hv.2
  have h1 := h.below hwa
  have hs := h1.self
  have hm := h1.objc
  have HW := Lib.hid hwa
  have hx0 := new_block w (.cells #[.int .u8 (v.kind : Int), .int .i64 v.n] 37)
  have y0 := cell_of hx0 0 _ rfl
  have y1 := cell_of hx0 1 _ rfl
  have HV := Lib.hid hv
  obtain ⟨vk, vn⟩ := v
  dsimp only at *
  show Calls Tryz.prog 77 #[.pointer (some ⟨b, 0, none⟩), .agg #[.int .u8 (vk : Int), .int .i64 vn]] w _
  cases ha : atL l vn with
  | none =>
    have e : hitL l ⟨vk, vn⟩ = none := by unfold hitL; rw [ha]
    rw [e]
    have e2 : foL l vn = none := by unfold foL; rw [ha]; rfl
    rw [e2] at lk
    simp only [Option.getD_none, Option.isSome_none, Option.map_none, ptrG] at lk ⊢
    clear hM h hp hwa h1 hv ha e e2
    go_enter Tryz.func77, Tryz.ntmps77
    go_wp2_with fail
    generalize hW : w.alloc (.cells #[.int .u8 (vk : Int), .int .i64 vn] 37) = w0 at *
    clear hW
    refine (made_fn b _ hs).mono ?_
    rintro e w1 ⟨rfl, rfl⟩
    go_wp2_with fail
    have lk0 := lk w1 hM1
    have lk1 := lk w1.drew hM1
    go_quiet (fail)
    go_wp2_with fail
    go_quiet (fail)
    go_wp2_with fail
    go_ret
    exact ⟨rfl, below_drewN (below_drewN HW.out _) _⟩
  | some p =>
    obtain ⟨hn1, hi⟩ := at_some ha
    have e2 : foL l vn = some (some p.g) := by unfold foL; rw [ha]; rfl
    rw [e2] at lk
    simp only [Option.getD_some, Option.isSome_some, ptrG] at lk
    have hk0 := (h1.each _ p hi).1.kind
    have hg0 : p.g ≠ w.heap.size := fun e => by have := (h.each _ p hi).1.shape.lt; omega
    by_cases hk : p.o.kind = vk
    · have e : hitL l ⟨vk, vn⟩ = some p := by unfold hitL; rw [ha]; exact if_pos hk
      rw [e]
      simp only [Option.map_some, ptrG]
      rw [hk] at hk0
      have HG := Lib.hid hg0
      clear hM h hp hwa h1 hv ha e e2 hk hn1 hi hg0
      generalize p.g = g at *
      go_enter Tryz.func77, Tryz.ntmps77
      go_wp2_with fail
      generalize hW : w.alloc (.cells #[.int .u8 (vk : Int), .int .i64 vn] 37) = w0 at *
      clear hW
      refine (made_fn b _ hs).mono ?_
      rintro e w1 ⟨rfl, rfl⟩
      go_wp2_with fail
      have lk0 := lk w1 hM1
      go_quiet (fail)
      go_wp2_with fail
      go_quiet (fail)
      go_wp2_with fail
      go_ret
      exact ⟨rfl, below_drewN (below_drewN HW.out _) _⟩
    · have e : hitL l ⟨vk, vn⟩ = none := by unfold hitL; rw [ha]; exact if_neg hk
      rw [e]
      simp only [Option.map_none, ptrG]
      have hkv : ¬ (p.o.kind : Int) = (vk : Int) := by omega
      have HG := Lib.hid hg0
      clear hM h hp hwa h1 hv ha e e2 hk hn1 hi hg0
      generalize p.g = g at *
      generalize (p.o.kind : Int) = pk at *
      go_enter Tryz.func77, Tryz.ntmps77
      go_wp2_with fail
      generalize hW : w.alloc (.cells #[.int .u8 (vk : Int), .int .i64 vn] 37) = w0 at *
      clear hW
      refine (made_fn b _ hs).mono ?_
      rintro e w1 ⟨rfl, rfl⟩
      go_wp2_with fail
      have lk0 := lk w1 hM1
      go_quiet (fail)
      go_wp2_with fail
      go_quiet (fail)
      go_wp2_with fail
      go_ret
      exact ⟨rfl, below_drewN (below_drewN HW.out _) _⟩
/-- What find answers: the object of a value, if it is of a kind. -/
def findV (l : ObL) (k : Nat) (v : Vl) : Option OP := if v.kind = k then hitL l v else none
set_option maxRecDepth 100000 in
theorem find_fn (h : RM w b mx made pb ob tb nb Fp P so (foL l) st ft sn fn l) (k : Nat) (v : Vl) (hv : v.In) :
    Calls Tryz.prog 62 #[.pointer (some ⟨b, 0, none⟩), .int .u8 (k : Int), v.val] w fun e w' => e = .returned (ptrG ((findV l k v).map (·.g))) ∧ Below w.heap.size w w' := by
  have hwa := (Below.refl w.heap.size w).alloc (Nat.le_refl _) (.cells #[.int .u8 (v.kind : Int), .int .i64 v.n] 37)
  have h1 := h.below hwa
  have ca := at_fn h1 v hv
  have HW := Lib.hid hwa
  have hx0 := new_block w (.cells #[.int .u8 (v.kind : Int), .int .i64 v.n] 37)
  have y0 := cell_of hx0 0 _ rfl
  have y1 := cell_of hx0 1 _ rfl
  obtain ⟨r, hr⟩ : ∃ r, ptrG ((findV l k v).map (·.g)) = r := ⟨_, rfl⟩
  rw [hr]
  unfold findV at hr
  obtain ⟨vk, vn⟩ := v
  dsimp only at *
  have ca : Calls Tryz.prog 77 #[.pointer (some ⟨b, 0, none⟩), .agg #[.int .u8 (vk : Int), .int .i64 vn]] (w.alloc (.cells #[.int .u8 (vk : Int), .int .i64 vn] 37)) _ := ca
  show Calls Tryz.prog 62 #[.pointer (some ⟨b, 0, none⟩), .int .u8 (k : Int), .agg #[.int .u8 (vk : Int), .int .i64 vn]] w _
  by_cases hk : vk = k
  · rw [if_pos hk] at hr
    subst hk
    generalize ptrG ((hitL l ⟨vk, vn⟩).map (·.g)) = r2 at *
    subst hr
    clear hwa h1 hx0 hv h
    go_enter Tryz.func62, Tryz.ntmps62
    go_wp2_with fail
    refine ca.mono ?_
    rintro e w1 ⟨rfl, hb⟩
    have HB := Lib.hid (HW.out.trans (hb.mono HW.out.size))
    clear hb ca
    go_wp2_with fail
    go_ret
    exact ⟨rfl, HB.out⟩
  · rw [if_neg hk] at hr
    simp only [Option.map_none, ptrG] at hr
    subst hr
    have hkk : ¬ (vk : Int) = (k : Int) := by omega
    generalize (vk : Int) = vi at *
    generalize (k : Int) = ki at *
    clear hwa h1 hx0 hv h ca hk
    go_enter Tryz.func62, Tryz.ntmps62
    go_wp2_with fail
    go_ret
    exact ⟨rfl, HW.out⟩
/-- Whether a value may be kept, by the objects. -/
def keepL (l : ObL) (v : Vl) : Bool := if v.kind ≤ 2 then decide (v.n = 0) else if v.kind = 3 ∨ v.kind = 7 then true else if v.kind = 9 then false else (hitL l v).isSome
end
end Go.Proofs.YthejclgihhfenaaGreat.Hd

/-
  Layer 14: the developers' heap: what may be kept; what is an object's kind.
-/
namespace Go.Proofs.YthejclgihhfenaaGreat.Hd
open Go Go.RowKit Go.Proofs.YthejclgihhfenaaGreat.Pl Go.Proofs.YthejclgihhfenaaGreat.Tb Go.Proofs.YthejclgihhfenaaGreat.Vm Go.Proofs.YthejclgihhfenaaGreat.Hp Go.Proofs.YthejclgihhfenaaGreat.Td

section
variable {w w' : World} {b pb ob tb : Nat} {mx made : Int} {nb : Option Nat} {Fp G : List Nat} {P : Ob} {so st sn : Nat} {ft : ByteArray → Option Int} {fn : Int → Option Unit} {l : ObL}
set_option maxRecDepth 100000 in
theorem keep_fn (h : RM w b mx made pb ob tb nb Fp P so (foL l) st ft sn fn l) (v : Vl) (hv : v.In) :
    Calls Tryz.prog 66 #[.pointer (some ⟨b, 0, none⟩), v.val] w fun e w' => e = .returned (.bool (keepL l v)) ∧ Below w.heap.size w w' := by
  have hwa := (Below.refl w.heap.size w).alloc (Nat.le_refl _) (.cells #[.int .u8 (v.kind : Int), .int .i64 v.n] 37)
  have h1 := h.below hwa
  have ca := at_fn h1 v hv
  have HW := Lib.hid hwa
  have hx0 := new_block w (.cells #[.int .u8 (v.kind : Int), .int .i64 v.n] 37)
  have y0 := cell_of hx0 0 _ rfl
  have y1 := cell_of hx0 1 _ rfl
  obtain ⟨r, hr⟩ : ∃ r, keepL l v = r := ⟨_, rfl⟩
  rw [hr]
  unfold keepL at hr
  obtain ⟨vk, vn⟩ := v
  dsimp only at *
  have ca : Calls Tryz.prog 77 #[.pointer (some ⟨b, 0, none⟩), .agg #[.int .u8 (vk : Int), .int .i64 vn]] (w.alloc (.cells #[.int .u8 (vk : Int), .int .i64 vn] 37)) _ := ca
  show Calls Tryz.prog 66 #[.pointer (some ⟨b, 0, none⟩), .agg #[.int .u8 (vk : Int), .int .i64 vn]] w _
  clear hwa h1 hx0 hv h
  by_cases h2 : vk ≤ 2
  · rw [if_pos h2] at hr
    have hc : vk = 0 ∨ vk = 1 ∨ vk = 2 := by omega
    have hr2 : (vn == 0) = r := by rw [← hr]; rfl
    clear ca hr h2
    rcases hc with rfl | rfl | rfl
    all_goals
      go_enter Tryz.func66, Tryz.ntmps66
      go_wp2_with fail
      go_ret
      exact ⟨by first | exact ret_bool hr2 | (rw [← hr2]; rfl) | (subst hr2; simp), HW.out⟩
  · rw [if_neg h2] at hr
    by_cases h3 : vk = 3 ∨ vk = 7
    · rw [if_pos h3] at hr
      clear ca h2
      subst hr
      rcases h3 with rfl | rfl
      all_goals
        go_enter Tryz.func66, Tryz.ntmps66
        go_wp2_with fail
        go_ret
        exact ⟨rfl, HW.out⟩
    · rw [if_neg h3] at hr
      by_cases h9 : vk = 9
      · rw [if_pos h9] at hr
        clear ca h2 h3
        subst hr
        subst h9
        go_enter Tryz.func66, Tryz.ntmps66
        go_wp2_with fail
        go_ret
        exact ⟨rfl, HW.out⟩
      · rw [if_neg h9] at hr
        have g0 : ¬ (vk : Int) = 0 := by omega
        have g1 : ¬ (vk : Int) = 1 := by omega
        have g2 : ¬ (vk : Int) = 2 := by omega
        have g3 : ¬ (vk : Int) = 3 := by omega
        have g7 : ¬ (vk : Int) = 7 := by omega
        have g9 : ¬ (vk : Int) = 9 := by omega
        clear h2 h3 h9
        cases hh : hitL l ⟨vk, vn⟩ with
        | none =>
          rw [hh] at hr ca
          simp only [Option.isSome_none, Option.map_none, ptrG] at hr ca
          subst hr
          clear hh
          generalize (vk : Int) = vi at *
          go_enter Tryz.func66, Tryz.ntmps66
          go_wp2_with fail
          refine ca.mono ?_
          rintro e w1 ⟨rfl, hb⟩
          have HB := Lib.hid (HW.out.trans (hb.mono HW.out.size))
          clear hb ca
          go_wp2_with fail
          go_ret
          exact ⟨rfl, HB.out⟩
        | some p =>
          rw [hh] at hr ca
          simp only [Option.isSome_some, Option.map_some, ptrG] at hr ca
          subst hr
          clear hh
          generalize p.g = g at *
          generalize (vk : Int) = vi at *
          go_enter Tryz.func66, Tryz.ntmps66
          go_wp2_with fail
          refine ca.mono ?_
          rintro e w1 ⟨rfl, hb⟩
          have HB := Lib.hid (HW.out.trans (hb.mono HW.out.size))
          clear hb ca
          go_wp2_with fail
          go_ret
          exact ⟨rfl, HB.out⟩
end
def objK (k : Nat) : Bool := decide (k = 4) || (decide (k = 5) || (decide (k = 6) || (decide (k = 8) || decide (k = 9))))
theorem isobj_fn (k : Nat) (w : World) : Calls Tryz.prog 93 #[.int .u8 (k : Int)] w fun e w' => e = .returned (.bool (objK k)) ∧ w' = w := by
  by_cases hk : k = 4 ∨ k = 5 ∨ k = 6 ∨ k = 8 ∨ k = 9
  · rcases hk with rfl | rfl | rfl | rfl | rfl
    all_goals
      go_enter Tryz.func93, Tryz.ntmps93
      go_wp2_with fail
      go_ret
      exact ⟨rfl, rfl⟩
  · have e : objK k = false := by unfold objK; simp; omega
    rw [e]
    have g4 : ¬ (k : Int) = 4 := by omega
    have g5 : ¬ (k : Int) = 5 := by omega
    have g6 : ¬ (k : Int) = 6 := by omega
    have g8 : ¬ (k : Int) = 8 := by omega
    have g9 : ¬ (k : Int) = 9 := by omega
    clear hk e
    generalize (k : Int) = ki at *
    go_enter Tryz.func93, Tryz.ntmps93
    go_wp2_with fail
    go_ret
    exact ⟨rfl, rfl⟩
end Go.Proofs.YthejclgihhfenaaGreat.Hd
