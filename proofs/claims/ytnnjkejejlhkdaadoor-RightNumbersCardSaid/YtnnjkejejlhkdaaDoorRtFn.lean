/-
  Layer 9: a function as it is asked; the small questions of it.
-/
import Derived.Test.YtnnjkejejlhkdaaDoorRtHas
import Derived.Test.YtnnjkejejlhkdaaDoorRtAll
import Derived.Deep.QuietTactic
import Derived.BigQuiet
import Derived.WalkSmall
namespace Go.Proofs.YtnnjkejejlhkdaaDoor.Rt
open Go Go.RowKit

theorem run_mf (fn : Fn) (first cap : Array Value) (w : World) : (Instr.makeFunc fn first cap).run Tryd.prog w = .ok (.func fn first cap) w := rfl
theorem ret_bool {x y : Bool} (h : x = y) : Ending.returned (Value.bool x) = .returned (.bool y) := by rw [h]

/-- The function that is asked, at block F. -/
def FnAt (F : Nat) (f : Pr) (strs protos : Nat) (w : World) : Prop :=
  ∃ vb vu vs ve, w.heap[F]? = some (.cells #[.int .i64 f.params, .bool f.more, .int .i64 f.slots, vb, vu, vs, ve, .int .i64 f.start, .int .i64 strs, .int .i64 protos] 57 (0, 0)) ∧ LstB w.heap.size w vb (bools f.boxed) ∧ RowsB 2 UpC w.heap.size w vu f.ups ∧ RowsB 7 (StC w.heap.size w) w.heap.size w vs f.stmts ∧ RowsB 3 (ExC w.heap.size w) w.heap.size w ve f.exprs ∧
    In64 f.params ∧ In64 f.slots ∧ In64 f.start ∧ Len strs ∧ Len protos
theorem FnAt.below {F : Nat} {f : Pr} {strs protos : Nat} {w w' : World} (h : FnAt F f strs protos w) (hb : Below w.heap.size w w') : FnAt F f strs protos w' := by
  obtain ⟨vb, vu, vs, ve, h0, h1, h2, h3, h4, i⟩ := h
  exact ⟨vb, vu, vs, ve, by rw [hb.block F (lt_of_get h0)]; exact h0, (h1.below hb).mono hb.size, (h2.below hb (fun _ _ h => h)).mono hb.size (fun _ _ h => h), (h3.below hb (fun _ _ h => h.below hb)).mono hb.size (fun _ _ h => h.mono hb.size), (h4.below hb (fun _ _ h => h.below hb)).mono hb.size (fun _ _ h => h.mono hb.size), i⟩

theorem kind_at {f : Pr} {c : Int} (h0 : 0 ≤ c) (h1 : c < f.exprs.length) : ∃ h : c.toNat < f.exprs.length, kindAt f c = f.exprs[c.toNat].k := by
  have h : c.toNat < f.exprs.length := by omega
  refine ⟨h, ?_⟩
  unfold kindAt
  rw [List.getElem?_map, List.getElem?_eq_getElem h]; rfl
theorem val_k (k : Nat) : ((k : Int) != 19 && (k : Int) != 20) = (decide (k ≠ 19) && decide (k ≠ 20)) := by
  rw [Bool.eq_iff_iff]; simp; omega

set_option maxHeartbeats 1000000 in
set_option maxRecDepth 100000 in
theorem value_fn (F : Nat) (f : Pr) (strs protos : Nat) (i c : Int) (w : World) (hF : FnAt F f strs protos w) (h0 : 0 ≤ c) (h1 : c < f.exprs.length) :
    Calls Tryd.prog 55 #[.pointer (some ⟨F, 0, none⟩), .int .i64 i, .int .i64 c] w fun e w' => e = .returned (.bool (valueB f c)) ∧ Below w.heap.size w w' := by
  obtain ⟨vb, vu, vs, ve, hh, hvb, hvu, hvs, hve, hint⟩ := hF
  clear hint
  obtain ⟨hc, hk⟩ := kind_at h0 h1
  unfold valueB
  rw [hk]
  clear hk
  obtain ⟨g, off, cap, cs, hg, rfl, _, hC, hcell⟩ := hve.item hc
  obtain ⟨vk, rfl, _, hk256, _⟩ := hC
  obtain ⟨_, c0⟩ := hcell 0 (by decide)
  have c0 : w.cell? ⟨g, off + c.toNat * 3, none⟩ = some (.int .u8 (f.exprs[c.toNat].k : Int)) := c0
  generalize f.exprs[c.toNat].k = k at *
  have hf := cell_of hh 6 _ rfl
  clear hcell hvb hvu hvs hve hh
  obtain ⟨m, rfl⟩ : ∃ m : Nat, c = m := ⟨c.toNat, by omega⟩
  rw [Int.toNat_natCast] at c0 hc
  go_enter Tryd.func55, Tryd.ntmps55
  go_wp2_with fail
  · go_ret
    exact ⟨ret_bool (by have e : k = 19 := by omega
                        subst e; rfl), Below.refl _ _⟩
  · go_ret
    exact ⟨ret_bool (val_k k), Below.refl _ _⟩

theorem two (w : World) (A B : Obj) : ((w.alloc A).alloc B).heap[w.heap.size]? = some A ∧ ((w.alloc A).alloc B).heap[w.heap.size + 1]? = some B ∧ Below w.heap.size w ((w.alloc A).alloc B) := by
  have s1 : (w.alloc A).heap.size = w.heap.size + 1 := by simp
  have bA : Below w.heap.size w (w.alloc A) := (Below.refl _ _).alloc (Nat.le_refl _) A
  have bB : Below (w.alloc A).heap.size (w.alloc A) ((w.alloc A).alloc B) := (Below.refl _ _).alloc (Nat.le_refl _) B
  refine ⟨(bB.block _ (by omega)).trans (new_block w A), ?_, bA.trans (bB.mono bA.size)⟩
  rw [← s1]; exact new_block _ B
theorem three (w : World) (A B C : Obj) : (((w.alloc A).alloc B).alloc C).heap[w.heap.size]? = some A ∧ (((w.alloc A).alloc B).alloc C).heap[w.heap.size + 1]? = some B ∧ (((w.alloc A).alloc B).alloc C).heap[w.heap.size + 1 + 1]? = some C ∧ Below w.heap.size w (((w.alloc A).alloc B).alloc C) := by
  obtain ⟨h0, h1, hb⟩ := two w A B
  have s2 : ((w.alloc A).alloc B).heap.size = w.heap.size + 1 + 1 := by simp
  have bC : Below ((w.alloc A).alloc B).heap.size ((w.alloc A).alloc B) (((w.alloc A).alloc B).alloc C) := (Below.refl _ _).alloc (Nat.le_refl _) C
  refine ⟨(bC.block _ (by omega)).trans h0, (bC.block _ (by omega)).trans h1, ?_, hb.trans (bC.mono hb.size)⟩
  rw [← s2]; exact new_block _ C

/-- What 'of' has captured: kinds, and the function. -/
def OfAt (bt bf F : Nat) (ks : List Nat) (w : World) : Prop :=
  (∃ v, w.heap[bt]? = some (.cells #[v] 97 (0, 0)) ∧ LstB w.heap.size w v (kinds ks)) ∧ w.heap[bf]? = some (.cells #[.pointer (some ⟨F, 0, none⟩)] 69 (0, 0))
theorem OfAt.below {bt bf F : Nat} {ks : List Nat} {w w' : World} (h : OfAt bt bf F ks w) (hb : Below w.heap.size w w') : OfAt bt bf F ks w' := by
  obtain ⟨⟨v, h1, h2⟩, h3⟩ := h
  exact ⟨⟨v, by rw [hb.block bt (lt_of_get h1)]; exact h1, (h2.below hb).mono hb.size⟩, by rw [hb.block bf (lt_of_get h3)]; exact h3⟩

set_option maxHeartbeats 1000000 in
set_option maxRecDepth 100000 in
theorem of1_fn (F : Nat) (f : Pr) (strs protos : Nat) (bt bf : Nat) (ks : List Nat) (i c : Int) (w : World) (hF : FnAt F f strs protos w) (hO : OfAt bt bf F ks w) (h0 : 0 ≤ c) (h1 : c < f.exprs.length) :
    Calls Tryd.prog 56 #[.int .i64 i, .int .i64 c, .pointer (some ⟨bt, 0, none⟩), .pointer (some ⟨bf, 0, none⟩)] w fun e w' => e = .returned (.bool (ofB f ks c)) ∧ Below w.heap.size w w' := by
  obtain ⟨vb, vu, vs, ve, hh, hvb, hvu, hvs, hve, hint⟩ := hF
  clear hint
  obtain ⟨⟨vv, ht, hl⟩, hbf⟩ := hO
  obtain ⟨hc, hk⟩ := kind_at h0 h1
  unfold ofB
  rw [hk]
  clear hk
  obtain ⟨g, off, cap, cs, hg, rfl, _, hC, hcell⟩ := hve.item hc
  obtain ⟨vk, rfl, _, hk256, _⟩ := hC
  obtain ⟨_, c0⟩ := hcell 0 (by decide)
  have c0 : w.cell? ⟨g, off + c.toNat * 3, none⟩ = some (.int .u8 (f.exprs[c.toNat].k : Int)) := c0
  generalize f.exprs[c.toNat].k = k at *
  obtain ⟨av, cv, rfl, _⟩ := hl.slice
  have hf := cell_of hh 6 _ rfl
  have ct := cell_of ht 0 _ rfl
  have cf := cell_of hbf 0 _ rfl
  have cc := fun n => contains_kinds _ (w.drewN n) _ ks k (hl.below (below_drewN (Below.refl _ _) n))
  clear hcell hvb hvu hvs hve hh ht hbf hl
  obtain ⟨m, rfl⟩ : ∃ m : Nat, c = m := ⟨c.toNat, by omega⟩
  rw [Int.toNat_natCast] at c0 hc
  have hl1 : (m : Int) < (f.exprs.length : Int) := h1
  go_enter Tryd.func56, Tryd.ntmps56
  go_wp2_with fail
  go_quiet ((go_at_call 57; exact Calls.quiet_of_same (((cc _)).mono fun _ _ h => ⟨h.2, h.1⟩)))
  go_wp2_with fail
  go_ret
  exact ⟨rfl, below_drewN (Below.refl _ _) _⟩

set_option maxHeartbeats 1000000 in
set_option maxRecDepth 100000 in
theorem of_fn (F : Nat) (v : Value) (ks : List Nat) (w : World) (hl : LstB w.heap.size w v (kinds ks)) :
    Calls Tryd.prog 45 #[.pointer (some ⟨F, 0, none⟩), v] w fun e w' => ∃ bt bf, e = .returned (.func (.func 56) #[] #[.pointer (some ⟨bt, 0, none⟩), .pointer (some ⟨bf, 0, none⟩)]) ∧ OfAt bt bf F ks w' ∧ Below w.heap.size w w' := by
  have hmf := run_mf
  have HL := Lib.hid hl
  obtain ⟨av, cv, rfl, _⟩ := hl.slice
  clear hl
  go_enter Tryd.func45, Tryd.ntmps45
  go_wp2_with fail
  go_ret
  obtain ⟨t0, t1, b2⟩ := two w (.cells #[.pointer (some ⟨F, 0, none⟩)] 69) (.cells #[.slice av (kinds ks).length cv] 97)
  exact ⟨_, _, rfl, ⟨⟨_, t1, (HL.out.below b2).mono b2.size⟩, t0⟩, b2⟩

end Go.Proofs.YtnnjkejejlhkdaaDoor.Rt
