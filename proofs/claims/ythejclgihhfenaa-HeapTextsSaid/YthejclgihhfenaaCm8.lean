import Derived.Test.YthejclgihhfenaaCm1
import Derived.Test.YthejclgihhfenaaCm7
import Derived.Deep.QuietTactic
import Derived.BigQuiet
import Derived.Deep.LoopGhost
import Derived.WalkSmall
import Derived.Deep.CutBlock
import Derived.Deep.DeepCutAuto
import Derived.StillTailTactics
import Derived.Deep.RegionHeld3
import Derived.LaidEqlPtr
import Derived.Carry
/-
  Layer 13: what the calls of a table say, whatever lies behind them; helpers of the laws.
-/
namespace Go.Proofs.Ythejclgihhfenaa.Tb
open Go Go.RowKit Go.Proofs.Ythejclgihhfenaa.Pl

def Fresh (F F' : List Nat) (w : World) : Prop := ∀ x ∈ F', x ∈ F ∨ w.heap.size ≤ x
/-- TA w b t F: at block b lies a table of the places t, in the blocks F. -/
abbrev TableP := World → Nat → Tbl → List Nat → Prop
def NewSays (TA : TableP) (w : World) (e : Ending) (w' : World) : Prop :=
  ∃ b F, e = .returned (.pointer (some ⟨b, 0, none⟩)) ∧ TA w' b [] F ∧ (∀ k ∈ F, w.heap.size ≤ k) ∧ Below w.heap.size w w'
def SetSays (TA : TableP) (b : Nat) (t : Tbl) (F : List Nat) (k v : Vl) (w : World) (e : Ending) (w' : World) : Prop :=
  e = .returned (.int .i64 (setT t k v).2) ∧ ∃ F', TA w' b (setT t k v).1 F' ∧ Turns F w w' ∧ Fresh F F' w
theorem border_one {t : Tbl} {n m : Nat} (h : BorderT t n) (h' : BorderT t m) : n = m := by
  rcases Nat.lt_trichotomy n m with h1 | h1 | h1
  · exact absurd h.2 (h'.1 n h1)
  · exact h1
  · exact absurd h'.2 (h.1 m h1)

/-- A table in blocks of the call's own; beside it the law's. -/
def TblAt (TA : TableP) (w0 : World) (b : Nat) (t : Tbl) (K : Own) (w : World) : Prop := ∃ F, TA w b t F ∧ (∀ k ∈ F, w0.heap.size ≤ k) ∧ Below w0.heap.size w0 w ∧ ∀ p ∈ K, w.heap[p.1]? = some p.2 ∧ p.1 ∉ F
section
variable {TA : TableP} {w0 w w' : World} {b : Nat} {t t' : Tbl} {F F' : List Nat} {K : Own}
theorem TblAt.step (hF : ∀ k ∈ F, w0.heap.size ≤ k) (hb : Below w0.heap.size w0 w) (hK : ∀ p ∈ K, w.heap[p.1]? = some p.2 ∧ p.1 ∉ F) (hp : TA w' b t' F') (ht : Turns F w w') (hf : Fresh F F' w) : TblAt TA w0 b t' K w' :=
  ⟨F', hp, fun k hk => (hf k hk).elim (hF k) (fun x => Nat.le_trans hb.size x), hb.trans (ht.to_below hb.size hF), fun p hp => by
    obtain ⟨h1, h2⟩ := hK p hp
    exact ⟨(ht.block p.1 (lt_of_get h1) h2).trans h1, fun hm => (hf p.1 hm).elim h2 (fun x => absurd (lt_of_get h1) (Nat.not_lt.2 x))⟩⟩
theorem TblAt.low (h : TblAt TA w0 b t K w) : Below w0.heap.size w0 w := by
  obtain ⟨_, _, _, h0, _⟩ := h
  exact h0
theorem TblAt.own (h : TblAt TA w0 b t K w) {k : Nat} {o : Obj} (hm : (k, o) ∈ K) : w.heap[k]? = some o := by
  obtain ⟨_, _, _, _, hK⟩ := h
  exact (hK _ hm).1
theorem TblAt.fewer {K' : Own} (h : TblAt TA w0 b t K w) (hs : ∀ p ∈ K', p ∈ K) : TblAt TA w0 b t K' w := by
  obtain ⟨F, hp, hF, h0, hK⟩ := h
  exact ⟨F, hp, hF, h0, fun p hp => hK p (hs p hp)⟩
end
end Go.Proofs.Ythejclgihhfenaa.Tb

/-
  Layer 13: the developers' table: was it made; what is a key, a value; Get, Len, Count, New.
-/
namespace Go.Proofs.Ythejclgihhfenaa.Td
open Go Go.RowKit Go.Proofs.Ythejclgihhfenaa.Pl Go.Proofs.Ythejclgihhfenaa.Tb

theorem same_ptr (b : Nat) (w : World) : (binOp .eql 66 (.pointer (some ⟨b, 0, none⟩)) (.pointer (some ⟨b, 0, none⟩))).run Try.prog w = .ok (.bool true) w := by
  obtain ⟨j, hj⟩ : ∃ j, Try.prog.info? 101 = some j := Option.isSome_iff_exists.1 (show (Try.prog.info? 101).isSome = true by kernel_rfl)
  exact run_eql_ptr_same w _ Try.underlying66 hj
theorem nil_ptr (b : Nat) (w : World) : (binOp .eql 66 (.pointer none) (.pointer (some ⟨b, 0, none⟩))).run Try.prog w = .ok (.bool false) w := by
  have h : ∀ d : Nat, (Op.equalIn (d + 1) 66 (.pointer none) (.pointer (some ⟨b, 0, none⟩))).run Try.prog w = .ok false w := fun d => by
    simp [Op.equalIn, run_underlying Try.underlying66]
  simp only [binOp]
  simp [Op.equal, Op.maxDepth, h 9999]
theorem made_fn (b : Nat) (w : World) (hb : w.cell? ⟨b, 0, none⟩ = some (.pointer (some ⟨b, 0, none⟩))) :
    Calls Try.prog 47 #[.pointer (some ⟨b, 0, none⟩)] w fun e w' => e = .returned (.bool true) ∧ w' = w := by
  have hq := same_ptr b w
  go_enter Try.func47, Try.ntmps47
  go_wp2_with fail
  go_ret
  exact ⟨rfl, rfl⟩
theorem dead_fn (g : Nat) (k : Nat) (w : World) (h : w.cell? ⟨g, 2, none⟩ = some (.int .u8 (k : Int))) :
    Calls Try.prog 62 #[.pointer (some ⟨g, 0, none⟩)] w fun e w' => e = .returned (.bool (decide (k = 0))) ∧ w' = w := by
  by_cases hk : k = 0
  · subst hk
    go_enter Try.func62, Try.ntmps62
    go_wp2_with fail
    go_ret
    exact ⟨rfl, rfl⟩
  · have hk2 : ¬ (k : Int) = 0 := by omega
    rw [decide_eq_false hk]
    clear hk
    go_enter Try.func62, Try.ntmps62
    go_wp2_with fail
    go_ret
    exact ⟨ret_bool (by simp; omega), rfl⟩
set_option maxRecDepth 100000 in
theorem value_fn (v : Vl) (w : World) (h : v.In) :
    Calls Try.prog 49 #[v.val] w fun e w' => e = .returned (.bool (valB v)) ∧ Below w.heap.size w w' := by
  obtain ⟨k, n⟩ := v
  obtain ⟨h1, h2, h3⟩ := h
  dsimp only at h1 h2 h3
  have hx := new_block w (.cells #[.int .u8 (k : Int), .int .i64 n] 31)
  have y0 := cell_of hx 0 _ rfl
  have y1 := cell_of hx 1 _ rfl
  have hb := (Below.refl w.heap.size w).alloc (Nat.le_refl _) (.cells #[.int .u8 (k : Int), .int .i64 n] 31)
  have HB := Lib.hid hb
  clear hb hx
  obtain ⟨q, hq⟩ : ∃ q : Int, (k : Int) = q := ⟨_, rfl⟩
  have e : valB ⟨k, n⟩ = (decide (q ≤ 8) && (decide (2 < q) || decide (n = 0))) := by
    unfold valB plainB
    dsimp only
    rw [← hq, show decide (k ≤ 8) = decide ((k : Int) ≤ 8) from decide_eq_decide.2 (by omega), show decide (2 < k) = decide (2 < (k : Int)) from decide_eq_decide.2 (by omega)]
  rw [e]
  have hq0 : 0 ≤ q ∧ q < 256 := by omega
  show Calls _ _ #[.agg #[.int .u8 (k : Int), .int .i64 n]] w _
  rw [hq] at HB y0 y1 ⊢
  clear e hq h1
  by_cases c0 : q ≤ 2
  · by_cases cn : n = 0
    · subst cn
      rcases (show q = 0 ∨ q = 1 ∨ q = 2 by omega) with rfl | rfl | rfl <;>
      · go_enter Try.func49, Try.ntmps49
        go_wp2_with fail
        go_ret
        exact ⟨rfl, HB.out⟩
    · rcases (show q = 0 ∨ q = 1 ∨ q = 2 by omega) with rfl | rfl | rfl <;>
      · go_enter Try.func49, Try.ntmps49
        go_wp2_with fail
        go_ret
        exact ⟨ret_bool (by simp [cn]), HB.out⟩
  · have d0 : ¬ q = 0 := by omega
    have d1 : ¬ q = 1 := by omega
    have d2 : ¬ q = 2 := by omega
    have d3 : 3 ≤ q := by omega
    have d4 : 2 < q := by omega
    by_cases c8 : q ≤ 8
    · go_enter Try.func49, Try.ntmps49
      go_wp2_with fail
      go_ret
      exact ⟨ret_bool (by simp), HB.out⟩
    · go_enter Try.func49, Try.ntmps49
      go_wp2_with fail
      go_ret
      exact ⟨ret_bool (by simp [c8]), HB.out⟩
set_option maxRecDepth 100000 in
theorem key_fn (v : Vl) (w : World) (h : v.In) :
    Calls Try.prog 48 #[v.val] w fun e w' => e = .returned (.bool (keyB v)) ∧ Below w.heap.size w w' := by
  have e : keyB v = (decide (¬ v.kind = 0) && valB v) := by
    unfold keyB valB
    rw [show decide (1 ≤ v.kind) = decide (¬ v.kind = 0) from decide_eq_decide.2 (by omega)]
  rw [e]
  clear e
  have hx := new_block w (.cells #[.int .u8 (v.kind : Int), .int .i64 v.n] 31)
  have y0 := cell_of hx 0 _ rfl
  have y1 := cell_of hx 1 _ rfl
  have hb := (Below.refl w.heap.size w).alloc (Nat.le_refl _) (.cells #[.int .u8 (v.kind : Int), .int .i64 v.n] 31)
  have c := value_fn v (w.alloc (.cells #[.int .u8 (v.kind : Int), .int .i64 v.n] 31)) h
  have HB := Lib.hid hb
  clear hb hx
  unfold Vl.val Vl.cells at c ⊢
  generalize valB v = B at *
  obtain ⟨k, n⟩ := v
  dsimp only at *
  by_cases hk : k = 0
  · subst hk
    go_enter Try.func48, Try.ntmps48
    go_wp2_with fail
    go_ret
    exact ⟨ret_bool (by simp), HB.out⟩
  · have hk2 : ¬ (k : Int) = 0 := by omega
    rw [decide_eq_true hk]
    clear hk h
    go_enter Try.func48, Try.ntmps48
    go_wp2_with fail
    refine c.mono ?_
    rintro e w1 ⟨rfl, h1⟩
    have HB1 := Lib.hid (HB.out.trans (h1.mono HB.out.size))
    clear h1
    go_wp2_with fail
    go_ret
    exact ⟨ret_bool (by simp; intro _; omega), HB1.out⟩
end Go.Proofs.Ythejclgihhfenaa.Td

/-
  Layer 13: the developers' table: Get, Len, Count, New.
-/
namespace Go.Proofs.Ythejclgihhfenaa.Td
open Go Go.RowKit Go.Proofs.Ythejclgihhfenaa.Pl Go.Proofs.Ythejclgihhfenaa.Tb

theorem find_cons (p : Plc) (l : List Plc) (k : Vl) : findP (p :: l) k = if p.k = k then some p.b else findP l k := by
  unfold findP
  rw [List.find?_cons]
  by_cases h : p.k = k
  · rw [decide_eq_true h, if_pos h]; rfl
  · rw [decide_eq_false h, if_neg h]
theorem has_cons (p : Vl × Vl) (t : Tbl) (k : Vl) : hasT (p :: t) k = (decide (p.1 = k) || hasT t k) := by unfold hasT; rw [List.any_cons]
theorem find_cases : ∀ (l : List Plc) (k : Vl), (findP l k = none ∧ hasT (tblOf l) k = false ∧ getT (tblOf l) k = nilV ∧ ∀ p ∈ l, p.k ≠ k) ∨ ∃ p ∈ l, p.k = k ∧ findP l k = some p.b ∧ hasT (tblOf l) k = true ∧ getT (tblOf l) k = p.v
  | [], k => .inl ⟨rfl, rfl, rfl, fun _ h => absurd h (List.not_mem_nil)⟩
  | p :: l, k => by
    show (findP (p :: l) k = none ∧ hasT (pv p :: tblOf l) k = false ∧ getT (pv p :: tblOf l) k = nilV ∧ _) ∨ ∃ q ∈ p :: l, q.k = k ∧ findP (p :: l) k = some q.b ∧ hasT (pv p :: tblOf l) k = true ∧ getT (pv p :: tblOf l) k = q.v
    rw [find_cons, has_cons, get_cons]
    by_cases h : p.k = k
    · exact .inr ⟨p, List.mem_cons_self .., h, by rw [if_pos h], by rw [show decide ((pv p).1 = k) = true from decide_eq_true h]; rfl, by rw [if_pos (show (pv p).1 = k from h)]; rfl⟩
    · rw [if_neg h, if_neg (show ¬ (pv p).1 = k from h), show decide ((pv p).1 = k) = false from decide_eq_false h, Bool.false_or]
      rcases find_cases l k with ⟨h1, h2, h3, h4⟩ | ⟨q, hq, h1, h2, h3, h4⟩
      · exact .inl ⟨h1, h2, h3, fun r hr => by
          rcases List.mem_cons.1 hr with rfl | hr
          · exact h
          · exact h4 r hr⟩
      · exact .inr ⟨q, List.mem_cons_of_mem _ hq, h1, h2, h3, h4⟩
section
variable {w w' : World} {b mb : Nat} {l : List Plc} {lv ln : Int} {G : List Nat}
theorem TM.below (h : TM w b mb l lv ln) (hb : Below w.heap.size w w') : TM w' b mb l lv ln :=
  h.turns (G := []) (Turns.of_below hb) (List.not_mem_nil) (List.not_mem_nil) (fun _ _ => List.not_mem_nil)
set_option maxRecDepth 100000 in
theorem get_fn' (h : TM w b mb l lv ln) (k : Vl) (hk : k.In) :
    Calls Try.prog 29 #[.pointer (some ⟨b, 0, none⟩), k.val] w (fun e w' => e = .returned (getT (tblOf l) k).val ∧ Below w.heap.size w w') := by
  obtain ⟨M, hM, hp⟩ := h.map
  have hwa := ((Below.refl w.heap.size w).alloc (Nat.le_refl _) (.cells #[.int .u8 (k.kind : Int), .int .i64 k.n] 31)).alloc (by simp) (.cells #[.int .u8 0, .int .i64 0] 31)
  have hM1 := (hwa.block mb h.mapLt).trans hM
  have lk : ∀ w' : World, w'.heap[mb]? = some M → _ := fun w' hw' => hp.look_ok (w := w') hw' k hk
  have h1 := h.below hwa
  have hs := h1.head.self
  have hm := h1.head.map
  have HW := Lib.hid hwa
  have hx0 := (Below.heap_alloc (w.alloc (.cells #[.int .u8 (k.kind : Int), .int .i64 k.n] 31)) (.cells #[.int .u8 0, .int .i64 0] 31) _ (by simp)).trans (new_block w (.cells #[.int .u8 (k.kind : Int), .int .i64 k.n] 31))
  have y0 := cell_of hx0 0 _ rfl
  have y1 := cell_of hx0 1 _ rfl
  have hx1 := new_block (w.alloc (.cells #[.int .u8 (k.kind : Int), .int .i64 k.n] 31)) (.cells #[.int .u8 0, .int .i64 0] 31)
  rw [show (w.alloc (.cells #[.int .u8 (k.kind : Int), .int .i64 k.n] 31)).heap.size = w.heap.size + 1 from by simp] at hx1
  have z0 := cell_of hx1 0 _ rfl
  have z1 := cell_of hx1 1 _ rfl
  have f0 := free_of hx1 0
  have f1 := free_of hx1 1
  obtain ⟨β, hβ⟩ : ∃ β, w.heap.size = β := ⟨_, rfl⟩
  have HBE := Lib.hid hβ
  rcases find_cases l k with ⟨f1, _, f3, _⟩ | ⟨p, hp1, hpk, f1, _, f3⟩
  · rw [f1] at lk
    rw [f3]
    unfold ptrP mapT at lk
    unfold Vl.val Vl.cells nilV at *
    clear hM hx0 hx1 h hp hwa h1 hk f1 f3
    obtain ⟨kk, kn⟩ := k
    dsimp only at *
    go_enter Try.func29, Try.ntmps29
    go_wp2_with fail
    generalize hW : (w.alloc (.cells #[.int .u8 (kk : Int), .int .i64 kn] 31)).alloc (.cells #[.int .u8 0, .int .i64 0] 31) = w0 at *
    rw [hβ] at y0 y1 z0 z1 f0 f1
    clear hW hβ
    refine (made_fn b _ hs).mono ?_
    rintro e w1 ⟨rfl, rfl⟩
    go_wp2_with fail
    have hMd : w1.drew.heap[mb]? = some M := hM1
    go_region_held3 (fun w' => w'.cell? ⟨b, 1, none⟩ = some (.map (some mb)) ∧ w'.cell? ⟨β, 0, none⟩ = some (.int .u8 (kk : Int)) ∧ w'.cell? ⟨β, 1, none⟩ = some (.int .i64 kn) ∧ w'.heap[mb]? = some M)
      (go_keep)
      (fail)
    go_wp2_with fail
    refine bodyPost_ret (v := .agg #[.int .u8 0, .int .i64 0]) (by simp [results, Try.results29, go_sem, z0, z1]) rfl ?_
    have hle : w.heap.size ≤ β + 1 := by have := HBE.out; omega
    exact ⟨rfl, ((HW.out.setCell (p := ⟨β + 1, 0, none⟩) hle _).setCell (p := ⟨β + 1, 1, none⟩) hle _).drew⟩
  · rw [f1] at lk
    rw [f3]
    unfold ptrP mapT at lk
    have hn := h1.nodes p hp1
    have hpb := Lib.hid (show p.b ≠ w.heap.size + 1 from fun e => by have := (h.nodes p hp1).shape.lt; omega)
    unfold Vl.val Vl.cells at *
    clear hM hx0 hx1 h hp hwa h1 f1 f3
    have q0 := hn.v0
    have q1 := hn.v1
    have HI := Lib.hid hk
    clear hn hk hpk hp1
    generalize p.b = g at *
    generalize p.v = pu at *
    obtain ⟨pk, pn⟩ := pu
    obtain ⟨kk, kn⟩ := k
    dsimp only at *
    go_enter Try.func29, Try.ntmps29
    go_wp2_with fail
    generalize hW : (w.alloc (.cells #[.int .u8 (kk : Int), .int .i64 kn] 31)).alloc (.cells #[.int .u8 0, .int .i64 0] 31) = w0 at *
    rw [hβ] at y0 y1 z0 z1 f0 f1 hpb
    clear hW hβ
    refine (made_fn b _ hs).mono ?_
    rintro e w1 ⟨rfl, rfl⟩
    go_wp2_with fail
    have hMd : w1.drew.heap[mb]? = some M := hM1
    go_region_held3 (fun w' => w'.cell? ⟨b, 1, none⟩ = some (.map (some mb)) ∧ w'.cell? ⟨β, 0, none⟩ = some (.int .u8 (kk : Int)) ∧ w'.cell? ⟨β, 1, none⟩ = some (.int .i64 kn) ∧ w'.heap[mb]? = some M)
      (go_keep)
      (fail)
    go_wp2_with fail
    refine bodyPost_ret (v := .agg #[.int .u8 (pk : Int), .int .i64 pn]) (by simp [results, Try.results29, go_sem, z0, z1]) rfl ?_
    have hle : w.heap.size ≤ β + 1 := by have := HBE.out; omega
    exact ⟨rfl, ((HW.out.setCell (p := ⟨β + 1, 0, none⟩) hle _).setCell (p := ⟨β + 1, 1, none⟩) hle _).drew⟩
theorem count_fn' (h : TM w b mb l lv ln) :
    Calls Try.prog 54 #[.pointer (some ⟨b, 0, none⟩)] w (fun e w' => e = .returned (.int .i64 lv) ∧ w' = w) := by
  have hs := h.head.self
  have hl := h.head.live
  clear h
  go_enter Try.func54, Try.ntmps54
  go_wp2_with fail
  refine (made_fn b _ hs).mono ?_
  rintro e w1 ⟨rfl, rfl⟩
  go_wp2_with fail
  go_ret
  exact ⟨rfl, rfl⟩
end
end Go.Proofs.Ythejclgihhfenaa.Td

/-
  Layer 13: the developers' table: a new one.
-/
namespace Go.Proofs.Ythejclgihhfenaa.Td
open Go Go.RowKit Go.Proofs.Ythejclgihhfenaa.Pl Go.Proofs.Ythejclgihhfenaa.Tb

theorem drew_turns (w : World) : Turns [] w w.drew := ⟨rfl, rfl, rfl, Nat.le_refl _, fun _ _ _ => rfl⟩
theorem new_fn' (w : World) : Calls Try.prog 27 #[] w (fun e w' => ∃ b mb, e = .returned (.pointer (some ⟨b, 0, none⟩)) ∧ w.heap.size ≤ b ∧ w.heap.size ≤ mb ∧ TM w' b mb [] 0 0 ∧ w'.cell? ⟨b, 9, none⟩ = some (.slice none 0 0) ∧ Below w.heap.size w w') := by
  have hmm := @run_makeMap Try.prog
  obtain ⟨β, hβ⟩ : ∃ β, w.heap.size = β := ⟨_, rfl⟩
  have HBE := Lib.hid hβ
  have h1 := new_block (w.alloc (.map #[] 0)) (.cells #[.pointer (some ⟨β + 1, 0, none⟩), .map (some β), .int .u8 0, .int .i64 0, .int .u8 0, .int .i64 0, .pointer none, .pointer none, .bool false, .slice none 0 0, .int .i64 0, .int .i64 0] headT)
  have h0 := (Below.heap_alloc (w.alloc (.map #[] 0)) (.cells #[.pointer (some ⟨β + 1, 0, none⟩), .map (some β), .int .u8 0, .int .i64 0, .int .u8 0, .int .i64 0, .pointer none, .pointer none, .bool false, .slice none 0 0, .int .i64 0, .int .i64 0] headT) _ (by simp)).trans (new_block w (.map #[] 0))
  rw [show (w.alloc (.map #[] 0)).heap.size = w.heap.size + 1 from by simp] at h1
  have hb := ((Below.refl w.heap.size w).alloc (Nat.le_refl _) (.map #[] 0)).alloc (by simp) (.cells #[.pointer (some ⟨β + 1, 0, none⟩), .map (some β), .int .u8 0, .int .i64 0, .int .u8 0, .int .i64 0, .pointer none, .pointer none, .bool false, .slice none 0 0, .int .i64 0, .int .i64 0] headT)
  rw [hβ] at h0 h1 hb
  unfold headT at h0 h1 hb
  have HB := Lib.hid hb
  clear hb
  go_enter Try.func27, Try.ntmps27
  go_upto_region 3 with fail
  generalize hW : (w.alloc (.map #[] 0)).alloc (.cells #[.pointer (some ⟨β + 1, 0, none⟩), .map (some β), .int .u8 0, .int .i64 0, .int .u8 0, .int .i64 0, .pointer none, .pointer none, .bool false, .slice none 0 0, .int .i64 0, .int .i64 0] 101) = w1 at *
  clear hW hβ
  have x6 := cell_of h1 6 _ rfl
  have x7 := cell_of h1 7 _ rfl
  have z6 := free_of h1 6
  have z7 := free_of h1 7
  go_region_held3 (fun _ => True)
    (trivial)
    (fail)
  go_wp2_with fail
  go_ret
  have hle : w.heap.size ≤ β + 1 := by have := HBE.out; omega
  have hB : Below w.heap.size w w1 := by rw [HBE.out]; exact HB.out
  have hh : HeadAt w1 (β + 1) β 0 0 := ⟨⟨_, h1, rfl⟩, cell_of h1 0 _ rfl, cell_of h1 1 _ rfl, cell_of h1 2 _ rfl, cell_of h1 3 _ rfl, cell_of h1 4 _ rfl, cell_of h1 5 _ rfl, cell_of h1 10 _ rfl, cell_of h1 11 _ rfl⟩
  have h9 := cell_of h1 9 _ rfl
  refine ⟨β + 1, β, rfl, hle, Nat.le_of_eq HBE.out, ?_, ?_, ((hB.setCell (p := ⟨β + 1, 6, none⟩) hle _).setCell (p := ⟨β + 1, 7, none⟩) hle _).drew⟩
  · exact {
      head := ((hh.tie (by omega) (by omega)).tie (by omega) (by omega)).turns (G := []) (drew_turns _) (List.not_mem_nil)
      nodes := fun _ h => absurd h (List.not_mem_nil)
      links := ⟨⟨cell_put (a := ⟨β + 1, 7, none⟩) (cell_keep x7 (ne_off (i := 6) (j := 7) (by decide))), cell_keep (c := ⟨β + 1, 6, none⟩) (cell_put x6) (ne_off (i := 7) (j := 6) (by decide))⟩, trivial⟩
      map := ⟨_, by
        show ((w1.setCell _ _).setCell _ _).heap[β]? = _
        rw [heap_setCell_other _ _ _ _ (by show β ≠ β + 1; omega), heap_setCell_other _ _ _ _ (by show β ≠ β + 1; omega)]
        exact h0, pmap_new⟩
      nd := List.nodup_nil
      keys := List.nodup_nil
      ok := fun _ h => absurd h (List.not_mem_nil) }
  · exact cell_keep (cell_keep h9 (ne_off (by omega))) (ne_off (by omega))
end Go.Proofs.Ythejclgihhfenaa.Td

/-
  Layer 13: the developers' table: the first place behind another that is not dead; Next.
-/
namespace Go.Proofs.Ythejclgihhfenaa.Td
open Go Go.RowKit Go.Proofs.Ythejclgihhfenaa.Pl Go.Proofs.Ythejclgihhfenaa.Tb

theorem infoPlace : ∃ j, Try.prog.info? 98 = some j ∧ j.size ≠ 0 := by
  obtain ⟨j, hj⟩ : ∃ j, Try.prog.info? 98 = some j := Option.isSome_iff_exists.1 (show (Try.prog.info? 98).isSome = true by kernel_rfl)
  refine ⟨j, hj, ?_⟩
  have h : (Try.prog.info? 98).map (·.size) = some 7 := by kernel_rfl
  rw [hj] at h
  have h : j.size = 7 := Option.some.inj h
  rw [h]
  decide
theorem neq_same (a : Addr) (w : World) : (binOp .neq 96 (.pointer (some a)) (.pointer (some a))).run Try.prog w = .ok (.bool false) w := by
  obtain ⟨j, hj, hs⟩ := infoPlace
  have h : ∀ d : Nat, (Op.equalIn (d + 1) 96 (.pointer (some a)) (.pointer (some a))).run Try.prog w = .ok true w := fun d => by
    simp [Op.equalIn, run_underlying Try.underlying96, sizeOf, typeInfo, hj, run_sameAddr_same]
  simp only [binOp]
  simp [Op.equal, Op.maxDepth, h 9999]
theorem neq_other {a b : Addr} {w : World} {ca cb : Array Value} {ta tb : TypeId} (hne : a ≠ b) (ha : w.heap[a.block]? = some (.cells ca ta (0, 0))) (hb : w.heap[b.block]? = some (.cells cb tb (0, 0))) :
    (binOp .neq 96 (.pointer (some a)) (.pointer (some b))).run Try.prog w = .ok (.bool true) w := by
  obtain ⟨j, hj, hs⟩ := infoPlace
  have h : ∀ d : Nat, (Op.equalIn (d + 1) 96 (.pointer (some a)) (.pointer (some b))).run Try.prog w = .ok false w := fun d => by
    simp [Op.equalIn, run_underlying Try.underlying96, sizeOf, typeInfo, hj, hs, run_sameAddr_other w hne ha hb]
  simp only [binOp]
  simp [Op.equal, Op.maxDepth, h 9999]
def liveP (p : Plc) : Bool := decide (p.v.kind ≠ 0)
def hereA (b : Nat) (l : List Plc) : Addr := match l.find? liveP with | none => endA b | some q => adr q
section
variable {w w' : World} {b mb : Nat} {l l1 l2 : List Plc} {lv ln : Int} {p : Plc}
theorem TM.nexts (h : TM w b mb (l1 ++ p :: l2) lv ln) : w.cell? ⟨p.b, 5, none⟩ = some (.pointer (some (nextA b l2))) := h.split.2.2.1.1
theorem TM.firsts (h : TM w b mb l lv ln) : w.cell? ⟨b, 7, none⟩ = some (.pointer (some (nextA b l))) := by
  have h0 := h.links
  cases l with
  | nil => exact h0.1.1
  | cons p l => exact h0.1.1
theorem TM.differs (h : TM w b mb l lv ln) (hp : p ∈ l) : (binOp .neq 96 (.pointer (some ⟨p.b, 0, none⟩)) (.pointer (some ⟨b, 2, none⟩))).run Try.prog w = .ok (.bool true) w := by
  obtain ⟨c1, h1, _⟩ := (h.nodes p hp).shape
  obtain ⟨c2, h2, _⟩ := h.head.shape
  exact neq_other (a := ⟨p.b, 0, none⟩) (b := ⟨b, 2, none⟩) (ne_off (by decide)) h1 h2
end
end Go.Proofs.Ythejclgihhfenaa.Td
