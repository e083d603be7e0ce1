import Derived.Test.YthejclgihhfenaaGreatCm1
import Derived.Test.YthejclgihhfenaaGreatCm7
import Derived.Deep.QuietTactic
import Derived.BigQuiet
import Derived.Deep.LoopGhost
import Derived.WalkSmall
import Derived.Deep.CutBlock
import Derived.Deep.DeepCutAuto
import Derived.StillTailTactics
import Derived.Deep.RegionHeld3
import Derived.LaidEqlPtr
import Derived.Carry
/-
  Layer 13: what the calls of a table say, whatever lies behind them; helpers of the laws.
-/
namespace Go.Proofs.YthejclgihhfenaaGreat.Tb
open Go Go.RowKit Go.Proofs.YthejclgihhfenaaGreat.Pl

def Fresh (F F' : List Nat) (w : World) : Prop := ∀ x ∈ F', x ∈ F ∨ w.heap.size ≤ x
/-- TA w b t F: at block b lies a table of the places t, in the blocks F. -/
abbrev TableP := World → Nat → Tbl → List Nat → Prop
def NewSays (TA : TableP) (w : World) (e : Ending) (w' : World) : Prop :=
  ∃ b F, e = .returned (.pointer (some ⟨b, 0, none⟩)) ∧ TA w' b [] F ∧ (∀ k ∈ F, w.heap.size ≤ k) ∧ Below w.heap.size w w'
def SetSays (TA : TableP) (b : Nat) (t : Tbl) (F : List Nat) (k v : Vl) (w : World) (e : Ending) (w' : World) : Prop :=
  e = .returned (.int .i64 (setT t k v).2) ∧ ∃ F', TA w' b (setT t k v).1 F' ∧ Turns F w w' ∧ Fresh F F' w
structure TableSays (TA : TableP) : Prop where
  mem : ∀ {w b t F}, TA w b t F → b ∈ F ∧ ∀ k ∈ F, k < w.heap.size
  keep : ∀ {w w' b t F G}, TA w b t F → Turns G w w' → (∀ k ∈ F, k ∉ G) → TA w' b t F
  ok : ∀ {w b t F}, TA w b t F → (t.map (·.1)).Nodup
  new : ∀ w, Calls Tryz.prog 60 #[] w (NewSays TA w)
  set : ∀ {w b t F} (k v : Vl), TA w b t F → k.In → v.In → t.length < 65536 → Calls Tryz.prog 70 #[.pointer (some ⟨b, 0, none⟩), k.val, v.val] w (SetSays TA b t F k v w)
  get : ∀ {w b t F} (k : Vl), TA w b t F → k.In → Calls Tryz.prog 68 #[.pointer (some ⟨b, 0, none⟩), k.val] w (fun e w' => e = .returned (getT t k).val ∧ Below w.heap.size w w')
  len : ∀ {w b t F}, TA w b t F → Calls Tryz.prog 94 #[.pointer (some ⟨b, 0, none⟩)] w (fun e w' => ∃ n : Nat, e = .returned (.int .i64 n) ∧ BorderT t n ∧ Below w.heap.size w w')
  next : ∀ {w b t F} (k : Vl), TA w b t F → k.In → Calls Tryz.prog 90 #[.pointer (some ⟨b, 0, none⟩), k.val] w (fun e w' => e = .returned (.tuple #[(nextT t k).1.val, (nextT t k).2.1.val, .int .i64 (nextT t k).2.2]) ∧ Below w.heap.size w w')
  count : ∀ {w b t F}, TA w b t F → Calls Tryz.prog 109 #[.pointer (some ⟨b, 0, none⟩)] w (fun e w' => e = .returned (.int .i64 (countT t)) ∧ Below w.heap.size w w')

theorem border_one {t : Tbl} {n m : Nat} (h : BorderT t n) (h' : BorderT t m) : n = m := by
  rcases Nat.lt_trichotomy n m with h1 | h1 | h1
  · exact absurd h.2 (h'.1 n h1)
  · exact h1
  · exact absurd h'.2 (h.1 m h1)

/-- A table in blocks of the call's own; beside it the law's. -/
def TblAt (TA : TableP) (w0 : World) (b : Nat) (t : Tbl) (K : Own) (w : World) : Prop := ∃ F, TA w b t F ∧ (∀ k ∈ F, w0.heap.size ≤ k) ∧ Below w0.heap.size w0 w ∧ ∀ p ∈ K, w.heap[p.1]? = some p.2 ∧ p.1 ∉ F
section
variable {TA : TableP} {w0 w w' : World} {b : Nat} {t t' : Tbl} {F F' : List Nat} {K : Own}
theorem TblAt.step (hF : ∀ k ∈ F, w0.heap.size ≤ k) (hb : Below w0.heap.size w0 w) (hK : ∀ p ∈ K, w.heap[p.1]? = some p.2 ∧ p.1 ∉ F) (hp : TA w' b t' F') (ht : Turns F w w') (hf : Fresh F F' w) : TblAt TA w0 b t' K w' :=
  ⟨F', hp, fun k hk => (hf k hk).elim (hF k) (fun x => Nat.le_trans hb.size x), hb.trans (ht.to_below hb.size hF), fun p hp => by
    obtain ⟨h1, h2⟩ := hK p hp
    exact ⟨(ht.block p.1 (lt_of_get h1) h2).trans h1, fun hm => (hf p.1 hm).elim h2 (fun x => absurd (lt_of_get h1) (Nat.not_lt.2 x))⟩⟩
theorem TblAt.below (H : TableSays TA) (h : TblAt TA w0 b t K w) (hb : Below w.heap.size w w') : TblAt TA w0 b t K w' := by
  obtain ⟨F, hp, hF, h0, hK⟩ := h
  exact TblAt.step hF h0 hK (H.keep (G := []) hp (Turns.of_below hb) (fun _ _ x => by cases x)) (Turns.of_below hb) (fun _ hx => .inl hx)
theorem TblAt.low (h : TblAt TA w0 b t K w) : Below w0.heap.size w0 w := by
  obtain ⟨_, _, _, h0, _⟩ := h
  exact h0
theorem TblAt.own (h : TblAt TA w0 b t K w) {k : Nat} {o : Obj} (hm : (k, o) ∈ K) : w.heap[k]? = some o := by
  obtain ⟨_, _, _, _, hK⟩ := h
  exact (hK _ hm).1
theorem TblAt.fewer {K' : Own} (h : TblAt TA w0 b t K w) (hs : ∀ p ∈ K', p ∈ K) : TblAt TA w0 b t K' w := by
  obtain ⟨F, hp, hF, h0, hK⟩ := h
  exact ⟨F, hp, hF, h0, fun p hp => hK p (hs p hp)⟩
theorem TblAt.alloc (H : TableSays TA) (h : TblAt TA w0 b t K w) (o : Obj) : TblAt TA w0 b t ((w.heap.size, o) :: K) (w.alloc o) := by
  obtain ⟨F, hp, hF, h0, hK⟩ := h
  have hal := (Below.refl w.heap.size w).alloc (Nat.le_refl _) o
  refine ⟨F, H.keep (G := []) hp (Turns.of_below hal) (fun _ _ x => by cases x), hF, h0.trans (hal.mono h0.size), fun p hm => ?_⟩
  rcases List.mem_cons.1 hm with rfl | hm
  · exact ⟨new_block _ _, fun hf => absurd ((H.mem hp).2 _ hf) (Nat.lt_irrefl _)⟩
  · obtain ⟨h1, h2⟩ := hK p hm
    exact ⟨(hal.block _ (lt_of_get h1)).trans h1, h2⟩
theorem set_at (H : TableSays TA) (k v : Vl) (t' : Tbl) (y : Int) (hk : k.In) (hv : v.In) (hl : t.length < 65536) (he : setT t k v = (t', y)) (h : TblAt TA w0 b t K w) : Calls Tryz.prog 70 #[.pointer (some ⟨b, 0, none⟩), k.val, v.val] w (fun e w' => e = .returned (.int .i64 y) ∧ TblAt TA w0 b t' K w') := by
  obtain ⟨F, hp, hF, h0, hK⟩ := h
  refine (H.set k v hp hk hv hl).mono ?_
  rintro e w1 ⟨rfl, F', h1, h2, h3⟩
  rw [he] at h1 ⊢
  exact ⟨rfl, TblAt.step hF h0 hK h1 h2 h3⟩
theorem get_at (H : TableSays TA) (k v : Vl) (hk : k.In) (he : getT t k = v) (h : TblAt TA w0 b t K w) : Calls Tryz.prog 68 #[.pointer (some ⟨b, 0, none⟩), k.val] w (fun e w' => e = .returned v.val ∧ TblAt TA w0 b t K w') := by
  have h' := h
  obtain ⟨F, hp, hF, h0, hK⟩ := h
  refine (H.get k hp hk).mono ?_
  rintro e w1 ⟨rfl, h1⟩
  rw [he]
  exact ⟨rfl, h'.below H h1⟩
theorem len_at (H : TableSays TA) (h : TblAt TA w0 b t K w) : Calls Tryz.prog 94 #[.pointer (some ⟨b, 0, none⟩)] w (fun e w' => ∃ n : Nat, e = .returned (.int .i64 n) ∧ BorderT t n ∧ TblAt TA w0 b t K w') := by
  have h' := h
  obtain ⟨F, hp, hF, h0, hK⟩ := h
  refine (H.len hp).mono ?_
  rintro e w1 ⟨n, rfl, h1, h2⟩
  exact ⟨n, rfl, h1, h'.below H h2⟩
theorem next_at (H : TableSays TA) (k a c : Vl) (y : Int) (hk : k.In) (he : nextT t k = (a, c, y)) (h : TblAt TA w0 b t K w) : Calls Tryz.prog 90 #[.pointer (some ⟨b, 0, none⟩), k.val] w (fun e w' => e = .returned (.tuple #[a.val, c.val, .int .i64 y]) ∧ TblAt TA w0 b t K w') := by
  have h' := h
  obtain ⟨F, hp, hF, h0, hK⟩ := h
  refine (H.next k hp hk).mono ?_
  rintro e w1 ⟨rfl, h1⟩
  rw [he]
  exact ⟨rfl, h'.below H h1⟩
theorem count_at (H : TableSays TA) (u : Int) (hu : (countT t : Int) = u) (h : TblAt TA w0 b t K w) : Calls Tryz.prog 109 #[.pointer (some ⟨b, 0, none⟩)] w (fun e w' => e = .returned (.int .i64 u) ∧ TblAt TA w0 b t K w') := by
  have h' := h
  obtain ⟨F, hp, hF, h0, hK⟩ := h
  refine (H.count hp).mono ?_
  rintro e w1 ⟨rfl, h1⟩
  rw [hu]
  exact ⟨rfl, h'.below H h1⟩
end
end Go.Proofs.YthejclgihhfenaaGreat.Tb

/-
  Layer 13: the developers' table: was it made; what is a key, a value; Get, Len, Count, New.
-/
namespace Go.Proofs.YthejclgihhfenaaGreat.Td
open Go Go.RowKit Go.Proofs.YthejclgihhfenaaGreat.Pl Go.Proofs.YthejclgihhfenaaGreat.Tb

theorem same_ptr (b : Nat) (w : World) : (binOp .eql 89 (.pointer (some ⟨b, 0, none⟩)) (.pointer (some ⟨b, 0, none⟩))).run Tryz.prog w = .ok (.bool true) w := by
  obtain ⟨j, hj⟩ : ∃ j, Tryz.prog.info? 143 = some j := Option.isSome_iff_exists.1 (show (Tryz.prog.info? 143).isSome = true by kernel_rfl)
  exact run_eql_ptr_same w _ Tryz.underlying89 hj
theorem nil_ptr (b : Nat) (w : World) : (binOp .eql 89 (.pointer none) (.pointer (some ⟨b, 0, none⟩))).run Tryz.prog w = .ok (.bool false) w := by
  have h : ∀ d : Nat, (Op.equalIn (d + 1) 89 (.pointer none) (.pointer (some ⟨b, 0, none⟩))).run Tryz.prog w = .ok false w := fun d => by
    simp [Op.equalIn, run_underlying Tryz.underlying89]
  simp only [binOp]
  simp [Op.equal, Op.maxDepth, h 9999]
theorem made_fn (b : Nat) (w : World) (hb : w.cell? ⟨b, 0, none⟩ = some (.pointer (some ⟨b, 0, none⟩))) :
    Calls Tryz.prog 100 #[.pointer (some ⟨b, 0, none⟩)] w fun e w' => e = .returned (.bool true) ∧ w' = w := by
  have hq := same_ptr b w
  go_enter Tryz.func100, Tryz.ntmps100
  go_wp2_with fail
  go_ret
  exact ⟨rfl, rfl⟩
theorem dead_fn (g : Nat) (k : Nat) (w : World) (h : w.cell? ⟨g, 2, none⟩ = some (.int .u8 (k : Int))) :
    Calls Tryz.prog 124 #[.pointer (some ⟨g, 0, none⟩)] w fun e w' => e = .returned (.bool (decide (k = 0))) ∧ w' = w := by
  by_cases hk : k = 0
  · subst hk
    go_enter Tryz.func124, Tryz.ntmps124
    go_wp2_with fail
    go_ret
    exact ⟨rfl, rfl⟩
  · have hk2 : ¬ (k : Int) = 0 := by omega
    rw [decide_eq_false hk]
    clear hk
    go_enter Tryz.func124, Tryz.ntmps124
    go_wp2_with fail
    go_ret
    exact ⟨ret_bool (by simp; omega), rfl⟩
set_option maxRecDepth 100000 in
theorem value_fn (v : Vl) (w : World) (h : v.In) :
    Calls Tryz.prog 102 #[v.val] w fun e w' => e = .returned (.bool (valB v)) ∧ Below w.heap.size w w' := by
  obtain ⟨k, n⟩ := v
  obtain ⟨h1, h2, h3⟩ := h
  dsimp only at h1 h2 h3
  have hx := new_block w (.cells #[.int .u8 (k : Int), .int .i64 n] 37)
  have y0 := cell_of hx 0 _ rfl
  have y1 := cell_of hx 1 _ rfl
  have hb := (Below.refl w.heap.size w).alloc (Nat.le_refl _) (.cells #[.int .u8 (k : Int), .int .i64 n] 37)
  have HB := Lib.hid hb
  clear hb hx
  obtain ⟨q, hq⟩ : ∃ q : Int, (k : Int) = q := ⟨_, rfl⟩
  have e : valB ⟨k, n⟩ = (decide (q ≤ 8) && (decide (2 < q) || decide (n = 0))) := by
    unfold valB plainB
    dsimp only
    rw [← hq, show decide (k ≤ 8) = decide ((k : Int) ≤ 8) from decide_eq_decide.2 (by omega), show decide (2 < k) = decide (2 < (k : Int)) from decide_eq_decide.2 (by omega)]
  rw [e]
  have hq0 : 0 ≤ q ∧ q < 256 := by omega
  show Calls _ _ #[.agg #[.int .u8 (k : Int), .int .i64 n]] w _
  rw [hq] at HB y0 y1 ⊢
  clear e hq h1
  by_cases c0 : q ≤ 2
  · by_cases cn : n = 0
    · subst cn
      rcases (show q = 0 ∨ q = 1 ∨ q = 2 by omega) with rfl | rfl | rfl <;>
      · go_enter Tryz.func102, Tryz.ntmps102
        go_wp2_with fail
        go_ret
        exact ⟨rfl, HB.out⟩
    · rcases (show q = 0 ∨ q = 1 ∨ q = 2 by omega) with rfl | rfl | rfl <;>
      · go_enter Tryz.func102, Tryz.ntmps102
        go_wp2_with fail
        go_ret
        exact ⟨ret_bool (by simp [cn]), HB.out⟩
  · have d0 : ¬ q = 0 := by omega
    have d1 : ¬ q = 1 := by omega
    have d2 : ¬ q = 2 := by omega
    have d3 : 3 ≤ q := by omega
    have d4 : 2 < q := by omega
    by_cases c8 : q ≤ 8
    · go_enter Tryz.func102, Tryz.ntmps102
      go_wp2_with fail
      go_ret
      exact ⟨ret_bool (by simp), HB.out⟩
    · go_enter Tryz.func102, Tryz.ntmps102
      go_wp2_with fail
      go_ret
      exact ⟨ret_bool (by simp [c8]), HB.out⟩
set_option maxRecDepth 100000 in
theorem key_fn (v : Vl) (w : World) (h : v.In) :
    Calls Tryz.prog 101 #[v.val] w fun e w' => e = .returned (.bool (keyB v)) ∧ Below w.heap.size w w' := by
  have e : keyB v = (decide (¬ v.kind = 0) && valB v) := by
    unfold keyB valB
    rw [show decide (1 ≤ v.kind) = decide (¬ v.kind = 0) from decide_eq_decide.2 (by omega)]
  rw [e]
  clear e
  have hx := new_block w (.cells #[.int .u8 (v.kind : Int), .int .i64 v.n] 37)
  have y0 := cell_of hx 0 _ rfl
  have y1 := cell_of hx 1 _ rfl
  have hb := (Below.refl w.heap.size w).alloc (Nat.le_refl _) (.cells #[.int .u8 (v.kind : Int), .int .i64 v.n] 37)
  have c := value_fn v (w.alloc (.cells #[.int .u8 (v.kind : Int), .int .i64 v.n] 37)) h
  have HB := Lib.hid hb
  clear hb hx
  unfold Vl.val Vl.cells at c ⊢
  generalize valB v = B at *
  obtain ⟨k, n⟩ := v
  dsimp only at *
  by_cases hk : k = 0
  · subst hk
    go_enter Tryz.func101, Tryz.ntmps101
    go_wp2_with fail
    go_ret
    exact ⟨ret_bool (by simp), HB.out⟩
  · have hk2 : ¬ (k : Int) = 0 := by omega
    rw [decide_eq_true hk]
    clear hk h
    go_enter Tryz.func101, Tryz.ntmps101
    go_wp2_with fail
    refine c.mono ?_
    rintro e w1 ⟨rfl, h1⟩
    have HB1 := Lib.hid (HB.out.trans (h1.mono HB.out.size))
    clear h1
    go_wp2_with fail
    go_ret
    exact ⟨ret_bool (by simp; intro _; omega), HB1.out⟩
end Go.Proofs.YthejclgihhfenaaGreat.Td

/-
  Layer 13: the developers' table: Get, Len, Count, New.
-/
namespace Go.Proofs.YthejclgihhfenaaGreat.Td
open Go Go.RowKit Go.Proofs.YthejclgihhfenaaGreat.Pl Go.Proofs.YthejclgihhfenaaGreat.Tb

theorem find_cons (p : Plc) (l : List Plc) (k : Vl) : findP (p :: l) k = if p.k = k then some p.b else findP l k := by
  unfold findP
  rw [List.find?_cons]
  by_cases h : p.k = k
  · rw [decide_eq_true h, if_pos h]; rfl
  · rw [decide_eq_false h, if_neg h]
theorem has_cons (p : Vl × Vl) (t : Tbl) (k : Vl) : hasT (p :: t) k = (decide (p.1 = k) || hasT t k) := by unfold hasT; rw [List.any_cons]
theorem find_cases : ∀ (l : List Plc) (k : Vl), (findP l k = none ∧ hasT (tblOf l) k = false ∧ getT (tblOf l) k = nilV ∧ ∀ p ∈ l, p.k ≠ k) ∨ ∃ p ∈ l, p.k = k ∧ findP l k = some p.b ∧ hasT (tblOf l) k = true ∧ getT (tblOf l) k = p.v
  | [], k => .inl ⟨rfl, rfl, rfl, fun _ h => absurd h (List.not_mem_nil)⟩
  | p :: l, k => by
    show (findP (p :: l) k = none ∧ hasT (pv p :: tblOf l) k = false ∧ getT (pv p :: tblOf l) k = nilV ∧ _) ∨ ∃ q ∈ p :: l, q.k = k ∧ findP (p :: l) k = some q.b ∧ hasT (pv p :: tblOf l) k = true ∧ getT (pv p :: tblOf l) k = q.v
    rw [find_cons, has_cons, get_cons]
    by_cases h : p.k = k
    · exact .inr ⟨p, List.mem_cons_self .., h, by rw [if_pos h], by rw [show decide ((pv p).1 = k) = true from decide_eq_true h]; rfl, by rw [if_pos (show (pv p).1 = k from h)]; rfl⟩
    · rw [if_neg h, if_neg (show ¬ (pv p).1 = k from h), show decide ((pv p).1 = k) = false from decide_eq_false h, Bool.false_or]
      rcases find_cases l k with ⟨h1, h2, h3, h4⟩ | ⟨q, hq, h1, h2, h3, h4⟩
      · exact .inl ⟨h1, h2, h3, fun r hr => by
          rcases List.mem_cons.1 hr with rfl | hr
          · exact h
          · exact h4 r hr⟩
      · exact .inr ⟨q, List.mem_cons_of_mem _ hq, h1, h2, h3, h4⟩
section
variable {w w' : World} {b mb : Nat} {l : List Plc} {lv ln : Int} {G : List Nat}
theorem TM.below (h : TM w b mb l lv ln) (hb : Below w.heap.size w w') : TM w' b mb l lv ln :=
  h.turns (G := []) (Turns.of_below hb) (List.not_mem_nil) (List.not_mem_nil) (fun _ _ => List.not_mem_nil)
set_option maxRecDepth 100000 in
theorem get_fn' (h : TM w b mb l lv ln) (k : Vl) (hk : k.In) :
    Calls Tryz.prog 68 #[.pointer (some ⟨b, 0, none⟩), k.val] w (fun e w' => e = .returned (getT (tblOf l) k).val ∧ Below w.heap.size w w') := by
  obtain ⟨M, hM, hp⟩ := h.map
  have hwa := ((Below.refl w.heap.size w).alloc (Nat.le_refl _) (.cells #[.int .u8 (k.kind : Int), .int .i64 k.n] 37)).alloc (by simp) (.cells #[.int .u8 0, .int .i64 0] 37)
  have hM1 := (hwa.block mb h.mapLt).trans hM
  have lk : ∀ w' : World, w'.heap[mb]? = some M → _ := fun w' hw' => hp.look_ok (w := w') hw' k hk
  have h1 := h.below hwa
  have hs := h1.head.self
  have hm := h1.head.map
  have HW := Lib.hid hwa
  have hx0 := (Below.heap_alloc (w.alloc (.cells #[.int .u8 (k.kind : Int), .int .i64 k.n] 37)) (.cells #[.int .u8 0, .int .i64 0] 37) _ (by simp)).trans (new_block w (.cells #[.int .u8 (k.kind : Int), .int .i64 k.n] 37))
  have y0 := cell_of hx0 0 _ rfl
  have y1 := cell_of hx0 1 _ rfl
  have hx1 := new_block (w.alloc (.cells #[.int .u8 (k.kind : Int), .int .i64 k.n] 37)) (.cells #[.int .u8 0, .int .i64 0] 37)
  rw [show (w.alloc (.cells #[.int .u8 (k.kind : Int), .int .i64 k.n] 37)).heap.size = w.heap.size + 1 from by simp] at hx1
  have z0 := cell_of hx1 0 _ rfl
  have z1 := cell_of hx1 1 _ rfl
  have f0 := free_of hx1 0
  have f1 := free_of hx1 1
  obtain ⟨β, hβ⟩ : ∃ β, w.heap.size = β := ⟨_, rfl⟩
  have HBE := Lib.hid hβ
  rcases find_cases l k with ⟨f1, _, f3, _⟩ | ⟨p, hp1, hpk, f1, _, f3⟩
  · rw [f1] at lk
    rw [f3]
    unfold ptrP mapT at lk
    unfold Vl.val Vl.cells nilV at *
    clear hM hx0 hx1 h hp hwa h1 hk f1 f3
    obtain ⟨kk, kn⟩ := k
    dsimp only at *
    go_enter Tryz.func68, Tryz.ntmps68
    go_wp2_with fail
    generalize hW : (w.alloc (.cells #[.int .u8 (kk : Int), .int .i64 kn] 37)).alloc (.cells #[.int .u8 0, .int .i64 0] 37) = w0 at *
    rw [hβ] at y0 y1 z0 z1 f0 f1
    clear hW hβ
    refine (made_fn b _ hs).mono ?_
    rintro e w1 ⟨rfl, rfl⟩
    go_wp2_with fail
    have hMd : w1.drew.heap[mb]? = some M := hM1
    go_region_held3 (fun w' => w'.cell? ⟨b, 1, none⟩ = some (.map (some mb)) ∧ w'.cell? ⟨β, 0, none⟩ = some (.int .u8 (kk : Int)) ∧ w'.cell? ⟨β, 1, none⟩ = some (.int .i64 kn) ∧ w'.heap[mb]? = some M)
      (go_keep)
      (fail)
    go_wp2_with fail
    refine bodyPost_ret (v := .agg #[.int .u8 0, .int .i64 0]) (by simp [results, Tryz.results68, go_sem, z0, z1]) rfl ?_
    have hle : w.heap.size ≤ β + 1 := by have := HBE.out; omega
    exact ⟨rfl, ((HW.out.setCell (p := ⟨β + 1, 0, none⟩) hle _).setCell (p := ⟨β + 1, 1, none⟩) hle _).drew⟩
  · rw [f1] at lk
    rw [f3]
    unfold ptrP mapT at lk
    have hn := h1.nodes p hp1
    have hpb := Lib.hid (show p.b ≠ w.heap.size + 1 from fun e => by have := (h.nodes p hp1).shape.lt; omega)
    unfold Vl.val Vl.cells at *
    clear hM hx0 hx1 h hp hwa h1 f1 f3
    have q0 := hn.v0
    have q1 := hn.v1
    have HI := Lib.hid hk
    clear hn hk hpk hp1
    generalize p.b = g at *
    generalize p.v = pu at *
    obtain ⟨pk, pn⟩ := pu
    obtain ⟨kk, kn⟩ := k
    dsimp only at *
    go_enter Tryz.func68, Tryz.ntmps68
    go_wp2_with fail
    generalize hW : (w.alloc (.cells #[.int .u8 (kk : Int), .int .i64 kn] 37)).alloc (.cells #[.int .u8 0, .int .i64 0] 37) = w0 at *
    rw [hβ] at y0 y1 z0 z1 f0 f1 hpb
    clear hW hβ
    refine (made_fn b _ hs).mono ?_
    rintro e w1 ⟨rfl, rfl⟩
    go_wp2_with fail
    have hMd : w1.drew.heap[mb]? = some M := hM1
    go_region_held3 (fun w' => w'.cell? ⟨b, 1, none⟩ = some (.map (some mb)) ∧ w'.cell? ⟨β, 0, none⟩ = some (.int .u8 (kk : Int)) ∧ w'.cell? ⟨β, 1, none⟩ = some (.int .i64 kn) ∧ w'.heap[mb]? = some M)
      (go_keep)
      (fail)
    go_wp2_with fail
    refine bodyPost_ret (v := .agg #[.int .u8 (pk : Int), .int .i64 pn]) (by simp [results, Tryz.results68, go_sem, z0, z1]) rfl ?_
    have hle : w.heap.size ≤ β + 1 := by have := HBE.out; omega
    exact ⟨rfl, ((HW.out.setCell (p := ⟨β + 1, 0, none⟩) hle _).setCell (p := ⟨β + 1, 1, none⟩) hle _).drew⟩
theorem len_fn' (h : TM w b mb l lv ln) :
    Calls Tryz.prog 94 #[.pointer (some ⟨b, 0, none⟩)] w (fun e w' => e = .returned (.int .i64 ln) ∧ w' = w) := by
  have hs := h.head.self
  have hl := h.head.len
  clear h
  go_enter Tryz.func94, Tryz.ntmps94
  go_wp2_with fail
  refine (made_fn b _ hs).mono ?_
  rintro e w1 ⟨rfl, rfl⟩
  go_wp2_with fail
  go_ret
  exact ⟨rfl, rfl⟩
theorem count_fn' (h : TM w b mb l lv ln) :
    Calls Tryz.prog 109 #[.pointer (some ⟨b, 0, none⟩)] w (fun e w' => e = .returned (.int .i64 lv) ∧ w' = w) := by
  have hs := h.head.self
  have hl := h.head.live
  clear h
  go_enter Tryz.func109, Tryz.ntmps109
  go_wp2_with fail
  refine (made_fn b _ hs).mono ?_
  rintro e w1 ⟨rfl, rfl⟩
  go_wp2_with fail
  go_ret
  exact ⟨rfl, rfl⟩
end
end Go.Proofs.YthejclgihhfenaaGreat.Td

/-
  Layer 13: the developers' table: a new one.
-/
namespace Go.Proofs.YthejclgihhfenaaGreat.Td
open Go Go.RowKit Go.Proofs.YthejclgihhfenaaGreat.Pl Go.Proofs.YthejclgihhfenaaGreat.Tb

theorem drew_turns (w : World) : Turns [] w w.drew := ⟨rfl, rfl, rfl, Nat.le_refl _, fun _ _ _ => rfl⟩
theorem new_fn' (w : World) : Calls Tryz.prog 60 #[] w (fun e w' => ∃ b mb, e = .returned (.pointer (some ⟨b, 0, none⟩)) ∧ w.heap.size ≤ b ∧ w.heap.size ≤ mb ∧ TM w' b mb [] 0 0 ∧ w'.cell? ⟨b, 9, none⟩ = some (.slice none 0 0) ∧ Below w.heap.size w w') := by
  have hmm := @run_makeMap Tryz.prog
  obtain ⟨β, hβ⟩ : ∃ β, w.heap.size = β := ⟨_, rfl⟩
  have HBE := Lib.hid hβ
  have h1 := new_block (w.alloc (.map #[] 0)) (.cells #[.pointer (some ⟨β + 1, 0, none⟩), .map (some β), .int .u8 0, .int .i64 0, .int .u8 0, .int .i64 0, .pointer none, .pointer none, .bool false, .slice none 0 0, .int .i64 0, .int .i64 0] headT)
  have h0 := (Below.heap_alloc (w.alloc (.map #[] 0)) (.cells #[.pointer (some ⟨β + 1, 0, none⟩), .map (some β), .int .u8 0, .int .i64 0, .int .u8 0, .int .i64 0, .pointer none, .pointer none, .bool false, .slice none 0 0, .int .i64 0, .int .i64 0] headT) _ (by simp)).trans (new_block w (.map #[] 0))
  rw [show (w.alloc (.map #[] 0)).heap.size = w.heap.size + 1 from by simp] at h1
  have hb := ((Below.refl w.heap.size w).alloc (Nat.le_refl _) (.map #[] 0)).alloc (by simp) (.cells #[.pointer (some ⟨β + 1, 0, none⟩), .map (some β), .int .u8 0, .int .i64 0, .int .u8 0, .int .i64 0, .pointer none, .pointer none, .bool false, .slice none 0 0, .int .i64 0, .int .i64 0] headT)
  rw [hβ] at h0 h1 hb
  unfold headT at h0 h1 hb
  have HB := Lib.hid hb
  clear hb
  go_enter Tryz.func60, Tryz.ntmps60
  go_upto_region 3 with fail
  generalize hW : (w.alloc (.map #[] 0)).alloc (.cells #[.pointer (some ⟨β + 1, 0, none⟩), .map (some β), .int .u8 0, .int .i64 0, .int .u8 0, .int .i64 0, .pointer none, .pointer none, .bool false, .slice none 0 0, .int .i64 0, .int .i64 0] 143) = w1 at *
  clear hW hβ
  have x6 := cell_of h1 6 _ rfl
  have x7 := cell_of h1 7 _ rfl
  have z6 := free_of h1 6
  have z7 := free_of h1 7
  go_region_held3 (fun _ => True)
    (trivial)
    (fail)
  go_wp2_with fail
  go_ret
  have hle : w.heap.size ≤ β + 1 := by have := HBE.out; omega
  have hB : Below w.heap.size w w1 := by rw [HBE.out]; exact HB.out
  have hh : HeadAt w1 (β + 1) β 0 0 := ⟨⟨_, h1, rfl⟩, cell_of h1 0 _ rfl, cell_of h1 1 _ rfl, cell_of h1 2 _ rfl, cell_of h1 3 _ rfl, cell_of h1 4 _ rfl, cell_of h1 5 _ rfl, cell_of h1 10 _ rfl, cell_of h1 11 _ rfl⟩
  have h9 := cell_of h1 9 _ rfl
  refine ⟨β + 1, β, rfl, hle, Nat.le_of_eq HBE.out, ?_, ?_, ((hB.setCell (p := ⟨β + 1, 6, none⟩) hle _).setCell (p := ⟨β + 1, 7, none⟩) hle _).drew⟩
  · exact {
      head := ((hh.tie (by omega) (by omega)).tie (by omega) (by omega)).turns (G := []) (drew_turns _) (List.not_mem_nil)
      nodes := fun _ h => absurd h (List.not_mem_nil)
      links := ⟨⟨cell_put (a := ⟨β + 1, 7, none⟩) (cell_keep x7 (ne_off (i := 6) (j := 7) (by decide))), cell_keep (c := ⟨β + 1, 6, none⟩) (cell_put x6) (ne_off (i := 7) (j := 6) (by decide))⟩, trivial⟩
      map := ⟨_, by
        show ((w1.setCell _ _).setCell _ _).heap[β]? = _
        rw [heap_setCell_other _ _ _ _ (by show β ≠ β + 1; omega), heap_setCell_other _ _ _ _ (by show β ≠ β + 1; omega)]
        exact h0, pmap_new⟩
      nd := List.nodup_nil
      keys := List.nodup_nil
      ok := fun _ h => absurd h (List.not_mem_nil) }
  · exact cell_keep (cell_keep h9 (ne_off (by omega))) (ne_off (by omega))
end Go.Proofs.YthejclgihhfenaaGreat.Td
