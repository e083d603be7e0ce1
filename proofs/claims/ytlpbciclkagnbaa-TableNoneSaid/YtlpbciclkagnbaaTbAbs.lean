/-
  Layer 13: what the calls of a table say, whatever lies behind them; helpers of the laws.
-/
import Derived.Test.YtlpbciclkagnbaaTbOb
import Derived.Test.YtlpbciclkagnbaaPlMem
import Derived.Deep.QuietTactic
import Derived.BigQuiet
import Derived.Deep.LoopGhost
import Derived.WalkSmall
import Derived.Deep.CutBlock
import Derived.Deep.DeepCutAuto
import Derived.StillTailTactics
import Derived.Deep.RegionHeld3
namespace Go.Proofs.Ytlpbciclkagnbaa.Tb
open Go Go.RowKit Go.Proofs.Ytlpbciclkagnbaa.Pl

def Fresh (F F' : List Nat) (w : World) : Prop := ∀ x ∈ F', x ∈ F ∨ w.heap.size ≤ x
/-- TA w b t F: at block b lies a table of the places t, in the blocks F. -/
abbrev TableP := World → Nat → Tbl → List Nat → Prop
def NewSays (TA : TableP) (w : World) (e : Ending) (w' : World) : Prop :=
  ∃ b F, e = .returned (.pointer (some ⟨b, 0, none⟩)) ∧ TA w' b [] F ∧ (∀ k ∈ F, w.heap.size ≤ k) ∧ Below w.heap.size w w'
def SetSays (TA : TableP) (b : Nat) (t : Tbl) (F : List Nat) (k v : Vl) (w : World) (e : Ending) (w' : World) : Prop :=
  e = .returned (.int .i64 (setT t k v).2) ∧ ∃ F', TA w' b (setT t k v).1 F' ∧ Turns F w w' ∧ Fresh F F' w
structure TableSays (TA : TableP) : Prop where
  mem : ∀ {w b t F}, TA w b t F → b ∈ F ∧ ∀ k ∈ F, k < w.heap.size
  keep : ∀ {w w' b t F G}, TA w b t F → Turns G w w' → (∀ k ∈ F, k ∉ G) → TA w' b t F
  ok : ∀ {w b t F}, TA w b t F → (t.map (·.1)).Nodup
  new : ∀ w, Calls Try.prog 14 #[] w (NewSays TA w)
  set : ∀ {w b t F} (k v : Vl), TA w b t F → k.In → v.In → t.length < 65536 → Calls Try.prog 8 #[.pointer (some ⟨b, 0, none⟩), k.val, v.val] w (SetSays TA b t F k v w)
  get : ∀ {w b t F} (k : Vl), TA w b t F → k.In → Calls Try.prog 9 #[.pointer (some ⟨b, 0, none⟩), k.val] w (fun e w' => e = .returned (getT t k).val ∧ Below w.heap.size w w')
  len : ∀ {w b t F}, TA w b t F → Calls Try.prog 10 #[.pointer (some ⟨b, 0, none⟩)] w (fun e w' => ∃ n : Nat, e = .returned (.int .i64 n) ∧ BorderT t n ∧ Below w.heap.size w w')
  next : ∀ {w b t F} (k : Vl), TA w b t F → k.In → Calls Try.prog 7 #[.pointer (some ⟨b, 0, none⟩), k.val] w (fun e w' => e = .returned (.tuple #[(nextT t k).1.val, (nextT t k).2.1.val, .int .i64 (nextT t k).2.2]) ∧ Below w.heap.size w w')
  count : ∀ {w b t F}, TA w b t F → Calls Try.prog 11 #[.pointer (some ⟨b, 0, none⟩)] w (fun e w' => e = .returned (.int .i64 (countT t)) ∧ Below w.heap.size w w')

theorem border_one {t : Tbl} {n m : Nat} (h : BorderT t n) (h' : BorderT t m) : n = m := by
  rcases Nat.lt_trichotomy n m with h1 | h1 | h1
  · exact absurd h.2 (h'.1 n h1)
  · exact h1
  · exact absurd h'.2 (h.1 m h1)

/-- A table in blocks of the call's own; beside it the law's. -/
def TblAt (TA : TableP) (w0 : World) (b : Nat) (t : Tbl) (K : Own) (w : World) : Prop := ∃ F, TA w b t F ∧ (∀ k ∈ F, w0.heap.size ≤ k) ∧ Below w0.heap.size w0 w ∧ ∀ p ∈ K, w.heap[p.1]? = some p.2 ∧ p.1 ∉ F
section
variable {TA : TableP} {w0 w w' : World} {b : Nat} {t t' : Tbl} {F F' : List Nat} {K : Own}
theorem TblAt.step (hF : ∀ k ∈ F, w0.heap.size ≤ k) (hb : Below w0.heap.size w0 w) (hK : ∀ p ∈ K, w.heap[p.1]? = some p.2 ∧ p.1 ∉ F) (hp : TA w' b t' F') (ht : Turns F w w') (hf : Fresh F F' w) : TblAt TA w0 b t' K w' :=
  ⟨F', hp, fun k hk => (hf k hk).elim (hF k) (fun x => Nat.le_trans hb.size x), hb.trans (ht.to_below hb.size hF), fun p hp => by
    obtain ⟨h1, h2⟩ := hK p hp
    exact ⟨(ht.block p.1 (lt_of_get h1) h2).trans h1, fun hm => (hf p.1 hm).elim h2 (fun x => absurd (lt_of_get h1) (Nat.not_lt.2 x))⟩⟩
theorem TblAt.below (H : TableSays TA) (h : TblAt TA w0 b t K w) (hb : Below w.heap.size w w') : TblAt TA w0 b t K w' := by
  obtain ⟨F, hp, hF, h0, hK⟩ := h
  exact TblAt.step hF h0 hK (H.keep (G := []) hp (Turns.of_below hb) (fun _ _ x => by cases x)) (Turns.of_below hb) (fun _ hx => .inl hx)
theorem TblAt.low (h : TblAt TA w0 b t K w) : Below w0.heap.size w0 w := by
  obtain ⟨_, _, _, h0, _⟩ := h
  exact h0
theorem TblAt.own (h : TblAt TA w0 b t K w) {k : Nat} {o : Obj} (hm : (k, o) ∈ K) : w.heap[k]? = some o := by
  obtain ⟨_, _, _, _, hK⟩ := h
  exact (hK _ hm).1
theorem TblAt.fewer {K' : Own} (h : TblAt TA w0 b t K w) (hs : ∀ p ∈ K', p ∈ K) : TblAt TA w0 b t K' w := by
  obtain ⟨F, hp, hF, h0, hK⟩ := h
  exact ⟨F, hp, hF, h0, fun p hp => hK p (hs p hp)⟩
theorem TblAt.alloc (H : TableSays TA) (h : TblAt TA w0 b t K w) (o : Obj) : TblAt TA w0 b t ((w.heap.size, o) :: K) (w.alloc o) := by
  obtain ⟨F, hp, hF, h0, hK⟩ := h
  have hal := (Below.refl w.heap.size w).alloc (Nat.le_refl _) o
  refine ⟨F, H.keep (G := []) hp (Turns.of_below hal) (fun _ _ x => by cases x), hF, h0.trans (hal.mono h0.size), fun p hm => ?_⟩
  rcases List.mem_cons.1 hm with rfl | hm
  · exact ⟨new_block _ _, fun hf => absurd ((H.mem hp).2 _ hf) (Nat.lt_irrefl _)⟩
  · obtain ⟨h1, h2⟩ := hK p hm
    exact ⟨(hal.block _ (lt_of_get h1)).trans h1, h2⟩
theorem set_at (H : TableSays TA) (k v : Vl) (t' : Tbl) (y : Int) (hk : k.In) (hv : v.In) (hl : t.length < 65536) (he : setT t k v = (t', y)) (h : TblAt TA w0 b t K w) : Calls Try.prog 8 #[.pointer (some ⟨b, 0, none⟩), k.val, v.val] w (fun e w' => e = .returned (.int .i64 y) ∧ TblAt TA w0 b t' K w') := by
  obtain ⟨F, hp, hF, h0, hK⟩ := h
  refine (H.set k v hp hk hv hl).mono ?_
  rintro e w1 ⟨rfl, F', h1, h2, h3⟩
  rw [he] at h1 ⊢
  exact ⟨rfl, TblAt.step hF h0 hK h1 h2 h3⟩
theorem get_at (H : TableSays TA) (k v : Vl) (hk : k.In) (he : getT t k = v) (h : TblAt TA w0 b t K w) : Calls Try.prog 9 #[.pointer (some ⟨b, 0, none⟩), k.val] w (fun e w' => e = .returned v.val ∧ TblAt TA w0 b t K w') := by
  have h' := h
  obtain ⟨F, hp, hF, h0, hK⟩ := h
  refine (H.get k hp hk).mono ?_
  rintro e w1 ⟨rfl, h1⟩
  rw [he]
  exact ⟨rfl, h'.below H h1⟩
theorem len_at (H : TableSays TA) (h : TblAt TA w0 b t K w) : Calls Try.prog 10 #[.pointer (some ⟨b, 0, none⟩)] w (fun e w' => ∃ n : Nat, e = .returned (.int .i64 n) ∧ BorderT t n ∧ TblAt TA w0 b t K w') := by
  have h' := h
  obtain ⟨F, hp, hF, h0, hK⟩ := h
  refine (H.len hp).mono ?_
  rintro e w1 ⟨n, rfl, h1, h2⟩
  exact ⟨n, rfl, h1, h'.below H h2⟩
theorem next_at (H : TableSays TA) (k a c : Vl) (y : Int) (hk : k.In) (he : nextT t k = (a, c, y)) (h : TblAt TA w0 b t K w) : Calls Try.prog 7 #[.pointer (some ⟨b, 0, none⟩), k.val] w (fun e w' => e = .returned (.tuple #[a.val, c.val, .int .i64 y]) ∧ TblAt TA w0 b t K w') := by
  have h' := h
  obtain ⟨F, hp, hF, h0, hK⟩ := h
  refine (H.next k hp hk).mono ?_
  rintro e w1 ⟨rfl, h1⟩
  rw [he]
  exact ⟨rfl, h'.below H h1⟩
theorem count_at (H : TableSays TA) (u : Int) (hu : (countT t : Int) = u) (h : TblAt TA w0 b t K w) : Calls Try.prog 11 #[.pointer (some ⟨b, 0, none⟩)] w (fun e w' => e = .returned (.int .i64 u) ∧ TblAt TA w0 b t K w') := by
  have h' := h
  obtain ⟨F, hp, hF, h0, hK⟩ := h
  refine (H.count hp).mono ?_
  rintro e w1 ⟨rfl, h1⟩
  rw [hu]
  exact ⟨rfl, h'.below H h1⟩
end
theorem num_fn (n : Int) (w : World) : Calls Try.prog 16 #[.int .i64 n] w (fun e w' => e = .returned (.agg #[.int .u8 3, .int .i64 n]) ∧ Below w.heap.size w w') := by
  go_enter Try.func16, Try.ntmps16
  go_wp2_with fail
  refine bodyPost_ret (v := .agg #[.int .u8 3, .int .i64 n]) (by simp [results, Try.results16, go_sem]) rfl ?_
  exact ⟨rfl, (Below.refl _ _).alloc (Nat.le_refl _) _⟩
theorem str_fn (n : Int) (w : World) : Calls Try.prog 27 #[.int .i64 n] w (fun e w' => e = .returned (.agg #[.int .u8 4, .int .i64 n]) ∧ Below w.heap.size w w') := by
  go_enter Try.func27, Try.ntmps27
  go_wp2_with fail
  refine bodyPost_ret (v := .agg #[.int .u8 4, .int .i64 n]) (by simp [results, Try.results27, go_sem]) rfl ?_
  exact ⟨rfl, (Below.refl _ _).alloc (Nat.le_refl _) _⟩
end Go.Proofs.Ytlpbciclkagnbaa.Tb
