/-
  Layer 12: what stands between the steps of the law PoolPlays: the pool, the document's in a box of the law's own.
-/
import Derived.Test.YtpfhaafaoedgpaaPlRefG
import Derived.Test.YtpfhaafaoedgpaaPlLink
import Derived.Test.YtpfhaafaoedgpaaPlAwake
import Derived.Test.YtpfhaafaoedgpaaPlReads
namespace Go.Proofs.Ytpfhaafaoedgpaa.Pl
open Go Go.RowKit

/-- The pool at b with the objects l; in the box bw the document's, with l2; in the box bo the step. -/
structure PlayAt (PA : PoolP) (w0 : World) (b bw : Nat) (m : Int) (l l2 : Ob) (F : List Nat) (ai : Option Addr) (n ci : Nat) (au : Option Addr) (cu : Nat) (w : World) : Prop where
  pool : PA w b m l F
  box : w.heap[bw]? = some (.cells #[.int .i64 m, .slice ai n ci, .slice au n cu] 38 (0, 0))
  li : LstP (fun k => k ∉ F ∧ k ≠ bw) w (.slice ai n ci) (ints (idsL 1 l2))
  ls : LstP (fun k => k ∉ F ∧ k ≠ bw) w (.slice au n cu) (ints (sizesL l2))
  apart : bw ∉ F
  high : ∀ k ∈ F, w0.heap.size ≤ k
  bh : w0.heap.size ≤ bw
  low : Below w0.heap.size w0 w
/-- A block of the law's own, beside the pool's. -/
def Beside (bo bw : Nat) (x : Obj) (F : List Nat) (w : World) : Prop := w.heap[bo]? = some x ∧ bo ∉ F ∧ bo ≠ bw
section
variable {PA : PoolP} {w0 w w' : World} {b bw bo : Nat} {m : Int} {l l' l2 l3 : Ob} {F F' : List Nat} {ai au ai' au' : Option Addr} {n ci cu n' ci' cu' : Nat} {x : Obj}
theorem Beside.call (h : Beside bo bw x F w) (ht : Turns F w w') (hf : Fresh F F' w) : Beside bo bw x F' w' :=
  ⟨(ht.block bo (lt_of_get h.1) h.2.1).trans h.1, fun hm => (hf bo hm).elim h.2.1 (fun e => absurd (lt_of_get h.1) (Nat.not_lt.2 e)), h.2.2⟩
theorem Beside.below (h : Beside bo bw x F w) (hb : Below w.heap.size w w') : Beside bo bw x F w' := h.call (Turns.of_below hb) (fun _ hx => .inl hx)
theorem PlayAt.call {b' : Nat} (h : PlayAt PA w0 b bw m l l2 F ai n ci au cu w) (ht : Turns F w w') (hp : PA w' b' m l' F') (hf : Fresh F F' w) : PlayAt PA w0 b' bw m l' l2 F' ai n ci au cu w' := by
  have keep : ∀ {v : Value} {vs : List Value}, LstP (fun k => k ∉ F ∧ k ≠ bw) w v vs → LstP (fun k => k ∉ F' ∧ k ≠ bw) w' v vs := fun hl =>
    ((hl.mono (P' := fun k => k < w.heap.size ∧ k ∉ F ∧ k ≠ bw) (fun _ h1 h2 => ⟨h1, h2⟩)).keep (fun k hP hk => ht.block k hk hP.2.1) ht.size).mono (fun k _ hP => ⟨fun hm => (hf k hm).elim hP.2.1 (fun e => absurd hP.1 (Nat.not_lt.2 e)), hP.2.2⟩)
  exact ⟨hp, (ht.block bw (lt_of_get h.box) h.apart).trans h.box, keep h.li, keep h.ls, fun hm => (hf bw hm).elim h.apart (fun e => absurd (lt_of_get h.box) (Nat.not_lt.2 e)),
    fun k hk => (hf k hk).elim (h.high k) (fun e => Nat.le_trans h.low.size e), h.bh, h.low.trans (ht.to_below h.low.size h.high)⟩
theorem PlayAt.below (H : PoolSays PA) (h : PlayAt PA w0 b bw m l l2 F ai n ci au cu w) (hb : Below w.heap.size w w') : PlayAt PA w0 b bw m l l2 F ai n ci au cu w' :=
  h.call (Turns.of_below hb) (H.keep (G := []) h.pool (Turns.of_below hb) (fun _ _ e => by cases e)) (fun _ hx => .inl hx)
theorem PlayAt.rp (h : PlayAt PA w0 b bw m l l2 F ai n ci au cu w) : RpV (fun k => k ∉ F ∧ k ≠ bw) w (.agg #[.int .i64 m, .slice ai n ci, .slice au n cu]) (rpOf m l2) := ⟨_, _, rfl, h.li, h.ls⟩
/-- What the document's pool is then, stored in the box. -/
theorem PlayAt.store (H : PoolSays PA) (h : PlayAt PA w0 b bw m l l2 F ai n ci au cu w) (hr : RpV (fun k => k ∉ F ∧ k ≠ bw) w (.agg #[.int .i64 m, .slice ai' n' ci', .slice au' n' cu']) (rpOf m l3)) :
    PlayAt PA w0 b bw m l l3 F ai' n' ci' au' cu' (((w.setCell ⟨bw, 0, none⟩ (.int .i64 m)).setCell ⟨bw, 1, none⟩ (.slice ai' n' ci')).setCell ⟨bw, 2, none⟩ (.slice au' n' cu')) := by
  have h1 := heap_setCell_same w bw 0 _ _ (.int .i64 m) h.box
  have h2 := heap_setCell_same _ bw 1 _ _ (.slice ai' n' ci') h1
  have h3 := heap_setCell_same _ bw 2 _ _ (.slice au' n' cu') h2
  have hk : ∀ k, k ≠ bw → (((w.setCell ⟨bw, 0, none⟩ (.int .i64 m)).setCell ⟨bw, 1, none⟩ (.slice ai' n' ci')).setCell ⟨bw, 2, none⟩ (.slice au' n' cu')).heap[k]? = w.heap[k]? := fun k hk => by
    rw [heap_setCell_other _ _ _ _ hk, heap_setCell_other _ _ _ _ hk, heap_setCell_other _ _ _ _ hk]
  obtain ⟨vi, vs, e, r1, r2⟩ := hr
  injection e with e
  have e1 : Value.slice ai' n' ci' = vi := by injection e with e; injection e with _ e; injection e
  have e2 : Value.slice au' n' cu' = vs := by injection e with e; injection e with _ e; injection e with _ e; injection e
  subst e1
  subst e2
  refine ⟨H.keep (G := [bw]) h.pool ⟨rfl, rfl, rfl, by simp, fun k _ hn => hk k (fun e => hn (List.mem_singleton.2 e))⟩ (fun k hk hg => h.apart (by rw [← List.mem_singleton.1 hg]; exact hk)), h3,
    r1.keep (fun k hP _ => hk k hP.2) (by simp), r2.keep (fun k hP _ => hk k hP.2) (by simp), h.apart, h.high, h.bh, ((h.low.setCell h.bh _).setCell h.bh _).setCell h.bh _⟩
theorem Beside.store (h : Beside bo bw x F w) (u0 u1 u2 : Value) : Beside bo bw x F (((w.setCell ⟨bw, 0, none⟩ u0).setCell ⟨bw, 1, none⟩ u1).setCell ⟨bw, 2, none⟩ u2) := by
  refine ⟨?_, h.2⟩
  rw [heap_setCell_other _ _ _ _ h.2.2, heap_setCell_other _ _ _ _ h.2.2, heap_setCell_other _ _ _ _ h.2.2]
  exact h.1
/-- What the document's calls hand back lies beside the pool and the box. -/
theorem PlayAt.back (H : PoolSays PA) (h : PlayAt PA w0 b bw m l l2 F ai n ci au cu w) {v : Value} {p : Rp} (hr : RpV (fun k => (k ∉ F ∧ k ≠ bw) ∨ w.heap.size ≤ k) w' v p) : RpV (fun k => k ∉ F ∧ k ≠ bw) w' v p :=
  hr.mono (fun k _ hk => hk.elim id (fun e => ⟨fun hm => absurd ((H.mem h.pool).2 k hm) (Nat.not_lt.2 e), fun e2 => absurd (lt_of_get h.box) (by rw [← e2]; exact Nat.not_lt.2 e)⟩))
theorem PlayAt.ok (H : PoolSays PA) (h : PlayAt PA w0 b bw m l l F ai n ci au cu w) : (rpOf m l).Ok := rp_ok (H.ok h.pool)
/-- The document's pool, as one of the calls leaves it: its shape, and that it lies beside. -/
theorem PlayAt.next (H : PoolSays PA) (h : PlayAt PA w0 b bw m l' l2 F ai n ci au cu w) {v : Value} (hb : Below w.heap.size w w') (hr : RpV (fun k => (k ∉ F ∧ k ≠ bw) ∨ w.heap.size ≤ k) w' v (rpOf m l')) :
    ∃ ai' n' ci' au' cu', v = .agg #[.int .i64 m, .slice ai' n' ci', .slice au' n' cu'] ∧ PlayAt PA w0 b bw m l' l' F ai' n' ci' au' cu' (((w'.setCell ⟨bw, 0, none⟩ (.int .i64 m)).setCell ⟨bw, 1, none⟩ (.slice ai' n' ci')).setCell ⟨bw, 2, none⟩ (.slice au' n' cu')) := by
  have hr2 := h.back H hr
  obtain ⟨ai', ci', au', cu', n', rfl, e1, e2, r1, r2⟩ := hr2.shape (rp_ok (H.ok h.pool))
  exact ⟨ai', n', ci', au', cu', rfl, (h.below H hb).store H ⟨_, _, rfl, r1, r2⟩⟩
end
end Go.Proofs.Ytpfhaafaoedgpaa.Pl
