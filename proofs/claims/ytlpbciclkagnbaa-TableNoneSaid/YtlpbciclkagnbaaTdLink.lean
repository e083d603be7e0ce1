/-
  Layer 13: places that are tied to one another: what stands in memory between one and the next.
-/
import Derived.Test.YtlpbciclkagnbaaTdMap
namespace Go.Proofs.Ytlpbciclkagnbaa.Td
open Go Go.RowKit Go.Proofs.Ytlpbciclkagnbaa.Pl Go.Proofs.Ytlpbciclkagnbaa.Tb

/-- A block of cells of a type. -/
def Shape (w : World) (b : Nat) (T : TypeId) (n : Nat) : Prop := ∃ cs, w.heap[b]? = some (.cells cs T (0, 0)) ∧ cs.size = n
section
variable {w w' : World} {b n : Nat} {T : TypeId} {a c : Addr} {v x : Value}
theorem Shape.set (h : Shape w b T n) : Shape (w.setCell a x) b T n := by
  obtain ⟨cs, h, hs⟩ := h
  by_cases e : b = a.block
  · subst e
    refine ⟨if a.spot.isSome then cs else cs.setIfInBounds a.off x, ?_, by split <;> simp [hs]⟩
    simp only [World.setCell, Array.getElem?_modify, ↓reduceIte, h, Option.map_some]
  · exact ⟨cs, by rw [heap_setCell_other _ _ _ _ e]; exact h, hs⟩
theorem Shape.free (h : Shape w b T n) (j : Nat) : w.frozen? ⟨b, j, none⟩ = false := by
  obtain ⟨cs, h, _⟩ := h
  exact free_of h j
theorem Shape.lt (h : Shape w b T n) : b < w.heap.size := by
  obtain ⟨cs, h, _⟩ := h
  exact lt_of_get h
theorem Shape.turns {G : List Nat} (h : Shape w b T n) (ht : Turns G w w') (hn : b ∉ G) : Shape w' b T n := by
  obtain ⟨cs, h, hs⟩ := h
  exact ⟨cs, by rw [ht.block b (lt_of_get h) hn]; exact h, hs⟩
theorem cell_keep (h : w.cell? c = some v) (hne : a ≠ c) : (w.setCell a x).cell? c = some v := by
  rw [World.cell?_setCell_other w a c x hne]; exact h
theorem cell_put (h : w.cell? a = some v) : (w.setCell a x).cell? a = some x := World.cell?_setCell_same w a x h
theorem cell_turns {G : List Nat} (h : w.cell? c = some v) (ht : Turns G w w') (hn : c.block ∉ G) : w'.cell? c = some v := by
  rw [World.cell?_of_block (w := w) (w' := w') (ht.block c.block (World.block_lt_of_cell? _ _ h) hn)]; exact h
end
/-- x leads to y, and y back to x. -/
def Link (w : World) (x y : Addr) : Prop := w.cell? ⟨x.block, x.off + 5, none⟩ = some (.pointer (some y)) ∧ w.cell? ⟨y.block, y.off + 4, none⟩ = some (.pointer (some x))
def Links (w : World) : List Addr → Prop
  | [] => True
  | [_] => True
  | x :: y :: r => Link w x y ∧ Links w (y :: r)
section
variable {w w' : World}
theorem links_cons {x y : Addr} {r : List Addr} : Links w (x :: y :: r) ↔ Link w x y ∧ Links w (y :: r) := Iff.rfl
theorem links_app : ∀ (P : List Addr) (x : Addr) (S : List Addr), Links w (P ++ x :: S) ↔ Links w (P ++ [x]) ∧ Links w (x :: S)
  | [], x, S => ⟨fun h => ⟨trivial, h⟩, fun h => h.2⟩
  | [p], x, S => by
    show Links w (p :: x :: S) ↔ Links w (p :: x :: []) ∧ _
    rw [links_cons, links_cons]
    exact ⟨fun h => ⟨⟨h.1, trivial⟩, h.2⟩, fun h => ⟨h.1.1, h.2⟩⟩
  | p :: q :: P, x, S => by
    show Links w (p :: q :: (P ++ x :: S)) ↔ Links w (p :: q :: (P ++ [x])) ∧ _
    rw [links_cons, links_cons]
    have := links_app (q :: P) x S
    rw [List.cons_append, List.cons_append] at this
    rw [this, and_assoc]
theorem links_turns {G : List Nat} (ht : Turns G w w') : ∀ (L : List Addr), (∀ z ∈ L, z.block ∉ G) → Links w L → Links w' L
  | [], _, _ => trivial
  | [_], _, _ => trivial
  | x :: y :: r, hn, h => ⟨⟨cell_turns h.1.1 ht (hn x (List.mem_cons_self ..)), cell_turns h.1.2 ht (hn y (List.mem_cons_of_mem _ (List.mem_cons_self ..)))⟩,
    links_turns ht (y :: r) (fun z hz => hn z (List.mem_cons_of_mem _ hz)) h.2⟩
/-- A store that is no link's. -/
theorem links_set {a : Addr} {v : Value} : ∀ (L : List Addr), (∀ z ∈ L, a ≠ ⟨z.block, z.off + 5, none⟩ ∧ a ≠ ⟨z.block, z.off + 4, none⟩) → Links w L → Links (w.setCell a v) L
  | [], _, _ => trivial
  | [_], _, _ => trivial
  | x :: y :: r, hn, h => ⟨⟨cell_keep h.1.1 (hn x (List.mem_cons_self ..)).1, cell_keep h.1.2 (hn y (List.mem_cons_of_mem _ (List.mem_cons_self ..))).2⟩,
    links_set (y :: r) (fun z hz => hn z (List.mem_cons_of_mem _ hz)) h.2⟩
theorem addr_ne5 {x z : Addr} (h : z.block ≠ x.block) : (⟨x.block, x.off + 5, none⟩ : Addr) ≠ ⟨z.block, z.off + 5, none⟩ := fun e => h (by injection e with e; exact e.symm)
theorem addr_ne4 {x z : Addr} (h : z.block ≠ x.block) : (⟨x.block, x.off + 4, none⟩ : Addr) ≠ ⟨z.block, z.off + 4, none⟩ := fun e => h (by injection e with e; exact e.symm)
theorem addr_ne54 {x z : Addr} (h : z.block = x.block → z.off = x.off) : (⟨x.block, x.off + 5, none⟩ : Addr) ≠ ⟨z.block, z.off + 4, none⟩ := fun e => by
  injection e with e1 e2
  have := h e1.symm
  omega
theorem addr_ne45 {x z : Addr} (h : z.block = x.block → z.off = x.off) : (⟨x.block, x.off + 4, none⟩ : Addr) ≠ ⟨z.block, z.off + 5, none⟩ := fun e => by
  injection e with e1 e2
  have := h e1.symm
  omega
/-- x is led elsewhere: where no other leads from x. -/
theorem links_set5 {x : Addr} {v : Value} : ∀ (L : List Addr), (∀ z ∈ L, z.block = x.block → z.off = x.off) → (∀ z ∈ L.dropLast, z.block ≠ x.block) → Links w L → Links (w.setCell ⟨x.block, x.off + 5, none⟩ v) L
  | [], _, _, _ => trivial
  | [_], _, _, _ => trivial
  | p :: q :: r, h1, h2, h => ⟨⟨cell_keep h.1.1 (addr_ne5 (h2 p (by rw [List.dropLast_cons_cons]; exact List.mem_cons_self ..))), cell_keep h.1.2 (addr_ne54 (h1 q (List.mem_cons_of_mem _ (List.mem_cons_self ..))))⟩,
    links_set5 (q :: r) (fun z hz => h1 z (List.mem_cons_of_mem _ hz)) (fun z hz => h2 z (by rw [List.dropLast_cons_cons]; exact List.mem_cons_of_mem _ hz)) h.2⟩
theorem links_set4 {x : Addr} {v : Value} : ∀ (L : List Addr), (∀ z ∈ L, z.block = x.block → z.off = x.off) → (∀ z ∈ L.tail, z.block ≠ x.block) → Links w L → Links (w.setCell ⟨x.block, x.off + 4, none⟩ v) L
  | [], _, _, _ => trivial
  | [_], _, _, _ => trivial
  | p :: q :: r, h1, h2, h => ⟨⟨cell_keep h.1.1 (addr_ne45 (h1 p (List.mem_cons_self ..))), cell_keep h.1.2 (addr_ne4 (h2 q (List.mem_cons_self ..)))⟩,
    links_set4 (q :: r) (fun z hz => h1 z (List.mem_cons_of_mem _ hz)) (fun z hz => h2 z (List.mem_cons_of_mem _ hz)) h.2⟩
end
end Go.Proofs.Ytlpbciclkagnbaa.Td
