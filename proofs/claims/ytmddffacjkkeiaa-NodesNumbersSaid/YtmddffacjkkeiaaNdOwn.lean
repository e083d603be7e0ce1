/-
  Layer 5: a list of nodes in memory of the call's own; a node appended.
-/
import Derived.Test.YtmddffacjkkeiaaNdCopy
import Derived.Test.YtmddffacjkkeiaaRunesKit
namespace Go.Proofs.Ytmddffacjkkeiaa.Nd
open Go Go.RowKit Go.ChangeShapes Go.WideShapes

/-- A node with the values of its two lists. -/
abbrev R3 := Nd × Value × Value
def cells6 (r : R3) : List Value := [.int .u8 r.1.k, .int .i64 r.1.n, .string r.1.name, r.2.1, r.2.2, .int .i64 r.1.line]
def rowCells (rs : List R3) : List Value := rs.flatMap cells6
theorem row_length : ∀ rs : List R3, (rowCells rs).length = rs.length * 6
  | [] => rfl
  | t :: l => by
    show (cells6 t ++ rowCells l).length = _
    rw [List.length_append, row_length l, List.length_cons, show (cells6 t).length = 6 from rfl]; omega
theorem row_snoc (l : List R3) (t : R3) : rowCells (l ++ [t]) = rowCells l ++ cells6 t := by
  unfold rowCells; rw [List.flatMap_append]; simp
def Sub (w : World) (r : R3) : Prop :=
  w.ownsRow 0 9 1 r.2.1 r.1.names.length (r.1.names.map .string) ∧ w.ownsRow 0 3 1 r.2.2 r.1.kids.length (r.1.kids.map (.int .i64))
def Fine (n : Nd) : Prop := n.k < 256 ∧ In64 n.n ∧ In64 n.line ∧ (∀ c ∈ n.kids, In64 c) ∧ n.name.size ≤ 140737488351232 ∧ n.names.length * 16 ≤ 140737488351232 ∧ n.kids.length * 8 ≤ 140737488351232 ∧ ∀ s ∈ n.names, s.size ≤ 140737488351232
def OwnNd (w : World) (base : Nat) (v : Value) (rs : List R3) : Prop := w.ownsRow base 30 6 v rs.length (rowCells rs) ∧ ∀ r ∈ rs, Sub w r

theorem own_below5 {w w' : World} {b : Nat} {e : TypeId} {size : Nat} {v : Value} {n : Nat} {xs : List Value} (h : w.ownsRow b e size v n xs) (hb : Below w.heap.size w w') : w'.ownsRow b e size v n xs := by
  refine ⟨h.1, ?_⟩
  rcases h.2 with h2 | ⟨g, cap, cur, hv, hg, hh, r⟩
  · exact .inl h2
  · exact .inr ⟨g, cap, cur, hv, hg, by rw [hb.block g (by rcases Nat.lt_or_ge g w.heap.size with h | h; exact h; rw [Array.getElem?_eq_none h] at hh; cases hh)]; exact hh, r⟩
theorem Sub.below {w w' : World} {r : R3} (h : Sub w r) (hb : Below w.heap.size w w') : Sub w' r := ⟨own_below5 h.1 hb, own_below5 h.2 hb⟩
theorem OwnNd.below {w w' : World} {b : Nat} {v : Value} {rs : List R3} (h : OwnNd w b v rs) (hb : Below w.heap.size w w') : OwnNd w' b v rs := ⟨own_below5 h.1 hb, fun r hr => (h.2 r hr).below hb⟩
theorem own_slice {w : World} {b : Nat} {e : TypeId} {size : Nat} {v : Value} {n : Nat} {xs : List Value} (h : w.ownsRow b e size v n xs) : ∃ ao c, v = .slice ao n c := by
  rcases h.2 with ⟨rfl, rfl⟩ | ⟨g, cap, cur, rfl, _⟩
  · exact ⟨_, _, rfl⟩
  · exact ⟨_, _, rfl⟩
theorem Sub.kept {w w' : World} {r : R3} {b n size : Nat} {v : Value} {xs : List Value} (h : Sub w r) (hv : w.ownsRow b 30 size v n xs) (hg : w.grownBy w' v.ownBlock) : Sub w' r :=
  ⟨h.1.kept hg (ownBlock_ne h.1 hv (by decide)), h.2.kept hg (ownBlock_ne h.2 hv (by decide))⟩

theorem infoNode : (Try.prog.info? 30).map (fun i => (i.zero, i.size, i.bytes)) = some (some (.agg #[.int .u8 0, .int .i64 0, .string ⟨#[]⟩, .slice none 0 0, .slice none 0 0, .int .i64 0]), 6, 88) := by kernel_rfl

/-- 'out = append(out, n)'. -/
theorem wpList_append_node {w : World} {ops : Array Oper} {rest : List Oper} {o : Oper} {a : Act} {Q : Exit → Act → World → Prop} (hgd : o.guard = none) (s x : Operand)
    (ho : o.op = .call { callee := .builtin .append, args := #[s, x], argTypes := #[22, 22] })
    (base : Nat) (v : Value) (rs : List R3) (r : R3) (hs : a.eval s = v) (hown : OwnNd w base v rs) (hr : Sub w r)
    (g : Nat) (hx : a.eval x = .slice (some ⟨g, 0, none⟩) 1 1) (hgw : g = w.heap.size) (hl : rs.length ≤ 1000000000) (hbase : base ≤ w.heap.size)
    (h : ∀ v' w', OwnNd w' base v' (rs ++ [r]) → Below base w w' → wpList Try.prog ops Q rest (a.put o.dst v') w') :
    wpList Try.prog ops Q (o :: rest) a (w.alloc (.cells #[.int .u8 r.1.k, .int .i64 r.1.n, .string r.1.name, r.2.1, r.2.2, .int .i64 r.1.line] 30)) := by
  subst hgw
  obtain ⟨i, hi, hz, hsize, hby⟩ := info_parts infoNode
  have hal : Below w.heap.size w (w.alloc (.cells #[.int .u8 r.1.k, .int .i64 r.1.n, .string r.1.name, r.2.1, r.2.2, .int .i64 r.1.line] 30)) := (Below.refl _ _).alloc (Nat.le_refl _) _
  have hO := hown.1.alloc (.cells #[.int .u8 r.1.k, .int .i64 r.1.n, .string r.1.name, r.2.1, r.2.2, .int .i64 r.1.line] 30)
  refine wpList_append_own (w := w.alloc (.cells #[.int .u8 r.1.k, .int .i64 r.1.n, .string r.1.name, r.2.1, r.2.2, .int .i64 r.1.line] 30)) hgd s x 22 ho base 30 i _ 6 88 Try.underlying22 hi hz hsize hby rfl (by decide) v rs.length (rowCells rs) hs hO ⟨w.heap.size, 0, none⟩ 1 1 (cells6 r) hx rfl (fun j u hj => ?_) (fun u hu => ?_) (by unfold maxLen; omega) (by omega) (by simp; omega) (fun v' w' h1 h2 _ => h v' w' ⟨?_, ?_⟩ ?_)
  · rw [show (⟨w.heap.size, 0, none⟩ : Addr).add j = ⟨w.heap.size, j, none⟩ from by simp [Addr.add]; omega, World.cell?_alloc_mark, ← hj]
    simp [cells6]
  · obtain ⟨_, _, e1⟩ := own_slice hr.1
    obtain ⟨_, _, e2⟩ := own_slice hr.2
    simp [cells6, e1, e2] at hu
    rcases hu with rfl | rfl | rfl | rfl | rfl | rfl <;> rfl
  · rw [row_snoc, List.length_append, List.length_singleton]; exact h1
  · intro q hq
    rcases List.mem_append.1 hq with hq | hq
    · exact ((hown.2 q hq).below hal).kept hO h2
    · rw [List.mem_singleton.1 hq]; exact (hr.below hal).kept hO h2
  · refine ((Below.refl _ _).alloc hbase _).grown h2 (by simp; omega) (fun k hk => ?_)
    rcases hown.1.2 with ⟨rfl, _⟩ | ⟨g, cap, cur, rfl, hg, _⟩
    · cases hk
    · cases hk; exact hg

end Go.Proofs.Ytmddffacjkkeiaa.Nd
