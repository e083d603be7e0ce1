/-
  A part of the proof.
-/
import Derived.Deep.AppendSrc
import Derived.Deep.Upon
import Derived.WalkKit
import Derived.WalkSpells
import Derived.WalkLawsBesides
import Derived.Lib.Hide
import Derived.IntWalk
import Derived.Deep.LoopGhost
import Derived.Deep.DeepCutAuto
import Derived.StillTailTactics
import Derived.Below
import Derived.Shelf.Abstract
import Derived.Lib.SmallJoins
import Derived.Deep.RegionHeld
import Derived.Maps.AppendAt
import Derived.Test.YtnkejjlidgnkkaaGreatDoorClRA
import Derived.Test.YtnkejjlidgnkkaaGreatDoorClRB
set_option maxRecDepth 100000
set_option maxHeartbeats 40000000
namespace Go.Proofs.YtnkejjlidgnkkaaGreatDoor.Nd

open Go.Lib renaming hid → qh
def placeZ (k : Nat) (a : Int) : Int := if a = k then 0 else if 0 <= a /\ a < k then a + 1 else a
def mapK (f : Int -> Int) (n : Nd) : Nd := { n with kids := n.kids.map f }
def pull (k : Nat) (l : List Nd) : List Nd := at' l k :: (l.take k ++ l.drop (k + 1))
def front (k : Nat) (l : List Nd) : List Nd := (pull k l).map (mapK (placeZ k))
theorem pull_length {k : Nat} {l : List Nd} (h : k < l.length) : (pull k l).length = l.length := by
 unfold pull;rw [List.length_cons, List.length_append, List.length_take, List.length_drop]; omega
theorem front_length {k : Nat} {l : List Nd} (h : k < l.length) : (front k l).length = l.length := by
 unfold front; rw [List.length_map, pull_length h]
theorem pull_at {k : Nat} {l : List Nd} (h : k < l.length) (i : Nat) (hi : i < l.length) : (pull k l)[if i = k then 0 else if i < k then i + 1 else i]? = l[i]? := by
 unfold pull;by_cases h1 : i = k
 ·subst h1;rw [if_pos rfl, List.getElem?_cons_zero];unfold at';rw [List.getD_eq_getElem?_getD, show ((i : Int)).toNat = i from rfl, List.getElem?_eq_getElem h]; rfl
 ·rw [if_neg h1];by_cases h2 : i < k
  ·rw [if_pos h2, List.getElem?_cons_succ, List.getElem?_append_left (by rw [List.length_take]; omega), List.getElem?_take_of_lt h2]
  ·rw [if_neg h2];obtain ⟨j, rfl⟩ : ∃ j, i = j + 1 := ⟨i - 1, by omega⟩;rw [List.getElem?_cons_succ, List.getElem?_append_right (by rw [List.length_take]; omega), List.length_take, List.getElem?_drop]
   congr 1; omega
theorem place_at (k i : Nat) : placeZ k (i : Int) = ((if i = k then 0 else if i < k then i + 1 else i : Nat) : Int) := by
 unfold placeZ;by_cases h1 : i = k
 ·rw [if_pos (by omega), if_pos h1]; rfl
 ·rw [if_neg (by omega), if_neg h1];by_cases h2 : i < k
  ·rw [if_pos (by omega), if_pos h2]; rfl
  ·rw [if_neg (by omega), if_neg h2]
theorem place_lt {k : Nat} {n : Nat} (h : k < n) (a : Int) : (0 <= placeZ k a /\ placeZ k a < n) ↔ (0 <= a /\ a < n) := by
 unfold placeZ; split
 ·omega
 ·split <;> omega
theorem place_inj (k : Nat) (a b : Int) (h : placeZ k a = placeZ k b) : a = b := by
 unfold placeZ at h
 split at h <;> split at h <;> (try split at h) <;> (try split at h) <;> omega
theorem place_onto {k : Nat} {n : Nat} (h : k < n) (j : Int) (hj : 0 <= j /\ j < n) : ∃ i : Int, (0 <= i /\ i < n) /\ j = placeZ k i := by
 by_cases h0 : j = 0
 ·exact ⟨k, by omega, by unfold placeZ; rw [if_pos rfl]; exact h0⟩
 ·by_cases h1 : j <= k
  ·exact ⟨j - 1, by omega, by unfold placeZ; rw [if_neg (by omega), if_pos (by omega)]; omega⟩
  ·exact ⟨j, by omega, by unfold placeZ; rw [if_neg (by omega), if_neg (by omega)]⟩
theorem front_moved {k : Nat} {l : List Nd} (h : k < l.length) : Moved (placeZ k) l (front k l) := by
 have hl := front_length h;refine ⟨hl, place_inj k, ?_, ?_, ?_, ?_⟩
 ·intro i hi;unfold inR at *;rw [hl];exact (place_lt h i).2 hi
 ·intro i hi;unfold inR at *;rw [hl] at hi;exact (place_lt h i).1 hi
 ·intro j hj;unfold inR at *;rw [hl] at hj;exact place_onto h j hj
 ·intro i hi;obtain ⟨h0, h1⟩ := hi;obtain ⟨i, rfl⟩ := Int.eq_ofNat_of_zero_le h0;have h2 : i < l.length := by omega
  have e : at' (front k l) (placeZ k (i : Int)) = mapK (placeZ k) (at' l i) := by
   have hp := pull_at h i h2;rw [place_at];unfold at' front;rw [Int.toNat_natCast, Int.toNat_natCast, List.getD_eq_getElem?_getD, List.getElem?_map, hp, List.getD_eq_getElem?_getD, List.getElem?_eq_getElem h2]
   rfl
  rw [e];exact ⟨rfl, rfl, rfl, rfl, rfl, rfl⟩
theorem at_map_id (l : List Nd) : Moved id l l := ⟨rfl, fun _ _ h => h, fun _ h => h, fun _ h => h, fun j h => ⟨j, h, rfl⟩, fun i _ => ⟨rfl, rfl, rfl, rfl, by rw [List.map_id]; rfl, rfl⟩⟩
theorem Moved.trans {π ρ : Int -> Int} {l m o : List Nd} (h : Moved π l m) (g : Moved ρ m o) : Moved (fun i => ρ (π i)) l o := by
 refine ⟨g.len.trans h.len, fun i j e => h.inj _ _ (g.inj _ _ e), fun i hi => g.fwd _ (h.fwd i hi), fun i hi => h.bwd i (g.bwd _ hi), ?_, ?_⟩
 ·intro j hj;obtain ⟨i, hi, rfl⟩ := g.onto j hj;obtain ⟨i', hi', rfl⟩ := h.onto i hi;exact ⟨i', hi', rfl⟩
 ·intro i hi;obtain ⟨a1, a2, a3, a4, a5, a6⟩ := h.is i hi;obtain ⟨b1, b2, b3, b4, b5, b6⟩ := g.is (π i) (h.fwd i hi);exact ⟨b1.trans a1, b2.trans a2, b3.trans a3, b4.trans a4, by rw [b5, a5, List.map_map]; rfl, b6.trans a6⟩
inductive Shuf (l : List Nd) (r : Int) : List Nd -> Int -> Prop
 | start : Shuf l r l r
 | step {m : List Nd} {s : Int} {k : Nat} : Shuf l r m s -> k < m.length -> Shuf l r (front k m) (placeZ k s)
theorem Shuf.moved {l m : List Nd} {r s : Int} (h : Shuf l r m s) : ∃ π, Moved π l m /\ s = π r := by
 induction h with
 | start => exact ⟨id, at_map_id l, rfl⟩
 | step _ hk ih =>
  obtain ⟨π, hm, rfl⟩ := ih;exact ⟨_, hm.trans (front_moved hk), rfl⟩
theorem Shuf.length {l m : List Nd} {r s : Int} (h : Shuf l r m s) : m.length = l.length := by
 obtain ⟨_, hm, _⟩ := h.moved;exact hm.len
end Go.Proofs.YtnkejjlidgnkkaaGreatDoor.Nd
namespace Go.Proofs.YtnkejjlidgnkkaaGreatDoor.Nd

open Go.Lib renaming hid → qh
open Go Go.RowKit Go.ChangeShapes Go.WideShapes
theorem layF : (∀ (l : List Value) (i : Nat) (h : i < l.toArray.size), l.toArray[i] = l[i]'(by simpa using h)) /\ (∀ (a : Value) (l : List Value) (i : Nat) (h : i + 1 < (a :: l).length), (a :: l)[i + 1] = l[i]'(by simpa using h)) /\ (∀ (a : Value) (l : List Value) (h : 0 < (a :: l).length), (a :: l)[0] = a) /\
  (∀ (l : List Value) (i : Nat) (x : Value), l.toArray.setIfInBounds i x = (l.set i x).toArray) /\ (∀ (a b : Value) (l : List Value), (a :: l).set 0 b = b :: l) /\ (∀ (a b : Value) (l : List Value) (i : Nat), (a :: l).set (i + 1) b = a :: l.set i b) :=
 ⟨fun _ _ _ => List.getElem_toArray _, fun _ _ _ _ => rfl, fun _ _ _ => rfl, fun _ _ _ => List.setIfInBounds_toArray .., fun _ _ _ => rfl, fun _ _ _ _ => rfl⟩
abbrev R3 := Nd × Value × Value
def cells6 (r : R3) : List Value := [.int .u8 r.1.k, .int .i64 r.1.n, .string r.1.name, r.2.1, r.2.2, .int .i64 r.1.line]
def rowCells (rs : List R3) : List Value := rs.flatMap cells6
theorem row_snoc (l : List R3) (t : R3) : rowCells (l ++ [t]) = rowCells l ++ cells6 t := by
 unfold rowCells; rw [List.flatMap_append]; simp
def Sub (w : World) (r : R3) : Prop :=
 w.ownsRow 0 9 1 r.2.1 r.1.names.length (r.1.names.map .string) /\ w.ownsRow 0 3 1 r.2.2 r.1.kids.length (r.1.kids.map (.int .i64))
def Fine (n : Nd) : Prop := n.k < 256 /\ In64 n.n /\ In64 n.line /\ (∀ c ∈ n.kids, In64 c) /\ n.name.size <= 140737488351232 /\ n.names.length * 16 <= 140737488351232 /\ n.kids.length * 8 <= 140737488351232 /\ ∀ s ∈ n.names, s.size <= 140737488351232
def OwnNd (w : World) (base : Nat) (v : Value) (rs : List R3) : Prop := w.ownsRow base 35 6 v rs.length (rowCells rs) /\ ∀ r ∈ rs, Sub w r
theorem own_below5 {w w' : World} {b : Nat} {e : TypeId} {size : Nat} {v : Value} {n : Nat} {xs : List Value} (h : w.ownsRow b e size v n xs) (hb : Below w.heap.size w w') : w'.ownsRow b e size v n xs := by
 refine ⟨h.1, ?_⟩;rcases h.2 with h2 | ⟨g, cap, cur, hv, hg, hh, r⟩
 ·exact .inl h2
 ·exact .inr ⟨g, cap, cur, hv, hg, by rw [hb.block g (by rcases Nat.lt_or_ge g w.heap.size with h | h; exact h; rw [Array.getElem?_eq_none h] at hh; cases hh)]; exact hh, r⟩
theorem Sub.below {w w' : World} {r : R3} (h : Sub w r) (hb : Below w.heap.size w w') : Sub w' r := ⟨own_below5 h.1 hb, own_below5 h.2 hb⟩
theorem OwnNd.below {w w' : World} {b : Nat} {v : Value} {rs : List R3} (h : OwnNd w b v rs) (hb : Below w.heap.size w w') : OwnNd w' b v rs := ⟨own_below5 h.1 hb, fun r hr => (h.2 r hr).below hb⟩
theorem own_slice {w : World} {b : Nat} {e : TypeId} {size : Nat} {v : Value} {n : Nat} {xs : List Value} (h : w.ownsRow b e size v n xs) : ∃ ao c, v = .slice ao n c := by
 rcases h.2 with ⟨rfl, rfl⟩ | ⟨g, cap, cur, rfl, _⟩
 ·exact ⟨_, _, rfl⟩
 ·exact ⟨_, _, rfl⟩
theorem Sub.kept {w w' : World} {r : R3} {b n size : Nat} {v : Value} {xs : List Value} (h : Sub w r) (hv : w.ownsRow b 35 size v n xs) (hg : w.grownBy w' v.ownBlock) : Sub w' r :=
 ⟨h.1.kept hg (ownBlock_ne h.1 hv (by decide)), h.2.kept hg (ownBlock_ne h.2 hv (by decide))⟩
theorem infoNode : (Tryz.prog.info? 35).map (fun i => (i.zero, i.size, i.bytes)) = some (some (.agg #[.int .u8 0, .int .i64 0, .string ⟨#[]⟩, .slice none 0 0, .slice none 0 0, .int .i64 0]), 6, 88) := by kernel_rfl
end Go.Proofs.YtnkejjlidgnkkaaGreatDoor.Nd
namespace Go.Proofs.YtnkejjlidgnkkaaGreatDoor.Lex

open Go.Lib renaming hid → qh
open Go.RowKit
theorem infoTok : (Tryz.prog.info? 55).map (fun i => (i.zero, i.size, i.bytes)) = some (some (.agg #[.int .u8 0, .string ⟨#[]⟩, .int .i64 0, .int .i64 0]), 4, 40) := by kernel_rfl
def tokCells (t : Tok) : List Value := [.int .u8 t.k, .string t.s, .int .i64 t.n, .int .i64 t.line]
def toksCells (l : List Tok) : List Value := l.flatMap tokCells
theorem toks_snoc (l : List Tok) (t : Tok) : toksCells (l ++ [t]) = toksCells l ++ tokCells t := by
 unfold toksCells; rw [List.flatMap_append]; simp
theorem wpList_append_tok {w : World} {ops : Array Oper} {rest : List Oper} {o : Oper} {a : Act} {Q : Exit -> Act -> World -> Prop} (hgd : o.guard = none) (s x : Operand)
  (ho : o.op = .call { callee := .builtin .append, args := #[s, x], argTypes := #[38, 38] })
  (base : Nat) (v : Value) (l : List Tok) (t : Tok) (vk vl : Int) (hvk : vk = t.k) (hvl : vl = t.line) (hs : a.eval s = v) (hown : w.ownsRow base 55 4 v l.length (toksCells l))
  (g : Nat) (hx : a.eval x = .slice (some ⟨g, 0, none⟩) 1 1) (hgw : g = w.heap.size) (hl : l.length <= 1000000000) (hbase : base <= w.heap.size)
  (h : ∀ v' w', w'.ownsRow base 55 4 v' (l ++ [t]).length (toksCells (l ++ [t])) -> (w.alloc (.cells #[.int .u8 vk, .string t.s, .int .i64 t.n, .int .i64 vl] 55)).grownBy w' v.ownBlock -> wpList Tryz.prog ops Q rest (a.put o.dst v') w') :
  wpList Tryz.prog ops Q (o :: rest) a (w.alloc (.cells #[.int .u8 vk, .string t.s, .int .i64 t.n, .int .i64 vl] 55)) := by
 subst hvk hvl hgw;obtain ⟨i, hi, hz, hsize, hby⟩ := info_parts infoTok;refine wpList_append_own (w := w.alloc (.cells #[.int .u8 t.k, .string t.s, .int .i64 t.n, .int .i64 t.line] 55)) hgd s x 38 ho base 55 i _ 4 40 Tryz.underlying38 hi hz hsize hby rfl (by decide) v l.length (toksCells l) hs (hown.alloc _) ⟨w.heap.size, 0, none⟩ 1 1 (tokCells t) hx rfl (fun j u hj => ?_) (fun u hu => ?_) (by unfold maxLen; omega) (by omega) (by simp; omega) (fun v' w' h1 h2 _ => h v' w' (by rw [toks_snoc, List.length_append, List.length_singleton]; exact h1) h2)
 ·rw [show (⟨w.heap.size, 0, none⟩ : Addr).add j = ⟨w.heap.size, j, none⟩ from by simp [Addr.add]; omega, World.cell?_alloc_mark, <- hj];simp [tokCells]
 ·simp [tokCells] at hu;rcases hu with rfl | rfl | rfl | rfl <;> rfl
def TokReads (w : World) (v : Value) (l : List Tok) : Prop :=
 ∃ ao cap, v = .slice ao l.length cap /\ (l ≠ [] -> ∃ g, g < w.heap.size /\ ao = some ⟨g, 0, none⟩ /\ ∀ (i : Nat) (h : i < l.length), w.cell? ⟨g, i * 4, none⟩ = some (.int .u8 l[i].k) /\ w.cell? ⟨g, i * 4 + 1, none⟩ = some (.string l[i].s) /\ w.cell? ⟨g, i * 4 + 2, none⟩ = some (.int .i64 l[i].n) /\ w.cell? ⟨g, i * 4 + 3, none⟩ = some (.int .i64 l[i].line))
theorem TokReads.below {w w' : World} {v : Value} {l : List Tok} (h : TokReads w v l) (hb : Below w.heap.size w w') : TokReads w' v l := by
 obtain ⟨ao, cap, rfl, h⟩ := h;refine ⟨ao, cap, rfl, fun hl => ?_⟩;obtain ⟨g, hg, rfl, hc⟩ := h hl;refine ⟨g, by have := hb.size; omega, rfl, fun i hi => ?_⟩;rw [hb.cell (p := ⟨g, i * 4, none⟩) hg, hb.cell (p := ⟨g, i * 4 + 1, none⟩) hg, hb.cell (p := ⟨g, i * 4 + 2, none⟩) hg, hb.cell (p := ⟨g, i * 4 + 3, none⟩) hg];exact hc i hi
theorem TokReads.nil (w : World) : TokReads w (.slice none 0 0) [] := ⟨none, 0, rfl, fun h => absurd rfl h⟩
theorem toks_at : ∀ (l : List Tok) (i : Nat) (h : i < l.length) (j : Nat), j < 4 -> (toksCells l)[i * 4 + j]? = (tokCells l[i])[j]?
 | t :: l, 0, _, j, hj => by
  show (tokCells t ++ toksCells l)[0 * 4 + j]? = _;rw [Nat.zero_mul, Nat.zero_add, List.getElem?_append_left (show j < (tokCells t).length from hj)]; rfl
 | t :: l, i + 1, h, j, hj => by
  show (tokCells t ++ toksCells l)[(i + 1) * 4 + j]? = _;rw [List.getElem?_append_right (by show 4 <= _; omega), show (i + 1) * 4 + j - (tokCells t).length = i * 4 + j from by show (i + 1) * 4 + j - 4 = _; omega];exact toks_at l i (by simpa using h) j hj
theorem TokReads.own {w : World} {b : Nat} {v : Value} {l : List Tok} (h : w.ownsRow b 55 4 v l.length (toksCells l)) : TokReads w v l := by
 rcases h.2 with ⟨rfl, h0⟩ | ⟨g, cap, cur, rfl, _, hg, _⟩
 ·exact ⟨none, 0, by rw [h0], fun hl => absurd (List.eq_nil_of_length_eq_zero h0) hl⟩
 ·refine ⟨_, cap, rfl, fun _ => ⟨g, (Array.getElem?_eq_some_iff.1 hg).1, rfl, fun i hi => ?_⟩⟩;have hc : ∀ j, j < 4 -> ∀ u, (tokCells l[i])[j]? = some u -> w.cell? ⟨g, i * 4 + j, none⟩ = some u := fun j hj u hu => by
   have := h.cells (g := g) rfl (i * 4 + j) u (by rw [toks_at l i hi j hj]; exact hu)
   rwa [show (⟨g, 0, none⟩ : Addr).add (i * 4 + j) = ⟨g, i * 4 + j, none⟩ from by simp [Addr.add]; omega] at this
  exact ⟨hc 0 (by decide) _ rfl, hc 1 (by decide) _ rfl, hc 2 (by decide) _ rfl, hc 3 (by decide) _ rfl⟩
def ToksSays (R : List Tok × Nat × Nat) (w : World) (e : Ending) (w' : World) : Prop :=
 ∃ v, e = .returned (.tuple #[v, .agg #[.int .i64 (R.2.1 : Nat), .int .i64 (R.2.2 : Nat)]]) /\ TokReads w' v R.1 /\ Below w.heap.size w w'
theorem toks_says {R : List Tok × Nat × Nat} {v : Value} {l : List Tok} {e n : Nat} {ve vn : Int} {w w' : World} (h : R = (l, e, n)) (he : ve = e) (hn : vn = n) (hv : TokReads w' v l) (hb : Below w.heap.size w w') : ToksSays R w (.returned (.tuple #[v, .agg #[.int .i64 ve, .int .i64 vn]])) w' := by
 subst h he hn;exact ⟨v, rfl, hv, hb⟩
structure TAt (s : ByteArray) (R : List Tok × Nat × Nat) (p line : Nat) (acc : List Tok) : Prop where
 le : p <= s.size
 few : acc.length <= p
 low : line <= p + 1
 says : ∃ m, s.size - p + 1 <= m /\ R = tokF m line (s.data.toList.drop p) acc
theorem linesF_le : ∀ (l : List UInt8) (c : Nat), linesF c l <= l.length
 | [], c => Nat.zero_le _
 | a :: l, c => by
  have h1 := linesF_le l 0;have h2 := linesF_le l a.toNat;rw [linesF];simp only [List.length_cons]
  repeat (first | omega | split)
theorem lines_take (l : List UInt8) (k : Nat) : linesOf (l.take k) <= k := by
 have h := linesF_le (l.take k) 0;have h2 : (l.take k).length <= k := by rw [List.length_take]; omega
 exact Nat.le_trans h h2
theorem heap_new (w : World) (o : Obj) : (w.alloc o).heap[w.heap.size]? = some o := by
 show (w.heap.push o)[w.heap.size]? = some o;simp
theorem own_below {w w' : World} {b : Nat} {e : TypeId} {size : Nat} {v : Value} {n : Nat} {xs : List Value} (h : w.ownsRow b e size v n xs) (hb : Below w.heap.size w w') : w'.ownsRow b e size v n xs := by
 refine ⟨h.1, ?_⟩;rcases h.2 with hn | ⟨g, cap, cur, rfl, hbg, hg, rest⟩
 ·exact .inl hn
 ·exact .inr ⟨g, cap, cur, rfl, hbg, (hb.block g (Array.getElem?_eq_some_iff.1 hg).1).trans hg, rest⟩
theorem heap_old {w : World} {g : Nat} (o : Obj) (h : g < w.heap.size) : (w.alloc o).heap[g]? = w.heap[g]? := (((Below.refl w.heap.size w).alloc (Nat.le_refl _) o).block g h)
theorem two_set {w0 w : World} {B g : Nat} {v0 v1 : Value} (h : Below B w0 w) (hg : B <= g) : Below B w0 ((w.setCell ⟨g, 0, none⟩ v0).setCell ⟨g, 1, none⟩ v1) :=
 (h.setCell (p := ⟨g, 0, none⟩) hg _).setCell (p := ⟨g, 1, none⟩) hg _
theorem reads_two {w : World} {b g n : Nat} {v v0 v1 : Value} {l : List Tok} (h : w.ownsRow b 55 4 v n (toksCells l)) (hn : n = l.length) (hg : g < b) :
  TokReads ((w.setCell ⟨g, 0, none⟩ v0).setCell ⟨g, 1, none⟩ v1) v l := by
 subst hn;exact TokReads.own (ownsRow_setCell_below (ownsRow_setCell_below h (a := ⟨g, 0, none⟩) hg v0) (a := ⟨g, 1, none⟩) hg v1)
theorem drop_end' {s : ByteArray} {p : Nat} (h : s.size <= p) : s.data.toList.drop p = [] := List.drop_eq_nil_of_le h
theorem drop_more {s : ByteArray} {p : Nat} (h : p < s.size) : s.data.toList.drop p ≠ [] := fun g => by
 have := congrArg List.length g;rw [List.length_drop, show s.data.toList.length = s.size from rfl, List.length_nil] at this;omega
variable {s : ByteArray} {R : List Tok × Nat × Nat} {p ln k : Nat} {acc : List Tok}
def lnAt (s : ByteArray) (p ln k : Nat) : Nat := ln + linesOf ((s.data.toList.drop p).take k)
theorem TAt.lnLow (h : TAt s R p ln acc) : lnAt s p ln k <= p + k + 1 := by
 have h1 := h.low;have h2 := lines_take (s.data.toList.drop p) k;unfold lnAt; omega
theorem TAt.step (h : TAt s R p ln acc) (hk : k = blanks (s.data.toList.drop p)) : ∃ m, s.size - p <= m /\
  R = (if s.data.toList.drop (p + k) = [] then (acc ++ [⟨6, ⟨#[]⟩, 0, lnAt s p ln k⟩], 0, 0)
  else match noteL (s.data.toList.drop (p + k)) with
   | some 0 => ([], 30, lnAt s p ln k)
   | some (j + 1) => tokF m (lnAt s p ln k + linesOf ((s.data.toList.drop (p + k)).take (j + 1))) (s.data.toList.drop (p + k + (j + 1))) acc
   | none =>
    if (oneL (s.data.toList.drop (p + k))).e = 0 then
     tokF m (lnAt s p ln k + linesOf ((s.data.toList.drop (p + k)).take (oneL (s.data.toList.drop (p + k))).len)) (s.data.toList.drop (p + k + (oneL (s.data.toList.drop (p + k))).len))
      (acc ++ [⟨(oneL (s.data.toList.drop (p + k))).k, (oneL (s.data.toList.drop (p + k))).s, (oneL (s.data.toList.drop (p + k))).n, lnAt s p ln k⟩])
    else ([], (oneL (s.data.toList.drop (p + k))).e, lnAt s p ln k)) := by
 obtain ⟨m, hm, rfl⟩ := h.says;obtain ⟨m, rfl⟩ : ∃ m', m = m' + 1 := ⟨m - 1, by omega⟩;refine ⟨m, by omega, ?_⟩;subst hk;rw [tokF];simp only [List.drop_drop, lnAt]
 rfl
theorem TAt.fin (h : TAt s R p ln acc) (hk : k = blanks (s.data.toList.drop p)) (he : p + k = s.size) : R = (acc ++ [⟨6, ⟨#[]⟩, 0, lnAt s p ln k⟩], 0, 0) := by
 obtain ⟨m, _, hR⟩ := h.step hk;rw [hR, if_pos (drop_end' (by omega))]
theorem TAt.open (h : TAt s R p ln acc) (hk : k = blanks (s.data.toList.drop p)) (he : p + k < s.size) (hn : noteL (s.data.toList.drop (p + k)) = some 0) : R = ([], 30, lnAt s p ln k) := by
 obtain ⟨m, _, hR⟩ := h.step hk;rw [hR, if_neg (drop_more he), hn]
theorem TAt.note (h : TAt s R p ln acc) (hk : k = blanks (s.data.toList.drop p)) (he : p + k < s.size) {j : Nat} (hn : noteL (s.data.toList.drop (p + k)) = some j) (h0 : 0 < j) :
  p + k + j <= s.size /\ TAt s R (p + k + j) (lnAt s p ln k + linesOf ((s.data.toList.drop (p + k)).take j)) acc := by
 have hj := note_len hn;rw [List.length_drop, show s.data.toList.length = s.size from rfl] at hj;obtain ⟨m, hm, hR⟩ := h.step hk;rw [if_neg (drop_more he), hn] at hR;obtain ⟨j, rfl⟩ : ∃ j', j = j' + 1 := ⟨j - 1, by omega⟩;have hf := h.few;have h1 := h.lnLow (k := k);have h2 := lines_take (s.data.toList.drop (p + k)) (j + 1);exact ⟨by omega, by omega, by omega, by omega, m, by omega, hR⟩
theorem TAt.bad (h : TAt s R p ln acc) (hk : k = blanks (s.data.toList.drop p)) (he : p + k < s.size) (hn : noteL (s.data.toList.drop (p + k)) = none) (ho : (oneL (s.data.toList.drop (p + k))).e ≠ 0) :
  R = ([], (oneL (s.data.toList.drop (p + k))).e, lnAt s p ln k) := by
 obtain ⟨m, _, hR⟩ := h.step hk;rw [if_neg (drop_more he), hn] at hR;simp only [] at hR;rw [hR, if_neg ho]
theorem TAt.one (h : TAt s R p ln acc) (hk : k = blanks (s.data.toList.drop p)) (he : p + k < s.size) (hn : noteL (s.data.toList.drop (p + k)) = none) (ho : (oneL (s.data.toList.drop (p + k))).e = 0) :
  p + k + (oneL (s.data.toList.drop (p + k))).len <= s.size /\ 0 < (oneL (s.data.toList.drop (p + k))).len /\
   TAt s R (p + k + (oneL (s.data.toList.drop (p + k))).len) (lnAt s p ln k + linesOf ((s.data.toList.drop (p + k)).take (oneL (s.data.toList.drop (p + k))).len))
    (acc ++ [⟨(oneL (s.data.toList.drop (p + k))).k, (oneL (s.data.toList.drop (p + k))).s, (oneL (s.data.toList.drop (p + k))).n, lnAt s p ln k⟩]) := by
 obtain ⟨h3, h4⟩ := one_len ho;rw [List.length_drop, show s.data.toList.length = s.size from rfl] at h4;obtain ⟨m, hm, hR⟩ := h.step hk;rw [if_neg (drop_more he), hn] at hR;simp only [] at hR;rw [if_pos ho] at hR;have hf := h.few;have h1 := h.lnLow (k := k);have h2 := lines_take (s.data.toList.drop (p + k)) (oneL (s.data.toList.drop (p + k))).len;exact ⟨by omega, by omega, by omega, by rw [List.length_append, List.length_singleton]; omega, by omega, m, by omega, hR⟩
end Go.Proofs.YtnkejjlidgnkkaaGreatDoor.Lex
namespace Go.Proofs.YtnkejjlidgnkkaaGreatDoor.Nd

open Go.Lib renaming hid → qh
open Go Go.RowKit Go.ChangeShapes Go.WideShapes
theorem new_block (w : World) (o : Obj) : (w.alloc o).heap[w.heap.size]? = some o := by
 show (w.heap.push o)[w.heap.size]? = some o;simp
theorem cell_of {w : World} {b : Nat} {cs : Array Value} {T : TypeId} (h : w.heap[b]? = some (.cells cs T (0, 0))) (j : Nat) (v : Value) (hv : cs[j]? = some v) : w.cell? ⟨b, j, none⟩ = some v := by
 rw [Lib.cell_of_heap h]; exact hv
theorem free_of {w : World} {b : Nat} {cs : Array Value} {T : TypeId} (h : w.heap[b]? = some (.cells cs T (0, 0))) (j : Nat) : w.frozen? ⟨b, j, none⟩ = false := Lib.frozen_of_heap h j
theorem own_other {w : World} {b base n size j : Nat} {e T : TypeId} {v u : Value} {xs : List Value} {cs : Array Value} {fr : Nat × Nat} (h : w.ownsRow base e size v n xs) (hb : w.heap[b]? = some (.cells cs T fr)) (hT : e ≠ T) : (w.setCell ⟨b, j, none⟩ u).ownsRow base e size v n xs := by
 refine ownsRow_setCell_other h (fun hv => ?_) u;rcases h.2 with ⟨rfl, _⟩ | ⟨g, cap, cur, rfl, _, hh, _⟩
 ·cases hv
 ·cases hv;rw [hb] at hh;cases hh;exact hT rfl
theorem Sub.set {w : World} {r : R3} {b j : Nat} {T : TypeId} {u : Value} {cs : Array Value} {fr : Nat × Nat} (h : Sub w r) (hb : w.heap[b]? = some (.cells cs T fr)) (h1 : 9 ≠ T) (h2 : 3 ≠ T) : Sub (w.setCell ⟨b, j, none⟩ u) r :=
 ⟨own_other h.1 hb h1, own_other h.2 hb h2⟩
end Go.Proofs.YtnkejjlidgnkkaaGreatDoor.Nd
namespace Go.Proofs.YtnkejjlidgnkkaaGreatDoor.Ps

open Go.Lib renaming hid → qh
open Go Go.RowKit Go.ChangeShapes Go.WideShapes Go.Shelf
open Go.Proofs.YtnkejjlidgnkkaaGreatDoor.Nd
open Go.Proofs.YtnkejjlidgnkkaaGreatDoor.Lex (Tok tokensL TokReads)
theorem lt_of_heap {A : World} {g : Nat} {o : Obj} (h : A.heap[g]? = some o) : g < A.heap.size := (Array.getElem?_eq_some_iff.1 h).1
theorem hit {w : World} {o : Obj} {k : Nat} (hk : k = w.heap.size) : (w.alloc o).heap[k]? = some o := by subst hk; exact heap_alloc_new w o
theorem text_eq {x y : ByteArray} (h : x.toList = y.toList) : x = y := by
 rw [ByteArray.toList_eq, ByteArray.toList_eq] at h;exact ByteArray.ext (Array.ext' h)
def tokV (t : Tok) : Value := .agg #[.int .u8 (t.k : Int), .string t.s, .int .i64 t.n, .int .i64 (t.line : Int)]
def opsG : Nat := 2
def opsCells : List Value := operators.flatMap fun x => [.string x.1, .int .u8 (x.2.kind : Int), .int .u8 (x.2.op : Int), .int .i64 (x.2.binds : Int)]
theorem opsCells_len : opsCells.length = 76 := by decide
structure NR where
 v : Value
 rs : List R3
structure PAt (T : List Tok) (tv : Value) (P base : Nat) (s : St) (nv : NR) (w : World) : Prop where
 toks : TokReads w tv T
 cells : w.heap[P]? = some (.cells #[tv, .int .i64 (s.at' : Int), nv.v] 45 (0, 0))
 nodes : OwnNd w base nv.v nv.rs
 list : nv.rs.map (·.1) = s.l
 here : s.at' < T.length
 few : T.length <= 100000
 apart : nv.v.ownBlock = none \/ nv.v.ownBlock ≠ tv.ownBlock
 low : base <= w.heap.size
 many : s.l.length <= 4096
 ops : ∃ Ty fr, w.heap[opsG]? = some (.cells opsCells.toArray Ty fr)
 opsLow : opsG < base
theorem PAt.opsP {T : List Tok} {tv : Value} {P base : Nat} {s : St} {nv : NR} {w : World} (h : PAt T tv P base s nv w) : opsG ≠ P := by
 intro e;obtain ⟨Ty, fr, ho⟩ := h.ops;rw [e, h.cells] at ho;have e2 : (#[tv, .int .i64 (s.at' : Int), nv.v] : Array Value).size = opsCells.toArray.size := by
  injection ho with ho
  injection ho with ho
  rw [ho]
 have e3 : opsCells.toArray.size = 76 := by rw [List.size_toArray]; exact opsCells_len
 have e4 : (#[tv, .int .i64 (s.at' : Int), nv.v] : Array Value).size = 3 := rfl;omega
theorem PAt.below {T : List Tok} {tv : Value} {P base : Nat} {s : St} {nv : NR} {w w' : World} (h : PAt T tv P base s nv w) (hb : Below w.heap.size w w') : PAt T tv P base s nv w' :=
 ⟨h.toks.below hb, (hb.block _ (lt_of_heap h.cells)).trans h.cells, h.nodes.below hb, h.list, h.here, h.few, h.apart, Nat.le_trans h.low hb.size, h.many, by obtain ⟨Ty, fr, ho⟩ := h.ops; exact ⟨Ty, fr, (hb.block _ (lt_of_heap ho)).trans ho⟩, h.opsLow⟩
theorem cell_up {A C : World} {b j : Nat} {v : Value} (h : Below A.heap.size A C) (hc : A.cell? ⟨b, j, none⟩ = some v) : C.cell? ⟨b, j, none⟩ = some v := (h.cell (p := ⟨b, j, none⟩) (lt_cell hc)).trans hc
theorem tok_cells {T : List Tok} {tv : Value} {P base : Nat} {s : St} {nv : NR} {w : World} (h : PAt T tv P base s nv w) : ∃ g c, tv = .slice (some ⟨g, 0, none⟩) T.length c /\ w.cell? ⟨g, s.at' * 4, none⟩ = some (.int .u8 ((tk T s).k : Int)) /\ w.cell? ⟨g, s.at' * 4 + 1, none⟩ = some (.string (tk T s).s) /\ w.cell? ⟨g, s.at' * 4 + 2, none⟩ = some (.int .i64 (tk T s).n) /\ w.cell? ⟨g, s.at' * 4 + 3, none⟩ = some (.int .i64 ((tk T s).line : Int)) := by
 obtain ⟨ao, cap, rfl, hc⟩ := h.toks;obtain ⟨g, hg, rfl, hcell⟩ := hc (fun e => by have := h.here; rw [e] at this; exact absurd this (Nat.not_lt_zero _));have := hcell s.at' h.here;have e : tk T s = T[s.at']'h.here := by unfold tk; rw [List.getD_eq_getElem?_getD, List.getElem?_eq_getElem h.here]; rfl
 rw [e];exact ⟨g, cap, rfl, this⟩
theorem token_fn {T : List Tok} {tv : Value} {P base : Nat} {s : St} {nv : NR} (w : World) (h : PAt T tv P base s nv w) : Calls Tryz.prog 31 #[.pointer (some ⟨P, 0, none⟩)] w fun e w' => e = .returned (tokV (tk T s)) /\ Below w.heap.size w w' := by
 obtain ⟨g, c, rfl, x0, x1, x2, x3⟩ := tok_cells h;have y0 := cell_of h.cells 0 (.slice (some ⟨g, 0, none⟩) T.length c) rfl;have y1 := cell_of h.cells 1 (.int .i64 (s.at' : Int)) rfl;have hlt : (s.at' : Int) < (T.length : Int) := by have := h.here; omega
 have hm : Tryz.prog.follows .mixedOrders = true := by kernel_rfl
 clear h;go_enter Tryz.func31, Tryz.ntmps31;go_upto_region 1 with fail;obtain ⟨B, hB⟩ : ∃ B, w.heap.size = B := ⟨_, rfl⟩;obtain ⟨W, hW⟩ : ∃ W, w.alloc (.cells #[.int .u8 0, .string ⟨#[]⟩, .int .i64 0, .int .i64 0] 55) = W := ⟨_, rfl⟩;have hb : Below w.heap.size w W := by rw [<- hW]; exact (Below.refl _ _).alloc (Nat.le_refl _) _
 have hx : W.heap[B]? = some (.cells #[.int .u8 0, .string ⟨#[]⟩, .int .i64 0, .int .i64 0] 55 (0, 0)) := by rw [<- hW]; exact hit hB.symm
 replace x0 := cell_up hb x0
 replace x1 := cell_up hb x1
 replace x2 := cell_up hb x2
 replace x3 := cell_up hb x3
 replace y0 := cell_up hb y0
 replace y1 := cell_up hb y1
 rw [hW];rw [hB] at hb ⊢;have HB := qh hb;have hB0 := hB;clear hW hB hb;go_still_tail 10, (by kernel_rfl);change wpList _ _ _ _ _ W.drew;have z0 := cell_of hx 0 (.int .u8 0) rfl;have z1 := cell_of hx 1 (.string ⟨#[]⟩) rfl;have z2 := cell_of hx 2 (.int .i64 0) rfl;have z3 := cell_of hx 3 (.int .i64 0) rfl;have f0 := free_of hx 0;have f1 := free_of hx 1;have f2 := free_of hx 2;have f3 := free_of hx 3;go_wp2_with fail;have i3 := Joins.block_setCell (i := 3) (Joins.block_setCell (i := 2) (Joins.block_setCell (i := 1) (Joins.block_setCell (i := 0) hx (.int .u8 ((tk T s).k : Int))) (.string (tk T s).s)) (.int .i64 (tk T s).n)) (.int .i64 ((tk T s).line : Int));obtain ⟨V, hV⟩ : ∃ V, (((W.setCell ⟨B, 0, none⟩ (.int .u8 ((tk T s).k : Int))).setCell ⟨B, 1, none⟩ (.string (tk T s).s)).setCell ⟨B, 2, none⟩ (.int .i64 (tk T s).n)).setCell ⟨B, 3, none⟩ (.int .i64 ((tk T s).line : Int)) = V := ⟨_, rfl⟩;have hb : Below B w V.drew := by
  rw [<- hV];exact ((((HB.out.setCell (p := ⟨B, 0, none⟩) (Nat.le_refl _) _).setCell (p := ⟨B, 1, none⟩) (Nat.le_refl _) _).setCell (p := ⟨B, 2, none⟩) (Nat.le_refl _) _).setCell (p := ⟨B, 3, none⟩) (Nat.le_refl _) _).drew
 rw [hV] at i3 ⊢;have i4 : V.drew.heap[B]? = some (.cells #[.int .u8 ((tk T s).k : Int), .string (tk T s).s, .int .i64 (tk T s).n, .int .i64 ((tk T s).line : Int)] 55 (0, 0)) := i3;have e0 := cell_of i4 0 (.int .u8 ((tk T s).k : Int)) rfl;have e1 := cell_of i4 1 (.string (tk T s).s) rfl;have e2 := cell_of i4 2 (.int .i64 (tk T s).n) rfl;have e3 := cell_of i4 3 (.int .i64 ((tk T s).line : Int)) rfl;refine bodyPost_ret (v := tokV (tk T s)) (by simp [results, Tryz.results31, go_sem, e0, e1, e2, e3, tokV]) rfl ?_;exact ⟨rfl, by rw [hB0]; exact hb⟩
theorem line_fn {T : List Tok} {tv : Value} {P base : Nat} {s : St} {nv : NR} (w : World) (h : PAt T tv P base s nv w) : Calls Tryz.prog 73 #[.pointer (some ⟨P, 0, none⟩)] w fun e w' => e = .returned (.int .i64 ((tk T s).line : Int)) /\ Below w.heap.size w w' := by
 have HC := qh (token_fn w h);unfold tokV at HC;have hfd : ∀ w : World, (Instr.field 55 (.agg #[.int .u8 ((tk T s).k : Int), .string (tk T s).s, .int .i64 (tk T s).n, .int .i64 ((tk T s).line : Int)]) 3).run Tryz.prog w = .ok (.int .i64 ((tk T s).line : Int)) w := fun _ => by kernel_rfl
 clear h;go_enter Tryz.func73, Tryz.ntmps73;go_wp2_with fail;refine HC.out.mono ?_;rintro e w1 ⟨rfl, b⟩;have HB := qh b;clear b;go_wp2_with fail;go_ret;exact ⟨rfl, HB.out⟩
theorem mark_fn {T : List Tok} {tv : Value} {P base : Nat} {s : St} {nv : NR} (w : World) (h : PAt T tv P base s nv w) : Calls Tryz.prog 75 #[.pointer (some ⟨P, 0, none⟩)] w fun e w' => e = .returned (.string (markOf (tk T s))) /\ Below w.heap.size w w' := by
 have HC := qh (token_fn w h);unfold tokV at HC;clear h;generalize tk T s = t at *;have HM := qh (show markOf t = if t.k = 2 \/ t.k = 3 then t.s else ⟨#[]⟩ from rfl);generalize markOf t = m at *;obtain ⟨k, ts, n, line⟩ := t
 dsimp only at HC HM
 by_cases h2 : k = 2
 ·have hm : ts = m := by rw [HM.out, if_pos (.inl h2)]
  subst h2 hm;go_enter Tryz.func75, Tryz.ntmps75;go_wp2_with fail;refine HC.out.mono ?_;rintro e w1 ⟨rfl, b⟩;have HB := qh b;clear b;go_wp2_with fail;go_ret;exact ⟨rfl, HB.out.trans ((Below.refl _ _).alloc (Nat.le_refl _) _ |>.mono HB.out.size)⟩
 ·have hk2 : ((k : Int) == 2) = false := by simp; omega
  by_cases h3 : k = 3
  ·have hm : ts = m := by rw [HM.out, if_pos (.inr h3)]
   subst h3 hm;go_enter Tryz.func75, Tryz.ntmps75;go_wp2_with fail;refine HC.out.mono ?_;rintro e w1 ⟨rfl, b⟩;have HB := qh b;clear b;go_wp2_with fail;go_ret;exact ⟨rfl, HB.out.trans ((Below.refl _ _).alloc (Nat.le_refl _) _ |>.mono HB.out.size)⟩
  ·have hk3 : ((k : Int) == 3) = false := by simp; omega
   have hm : (⟨#[]⟩ : ByteArray) = m := by rw [HM.out, if_neg (by omega)]
   subst hm;have hn2 : ¬ (k : Int) = 2 := by omega
   have hn3 : ¬ (k : Int) = 3 := by omega
   go_enter Tryz.func75, Tryz.ntmps75;go_wp2_with fail;refine HC.out.mono ?_;rintro e w1 ⟨rfl, b⟩;have HB := qh b;clear b;go_wp2_with fail;go_ret;exact ⟨rfl, HB.out.trans ((Below.refl _ _).alloc (Nat.le_refl _) _ |>.mono HB.out.size)⟩
theorem fail_fn {T : List Tok} {tv : Value} {P base : Nat} {s : St} {nv : NR} (e : Int) (w : World) (h : PAt T tv P base s nv w) : Calls Tryz.prog 32 #[.pointer (some ⟨P, 0, none⟩), .int .i64 e] w fun x w' => x = .panicked [{ v := .iface 30 (.agg #[.int .i64 e, .int .i64 ((tk T s).line : Int)]), recovered := false }] /\ Below w.heap.size w w' := by
 have HC := qh (line_fn w h);clear h;go_enter Tryz.func32, Tryz.ntmps32;go_wp2_with fail;refine HC.out.mono ?_;rintro x w1 ⟨rfl, b⟩;have HB := qh b;clear b;go_wp2_with fail;exact ⟨rfl, rfl, HB.out⟩
theorem toks_keep {T : List Tok} {tv : Value} {w w' : World} (h : TokReads w tv T) (hs : w.heap.size <= w'.heap.size) (hc : ∀ g j v, tv.ownBlock = some g -> w.cell? ⟨g, j, none⟩ = some v -> w'.cell? ⟨g, j, none⟩ = some v) : TokReads w' tv T := by
 obtain ⟨ao, cap, rfl, ht⟩ := h;refine ⟨ao, cap, rfl, fun hl => ?_⟩;obtain ⟨g, hg, rfl, hcell⟩ := ht hl;refine ⟨g, Nat.lt_of_lt_of_le hg hs, rfl, fun i hi => ?_⟩;obtain ⟨a, b, c, d⟩ := hcell i hi;exact ⟨hc _ _ _ rfl a, hc _ _ _ rfl b, hc _ _ _ rfl c, hc _ _ _ rfl d⟩
theorem toks_other {T : List Tok} {tv : Value} {P base : Nat} {s : St} {nv : NR} {w : World} (h : PAt T tv P base s nv w) {g : Nat} (hg : tv.ownBlock = some g) : g ≠ P := by
 obtain ⟨ao, cap, rfl, ht⟩ := h.toks;obtain ⟨g', hg', rfl, hcell⟩ := ht (fun e => by have := h.here; rw [e] at this; exact absurd this (Nat.not_lt_zero _));intro e;have e2 : g' = g := by simpa [Value.ownBlock] using hg
 rw [e2, e] at hcell;have h0 := (hcell 0 (by have := h.here; omega)).1;rw [cell_of h.cells (0 * 4) (.slice (some ⟨g', 0, none⟩) T.length cap) rfl] at h0;cases h0
theorem PAt.step {T : List Tok} {tv : Value} {P base : Nat} {s : St} {nv : NR} {w : World} (h : PAt T tv P base s nv w) (hn : s.at' + 1 < T.length) : PAt T tv P base ⟨s.at' + 1, s.l⟩ nv (w.setCell ⟨P, 1, none⟩ (.int .i64 ((s.at' : Int) + 1))) := by
 have h1 := h.nodes;have hc := h.cells;refine ⟨?_, ?_, ⟨own_other h1.1 hc (by decide), fun r hr => (h1.2 r hr).set hc (by decide) (by decide)⟩, h.list, hn, h.few, h.apart, by have := h.low; simpa using this, h.many, by obtain ⟨Ty, fr, ho⟩ := h.ops; exact ⟨Ty, fr, (Below.heap_setCell _ _ _ _ h.opsP).trans ho⟩, h.opsLow⟩
 ·obtain ⟨ao, cap, rfl, ht⟩ := h.toks;refine ⟨ao, cap, rfl, fun hl => ?_⟩;obtain ⟨g, hg, rfl, hcell⟩ := ht hl;have hne : P ≠ g := by
   intro e;subst e;have h0 := (hcell 0 (by have := h.here; omega)).1;rw [cell_of hc (0 * 4) (.slice (some ⟨P, 0, none⟩) T.length cap) rfl] at h0;cases h0
  refine ⟨g, by simpa using hg, rfl, fun i hi => ?_⟩;rw [World.cell?_setCell_far _ _ _ _ hne, World.cell?_setCell_far _ _ _ _ hne, World.cell?_setCell_far _ _ _ _ hne, World.cell?_setCell_far _ _ _ _ hne];exact hcell i hi
 ·have := Joins.block_setCell (i := 1) hc (.int .i64 ((s.at' : Int) + 1));exact this
theorem next_fn {T : List Tok} {tv : Value} {P base : Nat} {s : St} {nv : NR} (w : World) (h : PAt T tv P base s nv w) (hn : s.at' + 1 < T.length) : Calls Tryz.prog 76 #[.pointer (some ⟨P, 0, none⟩)] w fun e w' => e = .returned (.tuple #[]) /\ w' = w.setCell ⟨P, 1, none⟩ (.int .i64 ((s.at' : Int) + 1)) := by
 have y1 := cell_of h.cells 1 (.int .i64 (s.at' : Int)) rfl;have yf := free_of h.cells 1;have hw : IntKind.i64.wrap ((s.at' : Int) + 1) = (s.at' : Int) + 1 := IntWalk.i64_in _ (by have := h.few; have := h.here; omega);clear h;go_enter Tryz.func76, Tryz.ntmps76;go_wp2_with fail;exact bodyPost_end (v := .tuple #[]) (by simp [results, Tryz.results76, go_sem]) rfl ⟨rfl, rfl⟩
def hasB (r : R3) (g : Nat) : Prop := r.2.1.ownBlock = some g \/ r.2.2.ownBlock = some g
def Xn (_ : Nat) : Prop := False
def Xv (v : Value) (g : Nat) : Prop := v.ownBlock = some g
structure Turn (P : Nat) (nv : NR) (X : Nat -> Prop) (A C : World) (nv' : NR) : Prop where
 os : C.os = A.os
 tape : C.tape = A.tape
 output : C.output = A.output
 size : A.heap.size <= C.heap.size
 keep : ∀ k, k < A.heap.size -> k ≠ P -> nv.v.ownBlock ≠ some k -> ¬ X k -> C.heap[k]? = A.heap[k]?
 row : nv'.v.ownBlock = nv.v.ownBlock \/ ∃ k, nv'.v.ownBlock = some k /\ A.heap.size <= k
 rows : ∀ r ∈ nv'.rs, r ∈ nv.rs \/ ∀ g, hasB r g -> X g \/ A.heap.size <= g
 more : nv.rs.length <= nv'.rs.length
theorem Turn.of_below {P : Nat} {nv : NR} {X : Nat -> Prop} {A C : World} (h : Below A.heap.size A C) : Turn P nv X A C nv := ⟨h.os, h.tape, h.output, h.size, fun k hk _ _ _ => h.block k hk, .inl rfl, fun _ hr => .inl hr, Nat.le_refl _⟩
theorem Turn.trans' {P : Nat} {nv nv' nv2 : NR} {X Y : Nat -> Prop} {A B C : World} (h : Turn P nv X A B nv') (k : Turn P nv' Y B C nv2) (hY : ∀ i, Y i -> X i \/ A.heap.size <= i) : Turn P nv X A C nv2 := by
 refine ⟨k.os.trans h.os, k.tape.trans h.tape, k.output.trans h.output, Nat.le_trans h.size k.size, fun i hi hP hn hx => ?_, ?_, fun r hr => ?_, Nat.le_trans h.more k.more⟩
 ·rw [k.keep i (Nat.lt_of_lt_of_le hi h.size) hP ?_ ?_, h.keep i hi hP hn hx]
  ·intro e;rcases h.row with e2 | ⟨x, e2, hx⟩
   ·exact hn (e2 ▸ e)
   ·rw [e2] at e;have := Option.some.inj e;omega
  ·intro hy;rcases hY i hy with h1 | h1
   ·exact hx h1
   ·omega
 ·rcases k.row with e | ⟨x, e, hx⟩
  ·rcases h.row with e2 | ⟨y, e2, hy⟩
   ·exact .inl (e.trans e2)
   ·exact .inr ⟨y, e.trans e2, hy⟩
  ·exact .inr ⟨x, e, Nat.le_trans h.size hx⟩
 ·rcases k.rows r hr with h1 | h1
  ·exact h.rows r h1
  ·refine .inr fun g hg => ?_
   rcases h1 g hg with h2 | h2
   ·exact hY g h2
   ·exact .inr (Nat.le_trans h.size h2)
theorem Turn.trans {P : Nat} {nv nv' nv2 : NR} {X : Nat -> Prop} {A B C : World} (h : Turn P nv X A B nv') (k : Turn P nv' Xn B C nv2) : Turn P nv X A C nv2 := h.trans' k fun _ h => h.elim
theorem Turn.set {P j : Nat} {nv : NR} {X : Nat -> Prop} {A C : World} {v : Value} (h : Turn P nv X A C nv) : Turn P nv X A (C.setCell ⟨P, j, none⟩ v) nv :=
 ⟨h.os, h.tape, h.output, by have := h.size; simpa using this, fun k hk hP hn hx => (Below.heap_setCell _ _ _ _ (show k ≠ P from hP)).trans (h.keep k hk hP hn hx), h.row, h.rows, h.more⟩
theorem accept_yes {T : List Tok} {tv : Value} {P base : Nat} {s : St} {nv : NR} {m : ByteArray} (w : World) (h : PAt T tv P base s nv w) (hm : markOf (tk T s) = m) (hn : s.at' + 1 < T.length) :
  Calls Tryz.prog 113 #[.pointer (some ⟨P, 0, none⟩), .string m] w fun e w' => e = .returned (.bool true) /\ PAt T tv P base ⟨s.at' + 1, s.l⟩ nv w' /\ Turn P nv Xn w w' nv := by
 have HC := qh (mark_fn w h);rw [hm] at HC;have HP := qh h;clear h hm;go_enter Tryz.func113, Tryz.ntmps113;go_wp2_with fail;refine HC.out.mono ?_;rintro e w1 ⟨rfl, b⟩;have HP1 := qh (HP.out.below b);have HB := qh b;clear b;go_wp2_with fail;refine (next_fn _ HP1.out hn).mono ?_;rintro e w2 ⟨rfl, rfl⟩;go_wp2_with fail;go_ret;exact ⟨rfl, HP1.out.step hn, (Turn.of_below HB.out).set⟩
theorem accept_no {T : List Tok} {tv : Value} {P base : Nat} {s : St} {nv : NR} {m : ByteArray} (w : World) (h : PAt T tv P base s nv w) (hm : markOf (tk T s) ≠ m) :
  Calls Tryz.prog 113 #[.pointer (some ⟨P, 0, none⟩), .string m] w fun e w' => e = .returned (.bool false) /\ Below w.heap.size w w' := by
 have HC := qh (mark_fn w h);have hb : ((markOf (tk T s)).toList == m.toList) = false := by
  cases hx : ((markOf (tk T s)).toList == m.toList) with
  | false => rfl
  | true => exact absurd (text_eq (by simpa using hx)) hm
 generalize markOf (tk T s) = x at *;clear h;go_enter Tryz.func113, Tryz.ntmps113;go_wp2_with fail;refine HC.out.mono ?_;rintro e w1 ⟨rfl, b⟩;have HB := qh b;clear b;go_wp2_with fail;go_ret;exact ⟨rfl, HB.out⟩
def faultV (e l : Nat) : List PanicEntry := [{ v := .iface 30 (.agg #[.int .i64 (e : Int), .int .i64 (l : Int)]), recovered := false }]
theorem expect_no {T : List Tok} {tv : Value} {P base : Nat} {s : St} {nv : NR} {m : ByteArray} (w : World) (h : PAt T tv P base s nv w) (hm : markOf (tk T s) ≠ m) :
  Calls Tryz.prog 140 #[.pointer (some ⟨P, 0, none⟩), .string m] w fun e w' => e = .panicked (faultV 40 (tk T s).line) /\ Below w.heap.size w w' := by
 have HC := qh (accept_no w h hm);have HF := qh (fun w' (hb : Below w.heap.size w w') => fail_fn 40 w' (h.below hb));clear h hm;go_enter Tryz.func140, Tryz.ntmps140;go_wp2_with fail;refine HC.out.mono ?_;rintro e w1 ⟨rfl, b⟩;have HB := qh b;clear b;go_wp2_with fail;refine (HF.out w1 HB.out).mono ?_;rintro e w2 ⟨rfl, b⟩;have HB2 := qh (HB.out.trans (b.mono HB.out.size));clear b;go_wp2_with fail;exact ⟨rfl, rfl, HB2.out⟩
end Go.Proofs.YtnkejjlidgnkkaaGreatDoor.Ps
