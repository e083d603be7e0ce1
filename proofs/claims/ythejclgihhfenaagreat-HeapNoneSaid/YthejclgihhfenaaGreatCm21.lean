import Derived.Test.YthejclgihhfenaaGreatCm14
import Derived.Test.YthejclgihhfenaaGreatCm19
import Derived.Test.YthejclgihhfenaaGreatCm3
import Derived.Test.YthejclgihhfenaaGreatCm20
/-
  Layer 14: the developers' heap as it lies in memory: a head, a pool, three maps, objects.
-/
namespace Go.Proofs.YthejclgihhfenaaGreat.Hd
open Go Go.RowKit Go.Proofs.YthejclgihhfenaaGreat.Pl Go.Proofs.YthejclgihhfenaaGreat.Tb Go.Proofs.YthejclgihhfenaaGreat.Vm Go.Proofs.YthejclgihhfenaaGreat.Hp Go.Proofs.YthejclgihhfenaaGreat.Td

/-- An object: what it has, its block, its table's or thread's block, the blocks that are its own besides, its cells' slice. -/
structure OP where
  o : HO
  g : Nat
  t : Nat
  G : List Nat
  cv : Value
def ptrG : Option Nat → Value
  | none => .pointer none
  | some g => .pointer (some ⟨g, 0, none⟩)
def litG : Option Nat → Lit
  | none => .int .i64 (-1)
  | some g => .int .i64 g
abbrev objT : TypeId := 91
abbrev heapT : TypeId := 69
def SO : MS Int (Option Nat) := { mt := 65, kt := 2, et := 97, kv := .int .i64, kl := .int .i64, ok := In64, ev := ptrG, ed := litG, e0 := none }
def ST : MS ByteArray Int := { mt := 66, kt := 9, et := 2, kv := .string, kl := fun s => .string s.data.toList, ok := fun s => s.size ≤ maxLen, ev := .int .i64, ed := .int .i64, e0 := 0 }
def SN : MS Int Unit := { mt := 67, kt := 2, et := 115, kv := .int .i64, kl := .int .i64, ok := In64, ev := fun _ => .agg #[], ed := fun _ => .bool true, e0 := () }
theorem so_ok : SO.Ok where
  map := Tryz.underlying65
  keyed := Maps.int_keyed Tryz.underlying2
  kof k hk := Maps.keyOf_int_mk Tryz.underlying2 (WalkArith.wf_i64 hk)
  ne a b _ _ h := fun e => h (by injection e)
  key k := by unfold WideAt.IsKeyLit SO; trivial
  zero w := by kernel_rfl
  vinj a b h := by
    cases a <;> cases b <;> first | rfl | (simp [SO, ptrG] at h)
    rw [h]
  dinj a b h := by
    cases a <;> cases b
    · rfl
    · injection h with _ h; omega
    · injection h with _ h; omega
    · injection h with _ h; congr 1; omega
theorem st_ok : ST.Ok where
  map := Tryz.underlying66
  keyed := Maps.string_keyed Tryz.underlying9
  kof k hk := WideMaps.keyOf_string_mk Tryz.underlying9 hk
  ne a b _ _ h := fun e => h (by
    have h1 : a.data.toList = b.data.toList := by injection e
    cases a; cases b
    exact congrArg ByteArray.mk (Array.toList_inj.1 h1))
  key k := by unfold WideAt.IsKeyLit ST; trivial
  zero w := by kernel_rfl
  vinj a b h := by injection h
  dinj a b h := by injection h
theorem sn_ok : SN.Ok where
  map := Tryz.underlying67
  keyed := Maps.int_keyed Tryz.underlying2
  kof k hk := Maps.keyOf_int_mk Tryz.underlying2 (WalkArith.wf_i64 hk)
  ne a b _ _ h := fun e => h (by injection e)
  key k := by unfold WideAt.IsKeyLit SN; trivial
  zero w := by kernel_rfl
  vinj a b h := rfl
  dinj a b h := rfl
/-- A list of values in a block of a kind. -/
def VlsP (P : Nat → Prop) (w : World) (v : Value) (l : List Vl) : Prop := ∃ ao cap, v = .slice ao l.length cap ∧ (l.length ≤ cap ∧ Len l.length) ∧
  (l ≠ [] → ∃ g off, P g ∧ g < w.heap.size ∧ ao = some ⟨g, off, none⟩ ∧ ∀ (j : Nat) (h : j < l.length), w.cell? ⟨g, off + j * 2, none⟩ = some (.int .u8 (l[j].kind : Int)) ∧ w.cell? ⟨g, off + j * 2 + 1, none⟩ = some (.int .i64 l[j].n))
theorem VlsP.keep {P : Nat → Prop} {w w' : World} {v : Value} {l : List Vl} {G : List Nat} (h : VlsP P w v l) (ht : Turns G w w') (hn : ∀ x, P x → x ∉ G) : VlsP P w' v l := by
  obtain ⟨ao, cap, hv, hl, hx⟩ := h
  refine ⟨ao, cap, hv, hl, fun hne => ?_⟩
  obtain ⟨g, off, h1, h2, h3, h4⟩ := hx hne
  exact ⟨g, off, h1, Nat.lt_of_lt_of_le h2 ht.size, h3, fun j hj => ⟨cell_turns (h4 j hj).1 ht (hn g h1), cell_turns (h4 j hj).2 ht (hn g h1)⟩⟩
def tabV (p : OP) : Value := if p.o.kind = 5 then .pointer (some ⟨p.t, 0, none⟩) else .pointer none
def thrV (p : OP) : Value := if p.o.kind = 8 then .pointer (some ⟨p.t, 0, none⟩) else .pointer none
/-- An object's cells. -/
structure ObjC (w : World) (p : OP) : Prop where
  shape : Shape w p.g objT 11
  kind : w.cell? ⟨p.g, 0, none⟩ = some (.int .u8 (p.o.kind : Int))
  serial : w.cell? ⟨p.g, 1, none⟩ = some (.int .i64 p.o.serial)
  text : w.cell? ⟨p.g, 2, none⟩ = some (.string p.o.text)
  tab : w.cell? ⟨p.g, 3, none⟩ = some (tabV p)
  m0 : w.cell? ⟨p.g, 4, none⟩ = some (.int .u8 (p.o.mtv.kind : Int))
  m1 : w.cell? ⟨p.g, 5, none⟩ = some (.int .i64 p.o.mtv.n)
  proto : w.cell? ⟨p.g, 6, none⟩ = some (.int .i64 p.o.proto)
  cells : w.cell? ⟨p.g, 7, none⟩ = some p.cv
  h0 : w.cell? ⟨p.g, 8, none⟩ = some (.int .u8 (p.o.has.kind : Int))
  h1 : w.cell? ⟨p.g, 9, none⟩ = some (.int .i64 p.o.has.n)
  thr : w.cell? ⟨p.g, 10, none⟩ = some (thrV p)
/-- What it leads to in memory. -/
structure PartAt (w : World) (p : OP) : Prop where
  tab : p.o.kind = 5 → TA w p.t p.o.tab p.G ∧ p.o.tab.length ≤ 65536
  cells : VlsP (· ∈ p.G) w p.cv p.o.cells
  none : p.o.kind ≠ 5 → p.o.kind ≠ 6 → p.G = []
  thr : p.o.kind = 8 → p.t < w.heap.size
  lt : ∀ x ∈ p.G, x < w.heap.size
/-- An object's data. -/
structure DataOk (o : HO) : Prop where
  kind : o.kind = 4 ∨ o.kind = 5 ∨ o.kind = 6 ∨ o.kind = 8 ∨ o.kind = 9
  serial : In64 o.serial
  text : o.text.size ≤ 65535
  notText : o.kind ≠ 4 → o.text = ByteArray.empty
  notTab : o.kind ≠ 5 → o.tab = [] ∧ o.mtv = nilV
  notFn : o.kind ≠ 6 → o.cells = [] ∧ o.proto = 0
  notCell : o.kind ≠ 9 → o.has = nilV
  mtv : o.mtv.In
  has : o.has.In
  proto : In64 o.proto
  cells : o.cells.length ≤ 60 ∧ ∀ v ∈ o.cells, v.In
section
variable {w w' : World} {p : OP} {G : List Nat} {g i : Nat} {x : Value}
theorem ObjC.turns (h : ObjC w p) (ht : Turns G w w') (hn : p.g ∉ G) : ObjC w' p :=
  ⟨h.shape.turns ht hn, cell_turns h.kind ht hn, cell_turns h.serial ht hn, cell_turns h.text ht hn, cell_turns h.tab ht hn, cell_turns h.m0 ht hn, cell_turns h.m1 ht hn, cell_turns h.proto ht hn, cell_turns h.cells ht hn, cell_turns h.h0 ht hn, cell_turns h.h1 ht hn, cell_turns h.thr ht hn⟩
theorem PartAt.turns (h : PartAt w p) (ht : Turns G w w') (hn : ∀ x ∈ p.G, x ∉ G) : PartAt w' p :=
  ⟨fun hk => ⟨(h.tab hk).1.keep ht hn, (h.tab hk).2⟩, h.cells.keep ht hn, h.none, fun hk => Nat.lt_of_lt_of_le (h.thr hk) ht.size, fun x hx => Nat.lt_of_lt_of_le (h.lt x hx) ht.size⟩
theorem ObjC.setHas (h : ObjC w p) (v : Vl) : ObjC ((w.setCell ⟨p.g, 8, none⟩ (.int .u8 (v.kind : Int))).setCell ⟨p.g, 9, none⟩ (.int .i64 v.n)) { p with o := { p.o with has := v } } where
  shape := h.shape.set.set
  kind := cell_keep (cell_keep h.kind (ne_off (by decide))) (ne_off (by decide))
  serial := cell_keep (cell_keep h.serial (ne_off (by decide))) (ne_off (by decide))
  text := cell_keep (cell_keep h.text (ne_off (by decide))) (ne_off (by decide))
  tab := cell_keep (cell_keep h.tab (ne_off (by decide))) (ne_off (by decide))
  m0 := cell_keep (cell_keep h.m0 (ne_off (by decide))) (ne_off (by decide))
  m1 := cell_keep (cell_keep h.m1 (ne_off (by decide))) (ne_off (by decide))
  proto := cell_keep (cell_keep h.proto (ne_off (by decide))) (ne_off (by decide))
  cells := cell_keep (cell_keep h.cells (ne_off (by decide))) (ne_off (by decide))
  h0 := cell_keep (cell_put h.h0) (ne_off (by decide))
  h1 := cell_put (cell_keep h.h1 (ne_off (by decide)))
  thr := cell_keep (cell_keep h.thr (ne_off (by decide))) (ne_off (by decide))
theorem ObjC.setMeta (h : ObjC w p) (v : Vl) : ObjC ((w.setCell ⟨p.g, 4, none⟩ (.int .u8 (v.kind : Int))).setCell ⟨p.g, 5, none⟩ (.int .i64 v.n)) { p with o := { p.o with mtv := v } } where
  shape := h.shape.set.set
  kind := cell_keep (cell_keep h.kind (ne_off (by decide))) (ne_off (by decide))
  serial := cell_keep (cell_keep h.serial (ne_off (by decide))) (ne_off (by decide))
  text := cell_keep (cell_keep h.text (ne_off (by decide))) (ne_off (by decide))
  tab := cell_keep (cell_keep h.tab (ne_off (by decide))) (ne_off (by decide))
  m0 := cell_keep (cell_put h.m0) (ne_off (by decide))
  m1 := cell_put (cell_keep h.m1 (ne_off (by decide)))
  proto := cell_keep (cell_keep h.proto (ne_off (by decide))) (ne_off (by decide))
  cells := cell_keep (cell_keep h.cells (ne_off (by decide))) (ne_off (by decide))
  h0 := cell_keep (cell_keep h.h0 (ne_off (by decide))) (ne_off (by decide))
  h1 := cell_keep (cell_keep h.h1 (ne_off (by decide))) (ne_off (by decide))
  thr := cell_keep (cell_keep h.thr (ne_off (by decide))) (ne_off (by decide))
/-- A store into a block's cells turns that block alone. -/
theorem turns_cell (w : World) (g i : Nat) (x : Value) : Turns [g] w (w.setCell ⟨g, i, none⟩ x) := turns_set (Turns.refl _ _) (List.mem_singleton.2 rfl)
theorem turns_two {x y : Value} (w : World) (g i j : Nat) : Turns [g] w ((w.setCell ⟨g, i, none⟩ x).setCell ⟨g, j, none⟩ y) := turns_set (turns_set (Turns.refl _ _) (List.mem_singleton.2 rfl)) (List.mem_singleton.2 rfl)
end

abbrev ObL := List (Option OP)
/-- The heap's blocks, and what each of them belongs to. -/
structure Tags (tag : Nat → Nat) (b ob tb : Nat) (nb : Option Nat) (Fp : List Nat) (l : ObL) : Prop where
  head : tag b = 0
  objs : tag ob = 1
  txts : tag tb = 2
  nots : ∀ x, nb = some x → tag x = 3
  pool : ∀ x ∈ Fp, tag x = 4
  obj : ∀ (i : Nat) (p : OP), l[i]? = some (some p) → tag p.g = 2 * i + 5
  part : ∀ (i : Nat) (p : OP), l[i]? = some (some p) → ∀ x ∈ p.G, tag x = 2 * i + 6
  thr : ∀ (i : Nat) (p : OP), l[i]? = some (some p) → p.o.kind = 8 → tag p.t = 2 * i + 6
/-- The heap's parts, by themselves: its head's cells, the pool's objects P, what the maps say, the objects l. -/
structure RM (w : World) (b : Nat) (mx made : Int) (pb ob tb : Nat) (nb : Option Nat) (Fp : List Nat) (P : Ob) (so : Nat) (fo : Int → Option (Option Nat)) (st : Nat) (ft : ByteArray → Option Int) (sn : Nat) (fn : Int → Option Unit) (l : ObL) : Prop where
  shape : Shape w b heapT 7
  self : w.cell? ⟨b, 0, none⟩ = some (.pointer (some ⟨b, 0, none⟩))
  max : w.cell? ⟨b, 1, none⟩ = some (.int .i64 mx)
  poolc : w.cell? ⟨b, 2, none⟩ = some (.pointer (some ⟨pb, 0, none⟩))
  objc : w.cell? ⟨b, 3, none⟩ = some (.map (some ob))
  txtc : w.cell? ⟨b, 4, none⟩ = some (.map (some tb))
  madec : w.cell? ⟨b, 5, none⟩ = some (.int .i64 made)
  notc : w.cell? ⟨b, 6, none⟩ = some (.map nb)
  pool : PA w pb mx P Fp
  objs : ∃ M, w.heap[ob]? = some M ∧ GM SO M so fo
  txts : ∃ M, w.heap[tb]? = some M ∧ GM ST M st ft
  nots : ∀ x, nb = some x → ∃ M, w.heap[x]? = some M ∧ GM SN M sn fn
  each : ∀ (i : Nat) (p : OP), l[i]? = some (some p) → ObjC w p ∧ PartAt w p
  tags : ∃ tag, Tags tag b ob tb nb Fp l
def partF : Option OP → List Nat
  | none => []
  | some p => p.g :: p.G
def Fof (b ob tb : Nat) (nb : Option Nat) (Fp : List Nat) (l : ObL) : List Nat := b :: ob :: tb :: (nb.toList ++ (Fp ++ l.flatMap partF))
theorem in_F {b ob tb x : Nat} {nb : Option Nat} {Fp : List Nat} {l : ObL} : x ∈ Fof b ob tb nb Fp l ↔ x = b ∨ x = ob ∨ x = tb ∨ nb = some x ∨ x ∈ Fp ∨ ∃ (i : Nat) (p : OP), l[i]? = some (some p) ∧ (x = p.g ∨ x ∈ p.G) := by
  unfold Fof
  rw [List.mem_cons, List.mem_cons, List.mem_cons, List.mem_append, List.mem_append, Option.mem_toList, List.mem_flatMap]
  have e : (∃ a ∈ l, x ∈ partF a) ↔ ∃ (i : Nat) (p : OP), l[i]? = some (some p) ∧ (x = p.g ∨ x ∈ p.G) := by
    constructor
    · rintro ⟨a, ha, hx⟩
      obtain ⟨i, hi⟩ := List.getElem?_of_mem ha
      cases a with
      | none => cases hx
      | some p => exact ⟨i, p, hi, List.mem_cons.1 hx⟩
    · rintro ⟨i, p, hi, hx⟩
      exact ⟨some p, List.mem_of_getElem? hi, List.mem_cons.2 hx⟩
  rw [e]
section
variable {w w' : World} {b pb ob tb : Nat} {mx made : Int} {nb : Option Nat} {Fp G : List Nat} {P : Ob} {so st sn : Nat} {fo : Int → Option (Option Nat)} {ft : ByteArray → Option Int} {fn : Int → Option Unit} {l : ObL}
theorem RM.lt (h : RM w b mx made pb ob tb nb Fp P so fo st ft sn fn l) : ∀ x ∈ Fof b ob tb nb Fp l, x < w.heap.size := by
  intro x hx
  rcases in_F.1 hx with rfl | rfl | rfl | e | e | ⟨i, p, hi, rfl | hp⟩
  · exact h.shape.lt
  · obtain ⟨M, h1, _⟩ := h.objs; exact lt_of_get h1
  · obtain ⟨M, h1, _⟩ := h.txts; exact lt_of_get h1
  · obtain ⟨M, h1, _⟩ := h.nots x e; exact lt_of_get h1
  · exact h.pool.mem.2 x e
  · exact (h.each i p hi).1.shape.lt
  · exact (h.each i p hi).2.lt x hp
theorem RM.turns (h : RM w b mx made pb ob tb nb Fp P so fo st ft sn fn l) (ht : Turns G w w') (hn : ∀ x ∈ Fof b ob tb nb Fp l, x ∉ G) : RM w' b mx made pb ob tb nb Fp P so fo st ft sn fn l := by
  have hb : b ∉ G := hn b (in_F.2 (.inl rfl))
  refine ⟨h.shape.turns ht hb, cell_turns h.self ht hb, cell_turns h.max ht hb, cell_turns h.poolc ht hb, cell_turns h.objc ht hb, cell_turns h.txtc ht hb, cell_turns h.madec ht hb, cell_turns h.notc ht hb, h.pool.keep ht (fun x hx => hn x (in_F.2 (.inr (.inr (.inr (.inr (.inl hx))))))), ?_, ?_, ?_, fun i p hi => ⟨(h.each i p hi).1.turns ht (hn _ (in_F.2 (.inr (.inr (.inr (.inr (.inr ⟨i, p, hi, .inl rfl⟩))))))), (h.each i p hi).2.turns ht (fun x hx => hn x (in_F.2 (.inr (.inr (.inr (.inr (.inr ⟨i, p, hi, .inr hx⟩)))))))⟩, h.tags⟩
  · obtain ⟨M, h1, h2⟩ := h.objs
    exact ⟨M, by rw [ht.block ob (lt_of_get h1) (hn ob (in_F.2 (.inr (.inl rfl))))]; exact h1, h2⟩
  · obtain ⟨M, h1, h2⟩ := h.txts
    exact ⟨M, by rw [ht.block tb (lt_of_get h1) (hn tb (in_F.2 (.inr (.inr (.inl rfl)))))]; exact h1, h2⟩
  · intro x hx
    obtain ⟨M, h1, h2⟩ := h.nots x hx
    exact ⟨M, by rw [ht.block x (lt_of_get h1) (hn x (in_F.2 (.inr (.inr (.inr (.inl hx))))))]; exact h1, h2⟩
theorem RM.below (h : RM w b mx made pb ob tb nb Fp P so fo st ft sn fn l) (hb : Below w.heap.size w w') : RM w' b mx made pb ob tb nb Fp P so fo st ft sn fn l :=
  h.turns (G := []) (Turns.of_below hb) (fun _ _ => List.not_mem_nil)
/-- What has another tag than all that has turned stands as it was. -/
theorem Tags.apart {tag : Nat → Nat} {c x : Nat} (hG : ∀ y ∈ G, tag y = c) (hx : tag x ≠ c) : x ∉ G := fun hm => hx (hG x hm)
/-- The pool has turned. -/
theorem RM.setPool {P' : Ob} {Fp' : List Nat} (h : RM w b mx made pb ob tb nb Fp P so fo st ft sn fn l) (ht : Turns Fp w w') (hp : PA w' pb mx P' Fp') (hf : FreshIn Fp Fp' w) : RM w' b mx made pb ob tb nb Fp' P' so fo st ft sn fn l := by
  obtain ⟨tag, T⟩ := h.tags
  have ap : ∀ x, tag x ≠ 4 → x ∉ Fp := fun x hx => Tags.apart T.pool hx
  have hb : b ∉ Fp := ap b (by rw [T.head]; decide)
  have hlt := h.lt
  refine ⟨h.shape.turns ht hb, cell_turns h.self ht hb, cell_turns h.max ht hb, cell_turns h.poolc ht hb, cell_turns h.objc ht hb, cell_turns h.txtc ht hb, cell_turns h.madec ht hb, cell_turns h.notc ht hb, hp, ?_, ?_, ?_, fun i p hi => ⟨(h.each i p hi).1.turns ht (ap _ (by rw [T.obj i p hi]; omega)), (h.each i p hi).2.turns ht (fun x hx => ap _ (by rw [T.part i p hi x hx]; omega))⟩, fun x => if x < w.heap.size then tag x else 4, ?_⟩
  · obtain ⟨M, h1, h2⟩ := h.objs
    exact ⟨M, by rw [ht.block ob (lt_of_get h1) (ap _ (by rw [T.objs]; decide))]; exact h1, h2⟩
  · obtain ⟨M, h1, h2⟩ := h.txts
    exact ⟨M, by rw [ht.block tb (lt_of_get h1) (ap _ (by rw [T.txts]; decide))]; exact h1, h2⟩
  · intro x hx
    obtain ⟨M, h1, h2⟩ := h.nots x hx
    exact ⟨M, by rw [ht.block x (lt_of_get h1) (ap _ (by rw [T.nots x hx]; decide))]; exact h1, h2⟩
  · have old : ∀ x ∈ Fof b ob tb nb Fp l, (if x < w.heap.size then tag x else 4) = tag x := fun x hx => if_pos (hlt x hx)
    refine ⟨?_, ?_, ?_, fun x hx => ?_, fun x hx => ?_, fun i p hi => ?_, fun i p hi x hx => ?_, fun i p hi hk => ?_⟩
    · rw [old b (in_F.2 (.inl rfl))]; exact T.head
    · rw [old ob (in_F.2 (.inr (.inl rfl)))]; exact T.objs
    · rw [old tb (in_F.2 (.inr (.inr (.inl rfl))))]; exact T.txts
    · rw [old x (in_F.2 (.inr (.inr (.inr (.inl hx)))))]; exact T.nots x hx
    · by_cases hl : x < w.heap.size
      · rw [if_pos hl]
        rcases hf x hx with e | e
        · exact T.pool x e
        · exact absurd hl (Nat.not_lt.2 e)
      · rw [if_neg hl]
    · rw [old p.g (in_F.2 (.inr (.inr (.inr (.inr (.inr ⟨i, p, hi, .inl rfl⟩))))))]; exact T.obj i p hi
    · rw [old x (in_F.2 (.inr (.inr (.inr (.inr (.inr ⟨i, p, hi, .inr hx⟩))))))]; exact T.part i p hi x hx
    · rw [if_pos ((h.each i p hi).2.thr hk)]; exact T.thr i p hi hk
/-- An object has turned: its block, or what is its own besides. -/
theorem RM.setObj {i : Nat} {p q : OP} (h : RM w b mx made pb ob tb nb Fp P so fo st ft sn fn l) (hi : l[i]? = some (some p)) (hG : ∀ x ∈ G, x = p.g ∨ x ∈ p.G) (ht : Turns G w w') (hq : ObjC w' q ∧ PartAt w' q) (hg : q.g = p.g) (hf : ∀ x ∈ q.G, x ∈ p.G ∨ w.heap.size ≤ x) (hk : q.o.kind = p.o.kind) (hqt : q.t = p.t) :
    RM w' b mx made pb ob tb nb Fp P so fo st ft sn fn (l.set i (some q)) := by
  obtain ⟨tag, T⟩ := h.tags
  have hlt := h.lt
  have ap : ∀ x, tag x ≠ 2 * i + 5 → tag x ≠ 2 * i + 6 → x ∉ G := fun x h1 h2 hm => by
    rcases hG x hm with e | e
    · exact h1 (by rw [e]; exact T.obj i p hi)
    · exact h2 (T.part i p hi x e)
  have hb : b ∉ G := ap b (by rw [T.head]; omega) (by rw [T.head]; omega)
  have hil : i < l.length := (List.getElem?_eq_some_iff.1 hi).1
  have look : ∀ (j : Nat) (r : OP), (l.set i (some q))[j]? = some (some r) → (j = i ∧ r = q) ∨ (j ≠ i ∧ l[j]? = some (some r)) := fun j r hj => by
    rw [List.getElem?_set] at hj
    by_cases e : i = j
    · rw [if_pos e, if_pos (by omega)] at hj
      exact .inl ⟨e.symm, by injection hj with hj; injection hj with hj; exact hj.symm⟩
    · rw [if_neg e] at hj
      exact .inr ⟨fun h => e h.symm, hj⟩
  refine ⟨h.shape.turns ht hb, cell_turns h.self ht hb, cell_turns h.max ht hb, cell_turns h.poolc ht hb, cell_turns h.objc ht hb, cell_turns h.txtc ht hb, cell_turns h.madec ht hb, cell_turns h.notc ht hb, h.pool.keep ht (fun x hx => ap x (by rw [T.pool x hx]; omega) (by rw [T.pool x hx]; omega)), ?_, ?_, ?_, fun j r hj => ?_, fun x => if x < w.heap.size then tag x else 2 * i + 6, ?_⟩
  · obtain ⟨M, h1, h2⟩ := h.objs
    exact ⟨M, by rw [ht.block ob (lt_of_get h1) (ap _ (by rw [T.objs]; omega) (by rw [T.objs]; omega))]; exact h1, h2⟩
  · obtain ⟨M, h1, h2⟩ := h.txts
    exact ⟨M, by rw [ht.block tb (lt_of_get h1) (ap _ (by rw [T.txts]; omega) (by rw [T.txts]; omega))]; exact h1, h2⟩
  · intro x hx
    obtain ⟨M, h1, h2⟩ := h.nots x hx
    exact ⟨M, by rw [ht.block x (lt_of_get h1) (ap _ (by rw [T.nots x hx]; omega) (by rw [T.nots x hx]; omega))]; exact h1, h2⟩
  · rcases look j r hj with ⟨rfl, rfl⟩ | ⟨hne, hj⟩
    · exact hq
    · exact ⟨(h.each j r hj).1.turns ht (ap _ (by rw [T.obj j r hj]; omega) (by rw [T.obj j r hj]; omega)), (h.each j r hj).2.turns ht (fun x hx => ap _ (by rw [T.part j r hj x hx]; omega) (by rw [T.part j r hj x hx]; omega))⟩
  · have old : ∀ x ∈ Fof b ob tb nb Fp l, (if x < w.heap.size then tag x else 2 * i + 6) = tag x := fun x hx => if_pos (hlt x hx)
    refine ⟨?_, ?_, ?_, fun x hx => ?_, fun x hx => ?_, fun j r hj => ?_, fun j r hj x hx => ?_, fun j r hj hk2 => ?_⟩
    · rw [old b (in_F.2 (.inl rfl))]; exact T.head
    · rw [old ob (in_F.2 (.inr (.inl rfl)))]; exact T.objs
    · rw [old tb (in_F.2 (.inr (.inr (.inl rfl))))]; exact T.txts
    · rw [old x (in_F.2 (.inr (.inr (.inr (.inl hx)))))]; exact T.nots x hx
    · rw [old x (in_F.2 (.inr (.inr (.inr (.inr (.inl hx))))))]; exact T.pool x hx
    · rcases look j r hj with ⟨rfl, rfl⟩ | ⟨hne, hj⟩
      · rw [hg, old p.g (in_F.2 (.inr (.inr (.inr (.inr (.inr ⟨j, p, hi, .inl rfl⟩))))))]; exact T.obj j p hi
      · rw [old r.g (in_F.2 (.inr (.inr (.inr (.inr (.inr ⟨j, r, hj, .inl rfl⟩))))))]; exact T.obj j r hj
    · rcases look j r hj with ⟨rfl, rfl⟩ | ⟨hne, hj⟩
      · rcases hf x hx with e | e
        · rw [old x (in_F.2 (.inr (.inr (.inr (.inr (.inr ⟨j, p, hi, .inr e⟩))))))]; exact T.part j p hi x e
        · exact if_neg (Nat.not_lt.2 e)
      · rw [old x (in_F.2 (.inr (.inr (.inr (.inr (.inr ⟨j, r, hj, .inr hx⟩))))))]; exact T.part j r hj x hx
    · rcases look j r hj with ⟨rfl, rfl⟩ | ⟨hne, hj⟩
      · rw [hk] at hk2
        rw [hqt, if_pos ((h.each j p hi).2.thr hk2)]; exact T.thr j p hi hk2
      · rw [if_pos ((h.each j r hj).2.thr hk2)]; exact T.thr j r hj hk2
/-- A map has turned, or the head's count. -/
theorem RM.setObjs {so' : Nat} {fo' : Int → Option (Option Nat)} (h : RM w b mx made pb ob tb nb Fp P so fo st ft sn fn l) (hg : GMGoes SO ob so' fo' w w') : RM w' b mx made pb ob tb nb Fp P so' fo' st ft sn fn l := by
  obtain ⟨M, hM, hG, ht, hz⟩ := hg
  obtain ⟨tag, T⟩ := h.tags
  have ap : ∀ x, tag x ≠ 1 → x ∉ [ob] := fun x hx hm => hx (by rw [List.mem_singleton.1 hm]; exact T.objs)
  have hb : b ∉ [ob] := ap b (by rw [T.head]; decide)
  refine ⟨h.shape.turns ht hb, cell_turns h.self ht hb, cell_turns h.max ht hb, cell_turns h.poolc ht hb, cell_turns h.objc ht hb, cell_turns h.txtc ht hb, cell_turns h.madec ht hb, cell_turns h.notc ht hb, h.pool.keep ht (fun x hx => ap x (by rw [T.pool x hx]; decide)), ⟨M, hM, hG⟩, ?_, ?_, fun i p hi => ⟨(h.each i p hi).1.turns ht (ap _ (by rw [T.obj i p hi]; omega)), (h.each i p hi).2.turns ht (fun x hx => ap _ (by rw [T.part i p hi x hx]; omega))⟩, tag, T⟩
  · obtain ⟨M, h1, h2⟩ := h.txts
    exact ⟨M, by rw [ht.block tb (lt_of_get h1) (ap _ (by rw [T.txts]; decide))]; exact h1, h2⟩
  · intro x hx
    obtain ⟨M, h1, h2⟩ := h.nots x hx
    exact ⟨M, by rw [ht.block x (lt_of_get h1) (ap _ (by rw [T.nots x hx]; decide))]; exact h1, h2⟩
theorem RM.setTxts {st' : Nat} {ft' : ByteArray → Option Int} (h : RM w b mx made pb ob tb nb Fp P so fo st ft sn fn l) (hg : GMGoes ST tb st' ft' w w') : RM w' b mx made pb ob tb nb Fp P so fo st' ft' sn fn l := by
  obtain ⟨M, hM, hG, ht, hz⟩ := hg
  obtain ⟨tag, T⟩ := h.tags
  have ap : ∀ x, tag x ≠ 2 → x ∉ [tb] := fun x hx hm => hx (by rw [List.mem_singleton.1 hm]; exact T.txts)
  have hb : b ∉ [tb] := ap b (by rw [T.head]; decide)
  refine ⟨h.shape.turns ht hb, cell_turns h.self ht hb, cell_turns h.max ht hb, cell_turns h.poolc ht hb, cell_turns h.objc ht hb, cell_turns h.txtc ht hb, cell_turns h.madec ht hb, cell_turns h.notc ht hb, h.pool.keep ht (fun x hx => ap x (by rw [T.pool x hx]; decide)), ?_, ⟨M, hM, hG⟩, ?_, fun i p hi => ⟨(h.each i p hi).1.turns ht (ap _ (by rw [T.obj i p hi]; omega)), (h.each i p hi).2.turns ht (fun x hx => ap _ (by rw [T.part i p hi x hx]; omega))⟩, tag, T⟩
  · obtain ⟨M, h1, h2⟩ := h.objs
    exact ⟨M, by rw [ht.block ob (lt_of_get h1) (ap _ (by rw [T.objs]; decide))]; exact h1, h2⟩
  · intro x hx
    obtain ⟨M, h1, h2⟩ := h.nots x hx
    exact ⟨M, by rw [ht.block x (lt_of_get h1) (ap _ (by rw [T.nots x hx]; decide))]; exact h1, h2⟩
theorem RM.setNots {x sn' : Nat} {fn' : Int → Option Unit} (h : RM w b mx made pb ob tb (some x) Fp P so fo st ft sn fn l) (hg : GMGoes SN x sn' fn' w w') : RM w' b mx made pb ob tb (some x) Fp P so fo st ft sn' fn' l := by
  obtain ⟨M, hM, hG, ht, hz⟩ := hg
  obtain ⟨tag, T⟩ := h.tags
  have ap : ∀ y, tag y ≠ 3 → y ∉ [x] := fun y hy hm => hy (by rw [List.mem_singleton.1 hm]; exact T.nots x rfl)
  have hb : b ∉ [x] := ap b (by rw [T.head]; decide)
  refine ⟨h.shape.turns ht hb, cell_turns h.self ht hb, cell_turns h.max ht hb, cell_turns h.poolc ht hb, cell_turns h.objc ht hb, cell_turns h.txtc ht hb, cell_turns h.madec ht hb, cell_turns h.notc ht hb, h.pool.keep ht (fun x hx => ap x (by rw [T.pool x hx]; decide)), ?_, ?_, fun y hy => ⟨M, by injection hy with hy; rw [← hy]; exact hM, hG⟩, fun i p hi => ⟨(h.each i p hi).1.turns ht (ap _ (by rw [T.obj i p hi]; omega)), (h.each i p hi).2.turns ht (fun x hx => ap _ (by rw [T.part i p hi x hx]; omega))⟩, tag, T⟩
  · obtain ⟨M, h1, h2⟩ := h.objs
    exact ⟨M, by rw [ht.block ob (lt_of_get h1) (ap _ (by rw [T.objs]; decide))]; exact h1, h2⟩
  · obtain ⟨M, h1, h2⟩ := h.txts
    exact ⟨M, by rw [ht.block tb (lt_of_get h1) (ap _ (by rw [T.txts]; decide))]; exact h1, h2⟩
theorem RM.setMade (h : RM w b mx made pb ob tb nb Fp P so fo st ft sn fn l) (y : Int) : RM (w.setCell ⟨b, 5, none⟩ (.int .i64 y)) b mx y pb ob tb nb Fp P so fo st ft sn fn l := by
  have ht := turns_cell w b 5 (.int .i64 y)
  obtain ⟨tag, T⟩ := h.tags
  have ap : ∀ x, tag x ≠ 0 → x ∉ [b] := fun x hx hm => hx (by rw [List.mem_singleton.1 hm]; exact T.head)
  refine ⟨h.shape.set, cell_keep h.self (ne_off (by decide)), cell_keep h.max (ne_off (by decide)), cell_keep h.poolc (ne_off (by decide)), cell_keep h.objc (ne_off (by decide)), cell_keep h.txtc (ne_off (by decide)), cell_put h.madec, cell_keep h.notc (ne_off (by decide)), h.pool.keep ht (fun x hx => ap x (by rw [T.pool x hx]; decide)), ?_, ?_, ?_, fun i p hi => ⟨(h.each i p hi).1.turns ht (ap _ (by rw [T.obj i p hi]; omega)), (h.each i p hi).2.turns ht (fun x hx => ap _ (by rw [T.part i p hi x hx]; omega))⟩, tag, T⟩
  · obtain ⟨M, h1, h2⟩ := h.objs
    exact ⟨M, by rw [ht.block ob (lt_of_get h1) (ap _ (by rw [T.objs]; decide))]; exact h1, h2⟩
  · obtain ⟨M, h1, h2⟩ := h.txts
    exact ⟨M, by rw [ht.block tb (lt_of_get h1) (ap _ (by rw [T.txts]; decide))]; exact h1, h2⟩
  · intro x hx
    obtain ⟨M, h1, h2⟩ := h.nots x hx
    exact ⟨M, by rw [ht.block x (lt_of_get h1) (ap _ (by rw [T.nots x hx]; decide))]; exact h1, h2⟩
/-- An object goes. -/
theorem RM.drop {i : Nat} (h : RM w b mx made pb ob tb nb Fp P so fo st ft sn fn l) : RM w b mx made pb ob tb nb Fp P so fo st ft sn fn (l.set i none) := by
  have look : ∀ (j : Nat) (r : OP), (l.set i none)[j]? = some (some r) → l[j]? = some (some r) := fun j r hj => by
    rw [List.getElem?_set] at hj
    by_cases e : i = j
    · rw [if_pos e] at hj
      split at hj
      · cases hj
      · cases hj
    · rw [if_neg e] at hj
      exact hj
  obtain ⟨tag, T⟩ := h.tags
  exact ⟨h.shape, h.self, h.max, h.poolc, h.objc, h.txtc, h.madec, h.notc, h.pool, h.objs, h.txts, h.nots, fun j r hj => h.each j r (look j r hj), tag, T.head, T.objs, T.txts, T.nots, T.pool, fun j r hj => T.obj j r (look j r hj), fun j r hj => T.part j r (look j r hj), fun j r hj => T.thr j r (look j r hj)⟩
/-- An object comes, in a place where none was. -/
theorem RM.come {i : Nat} {q : OP} {l' : ObL} (h : RM w b mx made pb ob tb nb Fp P so fo st ft sn fn l) (hl : ∀ (j : Nat) (r : OP), l'[j]? = some (some r) → (j = i ∧ r = q) ∨ (j ≠ i ∧ l[j]? = some (some r))) (hq : ObjC w q ∧ PartAt w q)
    (hg : q.g ∉ Fof b ob tb nb Fp l) (hG : ∀ x ∈ q.G, x ∉ Fof b ob tb nb Fp l) (hgG : q.g ∉ q.G) (ht : q.o.kind = 8 → q.t ∉ Fof b ob tb nb Fp l ∧ q.t ≠ q.g) (hthr : ∀ (j : Nat) (r : OP), l[j]? = some (some r) → r.o.kind = 8 → r.t ≠ q.g ∧ r.t ∉ q.G ∧ (q.o.kind = 8 → r.t ≠ q.t)) :
    RM w b mx made pb ob tb nb Fp P so fo st ft sn fn l' := by
  obtain ⟨tag, T⟩ := h.tags
  let tag' : Nat → Nat := fun x => if x = q.g then 2 * i + 5 else if x ∈ q.G ∨ (q.o.kind = 8 ∧ x = q.t) then 2 * i + 6 else tag x
  have old : ∀ x ∈ Fof b ob tb nb Fp l, tag' x = tag x := fun x hm => by
    show (if x = q.g then _ else _) = _
    rw [if_neg (fun e => hg (by rw [← e]; exact hm)), if_neg (fun e => e.elim (fun e => hG x e hm) (fun e => (ht e.1).1 (by rw [← e.2]; exact hm)))]
  refine ⟨h.shape, h.self, h.max, h.poolc, h.objc, h.txtc, h.madec, h.notc, h.pool, h.objs, h.txts, h.nots, fun j r hj => ?_, tag', ?_, ?_, ?_, fun x hx => ?_, fun x hx => ?_, fun j r hj => ?_, fun j r hj x hx => ?_, fun j r hj hk => ?_⟩
  · rcases hl j r hj with ⟨rfl, rfl⟩ | ⟨_, hj⟩
    · exact hq
    · exact h.each j r hj
  · rw [old b (in_F.2 (.inl rfl))]; exact T.head
  · rw [old ob (in_F.2 (.inr (.inl rfl)))]; exact T.objs
  · rw [old tb (in_F.2 (.inr (.inr (.inl rfl))))]; exact T.txts
  · rw [old x (in_F.2 (.inr (.inr (.inr (.inl hx)))))]; exact T.nots x hx
  · rw [old x (in_F.2 (.inr (.inr (.inr (.inr (.inl hx))))))]; exact T.pool x hx
  · rcases hl j r hj with ⟨rfl, rfl⟩ | ⟨_, hj⟩
    · exact if_pos rfl
    · rw [old r.g (in_F.2 (.inr (.inr (.inr (.inr (.inr ⟨j, r, hj, .inl rfl⟩))))))]; exact T.obj j r hj
  · rcases hl j r hj with ⟨rfl, rfl⟩ | ⟨_, hj⟩
    · show (if x = r.g then _ else _) = _
      rw [if_neg (fun e => hgG (by rw [← e]; exact hx)), if_pos (.inl hx)]
    · rw [old x (in_F.2 (.inr (.inr (.inr (.inr (.inr ⟨j, r, hj, .inr hx⟩))))))]; exact T.part j r hj x hx
  · rcases hl j r hj with ⟨rfl, rfl⟩ | ⟨_, hj⟩
    · show (if r.t = r.g then _ else _) = _
      rw [if_neg (ht hk).2, if_pos (.inr ⟨hk, rfl⟩)]
    · obtain ⟨h1, h2, h3⟩ := hthr j r hj hk
      show (if r.t = q.g then _ else _) = _
      rw [if_neg h1, if_neg (fun e => e.elim h2 (fun e => h3 e.1 e.2))]
      exact T.thr j r hj hk
end
end Go.Proofs.YthejclgihhfenaaGreat.Hd
