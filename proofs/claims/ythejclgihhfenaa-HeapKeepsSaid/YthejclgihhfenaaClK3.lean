import Derived.Test.YthejclgihhfenaaClK1
import Derived.Test.YthejclgihhfenaaCm3
import Derived.Test.YthejclgihhfenaaClK2
/-
  Layer 14: a heap beside a map of values to numbers, a list of values and boxes of the law's own: what each step leaves.
-/
namespace Go.Proofs.Ythejclgihhfenaa.Hp
open Go Go.RowKit Go.Proofs.Ythejclgihhfenaa.Pl Go.Proofs.Ythejclgihhfenaa.Tb Go.Proofs.Ythejclgihhfenaa.Vm

abbrev valT : TypeId := 31
theorem tyV : Ty 27 2 := ⟨Try.underlying27, Try.underlying2, fun _ => by kernel_rfl⟩
theorem tyNV : TyN 42 2 4 := ⟨Try.underlying42, Try.underlying2, fun _ => by kernel_rfl⟩
theorem turnsG {w w' : World} {k : Nat} (h : w.grownBy w' (some k)) : Turns [k] w w' := ⟨h.os, h.tape, h.output, h.size, fun j hj hn => h.block j hj (fun e => hn (by rw [Option.some.inj e]; exact List.mem_singleton.2 rfl))⟩
theorem turnsG0 {w w' : World} (h : w.grownBy w' none) : Turns [] w w' := ⟨h.os, h.tape, h.output, h.size, fun j hj _ => h.block j hj (fun e => by cases e)⟩
def vcells (L : List Vl) : List Value := L.flatMap (fun v => [.int .u8 (v.kind : Int), .int .i64 v.n])
theorem vcells_len (L : List Vl) : (vcells L).length = L.length * 2 := by
  induction L with
  | nil => rfl
  | cons a L ih =>
    show (_ :: _ :: vcells L).length = _
    rw [List.length_cons, List.length_cons, ih, List.length_cons]; omega
theorem vcells_get : ∀ (L : List Vl) (j : Nat) (h : j < L.length), (vcells L)[j * 2]? = some (.int .u8 (L[j].kind : Int)) ∧ (vcells L)[j * 2 + 1]? = some (.int .i64 L[j].n)
  | a :: L, 0, _ => ⟨rfl, rfl⟩
  | a :: L, j + 1, h => by
    have h2 : j < L.length := by simpa using h
    have ih := vcells_get L j h2
    rw [show (j + 1) * 2 = j * 2 + 1 + 1 by omega]
    show (Value.int .u8 (a.kind : Int) :: .int .i64 a.n :: vcells L)[j * 2 + 1 + 1]? = _ ∧ (Value.int .u8 (a.kind : Int) :: .int .i64 a.n :: vcells L)[j * 2 + 1 + 1 + 1]? = _
    rw [List.getElem?_cons_succ, List.getElem?_cons_succ, List.getElem?_cons_succ, List.getElem?_cons_succ]
    exact ih
/-- A list of values in a block of K. -/
def ListV (v : Value) (L : List Vl) (K : Own) : Prop := (v = .slice none 0 0 ∧ L = [] ∧ K = []) ∨ ∃ g cap cur, v = .slice (some ⟨g, 0, none⟩) L.length cap ∧ K = [(g, Obj.cells cur valT (0, 0))] ∧ L.length ≤ cap ∧ cap ≤ maxLen ∧ cur.size = cap * 2 ∧ cur.toList.take (L.length * 2) = vcells L
/-- The heap at block b, the map at block mb, the list v; beside it the boxes K. -/
def KpS (HP : HeapP) (w0 : World) (b mb : Nat) (h : Hp) (g : Vl → Option Int) (sz N : Nat) (v : Value) (L : List Vl) (K : Own) (w : World) : Prop :=
  ∃ M Kl, HpAt HP w0 b h ((mb, M) :: (Kl ++ K)) w ∧ VMapIs 2 M N sz g ∧ ListV v L Kl ∧ (w0.heap.size ≤ mb ∧ (∀ p ∈ Kl, w0.heap.size ≤ p.1) ∧ (∀ p ∈ K, w0.heap.size ≤ p.1)) ∧ (∀ p ∈ Kl, p.1 ≠ mb) ∧ ∀ q ∈ K, q.1 ≠ mb ∧ ∀ p ∈ Kl, p.1 ≠ q.1
section
variable {HP : HeapP} {w0 w w' : World} {b mb sz N : Nat} {h h' : Hp} {g : Vl → Option Int} {v : Value} {L : List Vl} {K : Own}
theorem KpS.below (H : HeapSays HP) (hs : KpS HP w0 b mb h g sz N v L K w) (hb : Below w.heap.size w w') : KpS HP w0 b mb h g sz N v L K w' := by
  obtain ⟨M, Kl, h1, r⟩ := hs
  exact ⟨M, Kl, h1.below H hb, r⟩
theorem KpS.low (hs : KpS HP w0 b mb h g sz N v L K w) : Below w0.heap.size w0 w := by
  obtain ⟨M, Kl, h1, _⟩ := hs
  exact h1.low
theorem KpS.own (hs : KpS HP w0 b mb h g sz N v L K w) {k : Nat} {o : Obj} (hm : (k, o) ∈ K) : w.heap[k]? = some o := by
  obtain ⟨M, Kl, h1, _⟩ := hs
  exact h1.own (.tail _ (List.mem_append_right _ hm))
theorem KpS.mapBlock (hs : KpS HP w0 b mb h g sz N v L K w) : ∃ M, w.heap[mb]? = some M ∧ VMapIs 2 M N sz g := by
  obtain ⟨M, Kl, h1, h2, _⟩ := hs
  exact ⟨M, h1.own (.head _), h2⟩
theorem KpS.fewer {K' : Own} (hs : KpS HP w0 b mb h g sz N v L K w) (hk : ∀ p ∈ K', p ∈ K) : KpS HP w0 b mb h g sz N v L K' w := by
  obtain ⟨M, Kl, h1, h2, h3, ⟨a1, a2, a3⟩, a4, a5⟩ := hs
  refine ⟨M, Kl, h1.fewer (fun p hp => ?_), h2, h3, ⟨a1, a2, fun p hp => a3 p (hk p hp)⟩, a4, fun q hq => a5 q (hk q hq)⟩
  rcases List.mem_cons.1 hp with rfl | hp
  · exact .head _
  · rcases List.mem_append.1 hp with hp | hp
    · exact .tail _ (List.mem_append_left _ hp)
    · exact .tail _ (List.mem_append_right _ (hk p hp))
theorem KpS.alloc (H : HeapSays HP) (hs : KpS HP w0 b mb h g sz N v L K w) (o : Obj) : KpS HP w0 b mb h g sz N v L ((w.heap.size, o) :: K) (w.alloc o) := by
  obtain ⟨M, Kl, h1, h2, h3, ⟨a1, a2, a3⟩, a4, a5⟩ := hs
  have lt : ∀ {k : Nat} {x : Obj}, (k, x) ∈ (mb, M) :: (Kl ++ K) → k < w.heap.size := fun hx => lt_of_get (h1.own hx)
  refine ⟨M, Kl, (h1.alloc H o).fewer (fun p hp => ?_), h2, h3, ⟨a1, a2, fun p hp => ?_⟩, a4, fun q hq => ?_⟩
  · rcases List.mem_cons.1 hp with rfl | hp
    · exact .tail _ (.head _)
    · rcases List.mem_append.1 hp with hp | hp
      · exact .tail _ (.tail _ (List.mem_append_left _ hp))
      · rcases List.mem_cons.1 hp with rfl | hp
        · exact .head _
        · exact .tail _ (.tail _ (List.mem_append_right _ hp))
  · rcases List.mem_cons.1 hp with rfl | hp
    · exact h1.low.size
    · exact a3 p hp
  · rcases List.mem_cons.1 hq with rfl | hq
    · exact ⟨fun e => by have := lt (k := mb) (x := M) (.head _); dsimp only at e; omega, fun p hp e => by have := lt (k := p.1) (x := p.2) (.tail _ (List.mem_append_left _ hp)); dsimp only at e; omega⟩
    · exact a5 q hq
/-- What a call makes of the heap. -/
theorem KpS.chg {f : Nat} {args : Array Value} {r : Value} (hc : ∀ {F}, HP w b h F → Calls Try.prog f args w (ChgSays HP b h' F r w)) (hs : KpS HP w0 b mb h g sz N v L K w) :
    Calls Try.prog f args w (fun e w' => e = .returned r ∧ KpS HP w0 b mb h' g sz N v L K w') := by
  obtain ⟨M, Kl, h1, r1⟩ := hs
  exact (h1.chg hc).mono fun e w1 ⟨he, ha⟩ => ⟨he, M, Kl, ha, r1⟩
theorem KpS.tell {f : Nat} {args : Array Value} {r : Value} (H : HeapSays HP) (hc : ∀ {F}, HP w b h F → Calls Try.prog f args w (TellSays r w)) (hs : KpS HP w0 b mb h g sz N v L K w) :
    Calls Try.prog f args w (fun e w' => e = .returned r ∧ KpS HP w0 b mb h g sz N v L K w') := by
  obtain ⟨M, Kl, h1, r1⟩ := hs
  exact (h1.tell H hc).mono fun e w1 ⟨he, ha⟩ => ⟨he, M, Kl, ha, r1⟩
theorem KpS.objects (H : HeapSays HP) (hs : KpS HP w0 b mb h g sz N v L K w) :
    Calls Try.prog 17 #[.pointer (some ⟨b, 0, none⟩)] w (fun e w' => ∃ ao cap, e = .returned (.slice ao (objectsL 0 h.obs).length cap) ∧ KpS HP w0 b mb h g sz N v L K w') := by
  obtain ⟨M, Kl, h1, r1⟩ := hs
  refine (h1.list H (fun hp => H.objects hp)).mono fun e w1 ⟨v, Ko, he, ⟨ao, cap, hv, _, _⟩, ha⟩ => ⟨ao, cap, ?_, M, Kl, ha.fewer (fun p hp => List.mem_append_right _ hp), r1⟩
  rw [he, hv]
/-- A step upon the law's own blocks that leaves the map, the list. -/
theorem KpS.box {x : Nat} {o : Obj} (H : HeapSays HP) (hs : KpS HP w0 b mb h g sz N v L ((x, o) :: K) w) (hx : ∀ q ∈ K, q.1 ≠ x) (ht : Turns [x] w w') (o' : Obj) (ho : w'.heap[x]? = some o') : KpS HP w0 b mb h g sz N v L ((x, o') :: K) w' := by
  obtain ⟨M, Kl, h1, h2, h3, ⟨a1, a2, a3⟩, a4, a5⟩ := hs
  have ax := a5 (x, o) (.head _)
  refine ⟨M, Kl, h1.mine H ht (fun k hk => ⟨o, by rw [List.mem_singleton.1 hk]; exact .tail _ (List.mem_append_right _ (.head _))⟩) (fun k hk => by rw [List.mem_singleton.1 hk]; exact a3 (x, o) (.head _)) (fun p hp => ?_), h2, h3, ⟨a1, a2, fun p hp => ?_⟩, a4, fun q hq => ?_⟩
  · have keep : ∀ {k : Nat} {y : Obj}, (k, y) ∈ (mb, M) :: (Kl ++ (x, o) :: K) → k ≠ x → w'.heap[k]? = some y := fun hy hk => (ht.block _ (lt_of_get (h1.own hy)) (fun hm => hk (List.mem_singleton.1 hm))).trans (h1.own hy)
    rcases List.mem_cons.1 hp with rfl | hp
    · exact ⟨keep (.head _) (fun e => ax.1 e.symm), .inl ⟨M, .head _⟩⟩
    · rcases List.mem_append.1 hp with hp | hp
      · exact ⟨keep (k := p.1) (y := p.2) (.tail _ (List.mem_append_left _ hp)) (ax.2 p hp), .inl ⟨p.2, .tail _ (List.mem_append_left _ hp)⟩⟩
      · rcases List.mem_cons.1 hp with rfl | hp
        · exact ⟨ho, .inl ⟨o, .tail _ (List.mem_append_right _ (.head _))⟩⟩
        · exact ⟨keep (k := p.1) (y := p.2) (.tail _ (List.mem_append_right _ (.tail _ hp))) (hx p hp), .inl ⟨p.2, .tail _ (List.mem_append_right _ (.tail _ hp))⟩⟩
  · rcases List.mem_cons.1 hp with rfl | hp
    · exact a3 (x, o) (.head _)
    · exact a3 p (.tail _ hp)
  · rcases List.mem_cons.1 hq with rfl | hq
    · exact ax
    · exact a5 q (.tail _ hq)
/-- A value put into a box. -/
theorem KpS.put2 {x : Nat} {T : TypeId} {a c a' c' : Value} (H : HeapSays HP) (hs : KpS HP w0 b mb h g sz N v L ((x, .cells #[a, c] T) :: K) w) (hx : ∀ q ∈ K, q.1 ≠ x) : KpS HP w0 b mb h g sz N v L ((x, .cells #[a', c'] T) :: K) ((w.setCell ⟨x, 0, none⟩ a').setCell ⟨x, 1, none⟩ c') := by
  have hb := hs.own (.head _)
  have ht : Turns [x] w ((w.setCell ⟨x, 0, none⟩ a').setCell ⟨x, 1, none⟩ c') := ⟨rfl, rfl, rfl, by simp, fun k _ hn => by
    rw [heap_setCell_other _ _ _ _ (fun e => hn (List.mem_singleton.2 (show k = x from e))), heap_setCell_other _ _ _ _ (fun e => hn (List.mem_singleton.2 (show k = x from e)))]⟩
  exact hs.box H hx ht _ (heap_setCell_same _ x 1 _ T c' (heap_setCell_same w x 0 _ T a' hb))
/-- A store into the map. -/
theorem KpS.mapGoes (H : HeapSays HP) (hs : KpS HP w0 b mb h g sz N v L K w) {g' : Vl → Option Int} {sz' N' : Nat} (hg : VMapGoes 2 mb N' sz' g' w w') : KpS HP w0 b mb h g' sz' N' v L K w' := by
  obtain ⟨M, Kl, h1, h2, h3, ⟨a1, a2, a3⟩, a4, a5⟩ := hs
  obtain ⟨M', hM', hm', hgr, _⟩ := hg
  have keep : ∀ {k : Nat} {y : Obj}, (k, y) ∈ (mb, M) :: (Kl ++ K) → k ≠ mb → w'.heap[k]? = some y := fun hy hk => (hgr.block _ (lt_of_get (h1.own hy)) (fun e => hk (Option.some.inj e))).trans (h1.own hy)
  refine ⟨M', Kl, h1.mine H (turnsG hgr) (fun k hk => ⟨M, by rw [List.mem_singleton.1 hk]; exact .head _⟩) (fun k hk => by rw [List.mem_singleton.1 hk]; exact a1) (fun p hp => ?_), hm', h3, ⟨a1, a2, a3⟩, a4, a5⟩
  rcases List.mem_cons.1 hp with rfl | hp
  · exact ⟨hM', .inl ⟨M, .head _⟩⟩
  · rcases List.mem_append.1 hp with hp | hp
    · exact ⟨keep (k := p.1) (y := p.2) (.tail _ (List.mem_append_left _ hp)) (a4 p hp), .inl ⟨p.2, .tail _ (List.mem_append_left _ hp)⟩⟩
    · exact ⟨keep (k := p.1) (y := p.2) (.tail _ (List.mem_append_right _ hp)) (a5 p hp).1, .inl ⟨p.2, .tail _ (List.mem_append_right _ hp)⟩⟩
theorem KpS.store (H : HeapSays HP) (hs : KpS HP w0 b mb h g sz N v L K w) (hN : N < 1000000) (k : Vl) (n : Int) (hk : k.In) (hn : In64 n) :
    ∃ w', (Instr.mapUpdate 27 (.map (some mb)) k.val (.int .i64 n)).run Try.prog w = .ok () w' ∧ KpS HP w0 b mb h (fun j => if j = k then some n else g j) (if (g k).isSome then sz else sz + 1) (N + 1) v L K w' := by
  obtain ⟨M, h1, h2⟩ := hs.mapBlock
  obtain ⟨w', hrun, hg⟩ := h2.store tyV h1 hN k n hk hn
  exact ⟨w', hrun, hs.mapGoes H hg⟩
theorem KpS.drop (H : HeapSays HP) (hs : KpS HP w0 b mb h g sz N v L K w) (k : Vl) (hk : k.In) (ty : TypeId) :
    ∃ w', (Builtin.delete_ #[27, 31] ty #[.map (some mb), k.val]).run Try.prog w = .ok (.tuple #[]) w' ∧ KpS HP w0 b mb h (fun j => if j = k then none else g j) (if (g k).isSome then sz - 1 else sz) N v L K w' := by
  obtain ⟨M, h1, h2⟩ := hs.mapBlock
  obtain ⟨w', hrun, hg⟩ := h2.drop tyV h1 k hk ty
  exact ⟨w', hrun, hs.mapGoes H hg⟩
theorem KpS.look_ok (hs : KpS HP w0 b mb h g sz N v L K w) (k : Vl) (hk : k.In) : (Instr.lookup 27 (.map (some mb)) k.val true).run Try.prog w = .ok (.tuple #[.int .i64 ((g k).getD 0), .bool (g k).isSome]) w := by
  obtain ⟨M, h1, h2⟩ := hs.mapBlock
  exact h2.look_ok tyV h1 k hk
theorem KpS.len (hs : KpS HP w0 b mb h g sz N v L K w) (ty : TypeId) : (Builtin.len_ #[27] ty #[.map (some mb)]).run Try.prog w = .ok (.int .i64 (sz : Int)) w := by
  obtain ⟨M, h1, h2⟩ := hs.mapBlock
  exact h2.len tyV h1 ty
theorem KpS.congr {g' : Vl → Option Int} {sz' : Nat} (hs : KpS HP w0 b mb h g sz N v L K w) (hg : ∀ k, g' k = g k) (hz : sz' = sz) : KpS HP w0 b mb h g' sz' N v L K w := by
  rw [show g' = g from funext hg, hz]; exact hs
theorem infoVal : (Try.prog.info? 31).map (fun i => (i.zero, i.size, i.bytes)) = some (some (.agg #[.int .u8 0, .int .i64 0]), 2, 16) := by kernel_rfl
theorem ListV.row {Kl : Own} (hl : ListV v L Kl) (hk : ∀ p ∈ Kl, w.heap[p.1]? = some p.2) : w.ownsRow 0 31 2 v L.length (vcells L) := by
  refine ⟨vcells_len L, ?_⟩
  rcases hl with ⟨rfl, rfl, _⟩ | ⟨gb, cap, cur, rfl, rfl, hc, hm, hz, ht⟩
  · exact .inl ⟨rfl, rfl⟩
  · exact .inr ⟨gb, cap, cur, rfl, Nat.zero_le _, hk _ (List.mem_singleton.2 rfl), hc, hm, hz, ht⟩
theorem listV_of_row {n : Nat} (hr : w.ownsRow 0 31 2 v n (vcells L)) (hn : n = L.length) : ∃ Kl, ListV v L Kl ∧ (∀ p ∈ Kl, w.heap[p.1]? = some p.2 ∧ v.ownBlock = some p.1) := by
  subst hn
  rcases hr.2 with ⟨rfl, h0⟩ | ⟨gb, cap, cur, rfl, _, hg, hc, hm, hs, ht⟩
  · exact ⟨[], .inl ⟨rfl, List.eq_nil_of_length_eq_zero h0, rfl⟩, fun p hp => by cases hp⟩
  · exact ⟨[(gb, .cells cur valT (0, 0))], .inr ⟨gb, cap, cur, rfl, rfl, hc, hm, hs, ht⟩, fun p hp => by rw [List.mem_singleton.1 hp]; exact ⟨hg, rfl⟩⟩
/-- 'l = append(l, u)'. -/
theorem wpList_append_v {ops : Array Oper} {rest : List Oper} {o : Oper} {a : Act} {Q : Exit → Act → World → Prop} (H : HeapSays HP) (hs : KpS HP w0 b mb h g sz N v L K w) (hgd : o.guard = none) (s x : Operand)
    (ho : o.op = .call { callee := .builtin .append, args := #[s, x], argTypes := #[28, 28] }) (hv : a.eval s = v) (u : Vl) (hx : a.eval x = .slice (some ⟨w.heap.size, 0, none⟩) 1 1) (hl : L.length ≤ 1000)
    (hQ : ∀ v' w', KpS HP w0 b mb h g sz N v' (L ++ [u]) K w' → wpList Try.prog ops Q rest (a.put o.dst v') w') : wpList Try.prog ops Q (o :: rest) a (w.alloc (.cells #[.int .u8 (u.kind : Int), .int .i64 u.n] 31)) := by
  obtain ⟨M, Kl, h1, h2, h3, ⟨a1, a2, a3⟩, a4, a5⟩ := hs
  obtain ⟨i, hi, hz, hsize, hby⟩ := info_parts infoVal
  have hrow := h3.row (w := w) (fun p hp => h1.own (k := p.1) (o := p.2) (.tail _ (List.mem_append_left _ hp)))
  have lt : ∀ {k : Nat} {y : Obj}, (k, y) ∈ (mb, M) :: (Kl ++ K) → k < w.heap.size := fun hy => lt_of_get (h1.own hy)
  refine wpList_append_own_at (w := w.alloc (.cells #[.int .u8 (u.kind : Int), .int .i64 u.n] 31)) hgd s x 28 ho 0 31 i (.agg #[.int .u8 0, .int .i64 0]) 2 16 Try.underlying28 hi hz hsize hby rfl (by decide) v L.length (vcells L) hv (hrow.alloc _) ⟨w.heap.size, 0, none⟩ 1 1 [.int .u8 (u.kind : Int), .int .i64 u.n] hx rfl (fun j y hj => ?_) (fun y hy => ?_) (Nat.le_trans (m := 1001) (by omega) (by decide)) (Nat.le_trans (Nat.mul_le_mul_right 16 (m := 1001) (by omega)) (by decide)) (Nat.zero_le _) (fun v' w' q1 q2 _ q4 => hQ v' w' ?_)
  · have hnb := new_block w (.cells #[.int .u8 (u.kind : Int), .int .i64 u.n] 31)
    match j, hj with
    | 0, hj => simp at hj; subst hj; exact cell_of hnb 0 _ rfl
    | 1, hj => simp at hj; subst hj; exact cell_of hnb 1 _ rfl
  · simp at hy
    rcases hy with rfl | rfl <;> rfl
  · obtain ⟨Kl', hl', hk'⟩ := listV_of_row (L := L ++ [u]) (w := w') (v := v') (n := L.length + 1) (by
      have e : vcells (L ++ [u]) = vcells L ++ [.int .u8 (u.kind : Int), .int .i64 u.n] := by unfold vcells; rw [List.flatMap_append]; rfl
      rw [e]; exact q1) (by simp)
    have hsz : (w.alloc (.cells #[.int .u8 (u.kind : Int), .int .i64 u.n] 31)).heap.size = w.heap.size + 1 := by simp
    have hown : ∀ p ∈ Kl', (∃ o, (p.1, o) ∈ Kl) ∨ w.heap.size + 1 ≤ p.1 := fun p hp => by
      rcases q4 with q4 | q4
      · have e := (hk' p hp).2
        rw [q4] at e
        rcases h3 with ⟨rfl, _, _⟩ | ⟨gb, cap, cur, rfl, rfl, _⟩
        · cases e
        · injection e with e
          dsimp only at e
          exact .inl ⟨_, List.mem_singleton.2 (by rw [← e])⟩
      · have e := (hk' p hp).2
        rw [q4] at e
        injection e with e
        exact .inr (by omega)
    have htu : Turns (Kl.map (·.1)) w w' := by
      have hb : Turns (Kl.map (·.1)) w (w.alloc (.cells #[.int .u8 (u.kind : Int), .int .i64 u.n] 31)) := Turns.of_below ((Below.refl _ _).alloc (Nat.le_refl _) _)
      refine hb.trans (G := v.ownBlock.toList) ⟨q2.os, q2.tape, q2.output, q2.size, fun k hk hn => q2.block k hk (fun e => hn (by rw [← e]; simp))⟩ (fun z hz => .inl ?_)
      rcases h3 with ⟨rfl, _, _⟩ | ⟨gb, cap, cur, rfl, rfl, _⟩
      · cases hz
      · have hz : z = gb := by simpa [Value.ownBlock] using hz
        rw [hz]; simp
    have keep : ∀ {k : Nat} {y : Obj}, (k, y) ∈ (mb, M) :: (Kl ++ K) → k ∉ Kl.map (·.1) → w'.heap[k]? = some y := fun hy hk => (htu.block _ (lt hy) hk).trans (h1.own hy)
    have hmbK : mb ∉ Kl.map (·.1) := fun hm => by
      obtain ⟨p, hp, e⟩ := List.mem_map.1 hm
      exact a4 p hp e
    refine ⟨M, Kl', h1.mine H htu (fun k hk => ?_) (fun k hk => ?_) (fun p hp => ?_), h2, hl', ⟨a1, fun p hp => ?_, a3⟩, fun p hp e => ?_, fun q hq => ⟨(a5 q hq).1, fun p hp e => ?_⟩⟩
    · obtain ⟨p, hp, e⟩ := List.mem_map.1 hk
      exact ⟨p.2, .tail _ (List.mem_append_left _ (by rw [← e]; exact hp))⟩
    · obtain ⟨p, hp, e⟩ := List.mem_map.1 hk
      rw [← e]; exact a2 p hp
    · rcases List.mem_cons.1 hp with rfl | hp
      · exact ⟨keep (.head _) hmbK, .inl ⟨M, .head _⟩⟩
      · rcases List.mem_append.1 hp with hp | hp
        · refine ⟨(hk' p hp).1, ?_⟩
          rcases hown p hp with ⟨o, ho⟩ | ho
          · exact .inl ⟨o, .tail _ (List.mem_append_left _ ho)⟩
          · exact .inr (by omega)
        · refine ⟨keep (k := p.1) (y := p.2) (.tail _ (List.mem_append_right _ hp)) (fun hm => ?_), .inl ⟨p.2, .tail _ (List.mem_append_right _ hp)⟩⟩
          obtain ⟨q, hq, e⟩ := List.mem_map.1 hm
          exact (a5 p hp).2 q hq e
    · rcases hown p hp with ⟨o, ho⟩ | ho
      · exact a2 (p.1, o) ho
      · exact Nat.le_trans h1.low.size (by omega)
    · rcases hown p hp with ⟨o, ho⟩ | ho
      · exact a4 (p.1, o) ho e
      · have := lt (k := mb) (y := M) (.head _); omega
    · rcases hown p hp with ⟨o, ho⟩ | ho
      · exact (a5 q hq).2 (p.1, o) ho e
      · have := lt (k := q.1) (y := q.2) (.tail _ (List.mem_append_right _ hq)); omega
/-- The list's length, and an item. -/
theorem KpS.list (hs : KpS HP w0 b mb h g sz N v L K w) : ∃ a c, v = .slice a L.length c ∧ L.length ≤ c := by
  obtain ⟨M, Kl, h1, h2, h3, _⟩ := hs
  rcases h3 with ⟨rfl, rfl, _⟩ | ⟨gb, cap, cur, rfl, _, hc, _⟩
  · exact ⟨_, _, rfl, Nat.le_refl _⟩
  · exact ⟨_, _, rfl, hc⟩
theorem KpS.item (hs : KpS HP w0 b mb h g sz N v L K w) (j : Nat) (hj : j < L.length) : ∃ gb cap, v = .slice (some ⟨gb, 0, none⟩) L.length cap ∧ w.cell? ⟨gb, j * 2, none⟩ = some (.int .u8 (L[j].kind : Int)) ∧ w.cell? ⟨gb, j * 2 + 1, none⟩ = some (.int .i64 L[j].n) := by
  obtain ⟨M, Kl, h1, h2, h3, _⟩ := hs
  rcases h3 with ⟨rfl, rfl, _⟩ | ⟨gb, cap, cur, rfl, rfl, hc, hm, hz, ht⟩
  · exact absurd hj (Nat.not_lt_zero _)
  · have hb := h1.own (k := gb) (.tail _ (List.mem_append_left _ (List.mem_singleton.2 rfl)))
    have hx := vcells_get L j hj
    rw [← ht, List.getElem?_take_of_lt (by omega), List.getElem?_take_of_lt (by omega)] at hx
    exact ⟨gb, cap, rfl, cell_of hb _ _ (by simpa using hx.1), cell_of hb _ _ (by simpa using hx.2)⟩
end
end Go.Proofs.Ythejclgihhfenaa.Hp
