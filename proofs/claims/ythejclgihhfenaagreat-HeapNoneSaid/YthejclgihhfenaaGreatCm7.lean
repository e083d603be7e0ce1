import Derived.Test.YthejclgihhfenaaGreatCm6
import Derived.Test.YthejclgihhfenaaGreatCm1
/-
  Layer 13: the developers' table as it lies in memory: a head, places that are tied to one another, a map.
-/
namespace Go.Proofs.YthejclgihhfenaaGreat.Td
open Go Go.RowKit Go.Proofs.YthejclgihhfenaaGreat.Pl Go.Proofs.YthejclgihhfenaaGreat.Tb

/-- A place: its block, its key, its value, and whether it stands among the faded ones. -/
structure Plc where
  b : Nat
  k : Vl
  v : Vl
  noted : Bool
def adr (p : Plc) : Addr := ⟨p.b, 0, none⟩
def endA (b : Nat) : Addr := ⟨b, 2, none⟩
def pv (p : Plc) : Vl × Vl := (p.k, p.v)
def tblOf (l : List Plc) : Tbl := l.map pv
def findP (l : List Plc) (k : Vl) : Option Nat := (l.find? (fun p => decide (p.k = k))).map (·.b)
abbrev headT : TypeId := 143
abbrev placeT : TypeId := 140
theorem ne_off {b c i j : Nat} (h : i ≠ j) : (⟨b, i, none⟩ : Addr) ≠ ⟨c, j, none⟩ := fun e => h (by injection e)
theorem ne_blk {b c i j : Nat} (h : b ≠ c) : (⟨b, i, none⟩ : Addr) ≠ ⟨c, j, none⟩ := fun e => h (by injection e)
theorem shape_ne {w : World} {b c n m : Nat} {T U : TypeId} (h : Shape w b T n) (h' : Shape w c U m) (hT : T ≠ U) : b ≠ c := by
  rintro rfl
  obtain ⟨cs, h, _⟩ := h
  obtain ⟨cs', h', _⟩ := h'
  rw [h] at h'
  injection h' with h'
  injection h' with _ h' _
  exact hT h'

structure HeadAt (w : World) (b mb : Nat) (lv ln : Int) : Prop where
  shape : Shape w b headT 12
  self : w.cell? ⟨b, 0, none⟩ = some (.pointer (some ⟨b, 0, none⟩))
  map : w.cell? ⟨b, 1, none⟩ = some (.map (some mb))
  k0 : w.cell? ⟨b, 2, none⟩ = some (.int .u8 0)
  k1 : w.cell? ⟨b, 3, none⟩ = some (.int .i64 0)
  v0 : w.cell? ⟨b, 4, none⟩ = some (.int .u8 0)
  v1 : w.cell? ⟨b, 5, none⟩ = some (.int .i64 0)
  live : w.cell? ⟨b, 10, none⟩ = some (.int .i64 lv)
  len : w.cell? ⟨b, 11, none⟩ = some (.int .i64 ln)
structure NodeAt (w : World) (p : Plc) : Prop where
  shape : Shape w p.b placeT 7
  k0 : w.cell? ⟨p.b, 0, none⟩ = some (.int .u8 (p.k.kind : Int))
  k1 : w.cell? ⟨p.b, 1, none⟩ = some (.int .i64 p.k.n)
  v0 : w.cell? ⟨p.b, 2, none⟩ = some (.int .u8 (p.v.kind : Int))
  v1 : w.cell? ⟨p.b, 3, none⟩ = some (.int .i64 p.v.n)
  noted : w.cell? ⟨p.b, 6, none⟩ = some (.bool p.noted)
section
variable {w w' : World} {b mb g i : Nat} {lv ln : Int} {p : Plc} {x : Value} {G : List Nat}
theorem HeadAt.turns (h : HeadAt w b mb lv ln) (ht : Turns G w w') (hn : b ∉ G) : HeadAt w' b mb lv ln :=
  ⟨h.shape.turns ht hn, cell_turns h.self ht hn, cell_turns h.map ht hn, cell_turns h.k0 ht hn, cell_turns h.k1 ht hn, cell_turns h.v0 ht hn, cell_turns h.v1 ht hn, cell_turns h.live ht hn, cell_turns h.len ht hn⟩
theorem HeadAt.off (h : HeadAt w b mb lv ln) (hn : g ≠ b) : HeadAt (w.setCell ⟨g, i, none⟩ x) b mb lv ln :=
  ⟨h.shape.set, cell_keep h.self (ne_blk hn), cell_keep h.map (ne_blk hn), cell_keep h.k0 (ne_blk hn), cell_keep h.k1 (ne_blk hn), cell_keep h.v0 (ne_blk hn), cell_keep h.v1 (ne_blk hn), cell_keep h.live (ne_blk hn), cell_keep h.len (ne_blk hn)⟩
theorem HeadAt.tie (h : HeadAt w b mb lv ln) (h1 : 6 ≤ i) (h2 : i ≤ 9) : HeadAt (w.setCell ⟨g, i, none⟩ x) b mb lv ln :=
  ⟨h.shape.set, cell_keep h.self (ne_off (by omega)), cell_keep h.map (ne_off (by omega)), cell_keep h.k0 (ne_off (by omega)), cell_keep h.k1 (ne_off (by omega)), cell_keep h.v0 (ne_off (by omega)), cell_keep h.v1 (ne_off (by omega)), cell_keep h.live (ne_off (by omega)), cell_keep h.len (ne_off (by omega))⟩
theorem HeadAt.setLive (h : HeadAt w b mb lv ln) (y : Int) : HeadAt (w.setCell ⟨b, 10, none⟩ (.int .i64 y)) b mb y ln :=
  ⟨h.shape.set, cell_keep h.self (ne_off (by omega)), cell_keep h.map (ne_off (by omega)), cell_keep h.k0 (ne_off (by omega)), cell_keep h.k1 (ne_off (by omega)), cell_keep h.v0 (ne_off (by omega)), cell_keep h.v1 (ne_off (by omega)), cell_put h.live, cell_keep h.len (ne_off (by omega))⟩
theorem HeadAt.setLen (h : HeadAt w b mb lv ln) (y : Int) : HeadAt (w.setCell ⟨b, 11, none⟩ (.int .i64 y)) b mb lv y :=
  ⟨h.shape.set, cell_keep h.self (ne_off (by omega)), cell_keep h.map (ne_off (by omega)), cell_keep h.k0 (ne_off (by omega)), cell_keep h.k1 (ne_off (by omega)), cell_keep h.v0 (ne_off (by omega)), cell_keep h.v1 (ne_off (by omega)), cell_keep h.live (ne_off (by omega)), cell_put h.len⟩
theorem NodeAt.turns (h : NodeAt w p) (ht : Turns G w w') (hn : p.b ∉ G) : NodeAt w' p :=
  ⟨h.shape.turns ht hn, cell_turns h.k0 ht hn, cell_turns h.k1 ht hn, cell_turns h.v0 ht hn, cell_turns h.v1 ht hn, cell_turns h.noted ht hn⟩
theorem NodeAt.off (h : NodeAt w p) (hn : g ≠ p.b) : NodeAt (w.setCell ⟨g, i, none⟩ x) p :=
  ⟨h.shape.set, cell_keep h.k0 (ne_blk hn), cell_keep h.k1 (ne_blk hn), cell_keep h.v0 (ne_blk hn), cell_keep h.v1 (ne_blk hn), cell_keep h.noted (ne_blk hn)⟩
theorem NodeAt.tie (h : NodeAt w p) (hi : i = 4 ∨ i = 5) : NodeAt (w.setCell ⟨g, i, none⟩ x) p :=
  ⟨h.shape.set, cell_keep h.k0 (ne_off (by omega)), cell_keep h.k1 (ne_off (by omega)), cell_keep h.v0 (ne_off (by omega)), cell_keep h.v1 (ne_off (by omega)), cell_keep h.noted (ne_off (by omega))⟩
theorem NodeAt.val (h : NodeAt w p) (v : Vl) : NodeAt ((w.setCell ⟨p.b, 2, none⟩ (.int .u8 (v.kind : Int))).setCell ⟨p.b, 3, none⟩ (.int .i64 v.n)) { p with v := v } :=
  ⟨h.shape.set.set, cell_keep (cell_keep h.k0 (ne_off (by omega))) (ne_off (by omega)), cell_keep (cell_keep h.k1 (ne_off (by omega))) (ne_off (by omega)), cell_keep (cell_put h.v0) (ne_off (by omega)), cell_put (cell_keep h.v1 (ne_off (by omega))), cell_keep (cell_keep h.noted (ne_off (by omega))) (ne_off (by omega))⟩
theorem NodeAt.note (h : NodeAt w p) (y : Bool) : NodeAt (w.setCell ⟨p.b, 6, none⟩ (.bool y)) { p with noted := y } :=
  ⟨h.shape.set, cell_keep h.k0 (ne_off (by omega)), cell_keep h.k1 (ne_off (by omega)), cell_keep h.v0 (ne_off (by omega)), cell_keep h.v1 (ne_off (by omega)), cell_put h.noted⟩
end

/-- A table at block b, its map at block mb: all but the faded ones. -/
structure TM (w : World) (b mb : Nat) (l : List Plc) (lv ln : Int) : Prop where
  head : HeadAt w b mb lv ln
  nodes : ∀ p ∈ l, NodeAt w p
  links : Links w (endA b :: l.map adr ++ [endA b])
  map : ∃ M, w.heap[mb]? = some M ∧ PMapIs M l.length (findP l)
  nd : (l.map (·.b)).Nodup
  keys : (l.map (·.k)).Nodup
  ok : ∀ p ∈ l, p.k.In ∧ p.v.In ∧ p.k.kind ≠ 0
section
variable {w w' : World} {b mb g i : Nat} {l : List Plc} {lv ln : Int} {p : Plc} {x : Value} {G : List Nat}
theorem TM.apart (h : TM w b mb l lv ln) (hp : p ∈ l) : p.b ≠ b := shape_ne (h.nodes p hp).shape h.head.shape (by decide)
theorem map_ne {n : Nat} {T : TypeId} {M : Obj} {sz : Nat} {f : Vl → Option Nat} (hs : Shape w b T n) (hm : w.heap[mb]? = some M) (hp : PMapIs M sz f) : b ≠ mb := by
  rintro rfl
  obtain ⟨es, c, rfl⟩ := hp.is_map w hm
  obtain ⟨cs, h, _⟩ := hs
  rw [hm] at h
  cases h
theorem TM.mapHead (h : TM w b mb l lv ln) : b ≠ mb := by
  obtain ⟨M, h1, h2⟩ := h.map
  exact map_ne h.head.shape h1 h2
theorem TM.mapNode (h : TM w b mb l lv ln) (hp : p ∈ l) : p.b ≠ mb := by
  obtain ⟨M, h1, h2⟩ := h.map
  exact map_ne (h.nodes p hp).shape h1 h2
theorem TM.mapLt (h : TM w b mb l lv ln) : mb < w.heap.size := by
  obtain ⟨M, h1, h2⟩ := h.map
  exact lt_of_get h1
theorem ends_mem {b : Nat} {l : List Plc} {z : Addr} (hz : z ∈ endA b :: l.map adr ++ [endA b]) : z = endA b ∨ ∃ p ∈ l, z = adr p := by
  rcases List.mem_append.1 hz with hz | hz
  · rcases List.mem_cons.1 hz with e | hz
    · exact .inl e
    · obtain ⟨p, hp, e⟩ := List.mem_map.1 hz
      exact .inr ⟨p, hp, e.symm⟩
  · exact .inl (List.mem_singleton.1 hz)
theorem TM.turns (h : TM w b mb l lv ln) (ht : Turns G w w') (h1 : b ∉ G) (h2 : mb ∉ G) (h3 : ∀ p ∈ l, p.b ∉ G) : TM w' b mb l lv ln where
  head := h.head.turns ht h1
  nodes p hp := (h.nodes p hp).turns ht (h3 p hp)
  links := links_turns ht _ (fun z hz => by
    rcases ends_mem hz with rfl | ⟨p, hp, rfl⟩
    · exact h1
    · exact h3 p hp) h.links
  map := by
    obtain ⟨M, hm, hp⟩ := h.map
    exact ⟨M, by rw [ht.block mb (lt_of_get hm) h2]; exact hm, hp⟩
  nd := h.nd
  keys := h.keys
  ok := h.ok
theorem TM.mapStay (h : TM w b mb l lv ln) (hg : g ≠ mb) : ∃ M, (w.setCell ⟨g, i, none⟩ x).heap[mb]? = some M ∧ PMapIs M l.length (findP l) := by
  obtain ⟨M, hm, hp⟩ := h.map
  exact ⟨M, by rw [heap_setCell_other _ _ _ _ (Ne.symm hg)]; exact hm, hp⟩
theorem TM.linksStay (h : TM w b mb l lv ln) (h1 : g = b → i ≠ 6 ∧ i ≠ 7) (h2 : ∀ p ∈ l, g = p.b → i ≠ 4 ∧ i ≠ 5) : Links (w.setCell ⟨g, i, none⟩ x) (endA b :: l.map adr ++ [endA b]) :=
  links_set _ (fun z hz => by
    rcases ends_mem hz with rfl | ⟨p, hp, rfl⟩
    · exact ⟨fun e => by injection e with e1 e2; exact (h1 e1).2 e2, fun e => by injection e with e1 e2; exact (h1 e1).1 e2⟩
    · exact ⟨fun e => by injection e with e1 e2; exact (h2 p hp e1).2 e2, fun e => by injection e with e1 e2; exact (h2 p hp e1).1 e2⟩) h.links
theorem TM.setLive (h : TM w b mb l lv ln) (y : Int) : TM (w.setCell ⟨b, 10, none⟩ (.int .i64 y)) b mb l y ln :=
  ⟨h.head.setLive y, fun p hp => (h.nodes p hp).off (h.apart hp).symm, h.linksStay (fun _ => by omega) (fun p hp e => absurd e.symm (h.apart hp)), h.mapStay h.mapHead, h.nd, h.keys, h.ok⟩
theorem TM.setLen (h : TM w b mb l lv ln) (y : Int) : TM (w.setCell ⟨b, 11, none⟩ (.int .i64 y)) b mb l lv y :=
  ⟨h.head.setLen y, fun p hp => (h.nodes p hp).off (h.apart hp).symm, h.linksStay (fun _ => by omega) (fun p hp e => absurd e.symm (h.apart hp)), h.mapStay h.mapHead, h.nd, h.keys, h.ok⟩
theorem TM.setFad (h : TM w b mb l lv ln) (y : Value) : TM (w.setCell ⟨b, 9, none⟩ y) b mb l lv ln :=
  ⟨h.head.tie (by omega) (by omega), fun p hp => (h.nodes p hp).off (h.apart hp).symm, h.linksStay (fun _ => by omega) (fun p hp e => absurd e.symm (h.apart hp)), h.mapStay h.mapHead, h.nd, h.keys, h.ok⟩
def putV (v : Vl) (p : Plc) : Plc := { p with v := v }
def putN (y : Bool) (p : Plc) : Plc := { p with noted := y }
/-- The place of block g turned. -/
def atP (l : List Plc) (g : Nat) (f : Plc → Plc) : List Plc := l.map (fun p => if p.b = g then f p else p)
section
variable {f : Plc → Plc}
theorem at_len : (atP l g f).length = l.length := List.length_map _
theorem at_b (hf : ∀ p, (f p).b = p.b) : (atP l g f).map (·.b) = l.map (·.b) := by
  unfold atP
  rw [List.map_map]
  apply List.map_congr_left
  intro p _
  show (if p.b = g then f p else p).b = p.b
  split
  · exact hf p
  · rfl
theorem at_adr (hf : ∀ p, (f p).b = p.b) : (atP l g f).map adr = l.map adr := by
  unfold atP
  rw [List.map_map]
  apply List.map_congr_left
  intro p _
  show adr (if p.b = g then f p else p) = adr p
  unfold adr
  split
  · rw [hf p]
  · rfl
theorem at_k (hf : ∀ p, (f p).k = p.k) : (atP l g f).map (·.k) = l.map (·.k) := by
  unfold atP
  rw [List.map_map]
  apply List.map_congr_left
  intro p _
  show (if p.b = g then f p else p).k = p.k
  split
  · exact hf p
  · rfl
theorem at_find (hf : ∀ p, (f p).b = p.b) (hk : ∀ p, (f p).k = p.k) (k : Vl) : findP (atP l g f) k = findP l k := by
  induction l with
  | nil => rfl
  | cons p l ih =>
    unfold findP atP at *
    rw [List.map_cons, List.find?_cons, List.find?_cons]
    have e1 : (if p.b = g then f p else p).k = p.k := by split; exact hk p; rfl
    have e2 : (if p.b = g then f p else p).b = p.b := by split; exact hf p; rfl
    rw [e1]
    cases decide (p.k = k) with
    | true => dsimp only; rw [Option.map_some, Option.map_some, e2]
    | false => exact ih
theorem at_mem {q : Plc} (hq : q ∈ atP l g f) : ∃ p ∈ l, q = if p.b = g then f p else p := by
  obtain ⟨p, hp, e⟩ := List.mem_map.1 hq
  exact ⟨p, hp, e.symm⟩
end
theorem TM.setVal (h : TM w b mb l lv ln) (hg : g ∈ l.map (·.b)) (v : Vl) (hv : v.In) : TM ((w.setCell ⟨g, 2, none⟩ (.int .u8 (v.kind : Int))).setCell ⟨g, 3, none⟩ (.int .i64 v.n)) b mb (atP l g (putV v)) lv ln := by
  obtain ⟨q, hq, rfl⟩ := List.mem_map.1 hg
  have h1 : Links (w.setCell ⟨q.b, 2, none⟩ (.int .u8 (v.kind : Int))) (endA b :: l.map adr ++ [endA b]) := h.linksStay (fun e => absurd e (h.apart hq)) (fun p hp _ => by omega)
  refine ⟨(h.head.off (h.apart hq)).off (h.apart hq), fun r hr => ?_, ?_, ?_, ?_, ?_, fun r hr => ?_⟩
  · obtain ⟨p, hp, rfl⟩ := at_mem hr
    by_cases e : p.b = q.b
    · rw [if_pos e, ← e]
      exact (h.nodes p hp).val v
    · rw [if_neg e]
      exact ((h.nodes p hp).off (fun x => e x.symm)).off (fun x => e x.symm)
  · rw [at_adr (f := putV v) (fun _ => rfl)]
    exact links_set _ (fun z hz => by
      rcases ends_mem hz with rfl | ⟨p, hp, rfl⟩
      · exact ⟨fun e => by injection e with e1 e2; exact absurd e1 (h.apart hq), fun e => by injection e with e1 e2; exact absurd e1 (h.apart hq)⟩
      · exact ⟨fun e => by injection e with e1 e2; exact absurd e2 (by simp [adr]), fun e => by injection e with e1 e2; exact absurd e2 (by simp [adr])⟩) h1
  · obtain ⟨M, hm, hp⟩ := h.map
    refine ⟨M, ?_, ?_⟩
    · rw [heap_setCell_other _ _ _ _ (h.mapNode hq).symm, heap_setCell_other _ _ _ _ (h.mapNode hq).symm]; exact hm
    · rw [at_len]; exact hp.congr (at_find (fun _ => rfl) (fun _ => rfl))
  · rw [at_b (f := putV v) (fun _ => rfl)]; exact h.nd
  · rw [at_k (f := putV v) (fun _ => rfl)]; exact h.keys
  · obtain ⟨p, hp, rfl⟩ := at_mem hr
    have := h.ok p hp
    split
    · exact ⟨this.1, hv, this.2.2⟩
    · exact this
theorem TM.setNoted (h : TM w b mb l lv ln) (hg : g ∈ l.map (·.b)) (y : Bool) : TM (w.setCell ⟨g, 6, none⟩ (.bool y)) b mb (atP l g (putN y)) lv ln := by
  obtain ⟨q, hq, rfl⟩ := List.mem_map.1 hg
  refine ⟨h.head.off (h.apart hq), fun r hr => ?_, ?_, ?_, ?_, ?_, fun r hr => ?_⟩
  · obtain ⟨p, hp, rfl⟩ := at_mem hr
    by_cases e : p.b = q.b
    · rw [if_pos e, ← e]
      exact (h.nodes p hp).note y
    · rw [if_neg e]
      exact (h.nodes p hp).off (fun x => e x.symm)
  · rw [at_adr (f := putN y) (fun _ => rfl)]
    exact h.linksStay (fun e => absurd e (h.apart hq)) (fun p hp _ => by omega)
  · obtain ⟨M, hm, hp⟩ := h.map
    refine ⟨M, ?_, ?_⟩
    · rw [heap_setCell_other _ _ _ _ (h.mapNode hq).symm]; exact hm
    · rw [at_len]; exact hp.congr (at_find (fun _ => rfl) (fun _ => rfl))
  · rw [at_b (f := putN y) (fun _ => rfl)]; exact h.nd
  · rw [at_k (f := putN y) (fun _ => rfl)]; exact h.keys
  · obtain ⟨p, hp, rfl⟩ := at_mem hr
    have := h.ok p hp
    split <;> exact this
end
end Go.Proofs.YthejclgihhfenaaGreat.Td

/-
  Layer 13: a place untied, a place tied in at the end.
-/
namespace Go.Proofs.YthejclgihhfenaaGreat.Td
open Go Go.RowKit Go.Proofs.YthejclgihhfenaaGreat.Pl Go.Proofs.YthejclgihhfenaaGreat.Tb

/-- What stands ahead of what is behind these; what stands behind what is ahead of these. -/
def prevA (b : Nat) (l : List Plc) : Addr := match l.getLast? with | none => endA b | some q => adr q
def nextA (b : Nat) : List Plc → Addr | [] => endA b | q :: _ => adr q
theorem prev_split (b : Nat) (l : List Plc) : ∃ P, endA b :: l.map adr = P ++ [prevA b l] := by
  unfold prevA
  rcases List.eq_nil_or_concat l with rfl | ⟨L, a, rfl⟩
  · exact ⟨[], rfl⟩
  · refine ⟨endA b :: L.map adr, ?_⟩
    rw [List.concat_eq_append, List.getLast?_append]
    simp
theorem next_split (b : Nat) : ∀ (l : List Plc), ∃ S, l.map adr ++ [endA b] = nextA b l :: S
  | [] => ⟨[], rfl⟩
  | _ :: l => ⟨l.map adr ++ [endA b], rfl⟩
theorem prev_mem (b : Nat) (l : List Plc) : prevA b l ∈ endA b :: l.map adr := by
  obtain ⟨P, h⟩ := prev_split b l
  rw [h]
  exact List.mem_append_right _ (List.mem_singleton.2 rfl)
theorem next_mem (b : Nat) (l : List Plc) : nextA b l ∈ l.map adr ++ [endA b] := by
  obtain ⟨S, h⟩ := next_split b l
  rw [h]
  exact List.mem_cons_self ..
theorem prev_is (b : Nat) (l : List Plc) : prevA b l = endA b ∨ ∃ q ∈ l, prevA b l = adr q := by
  rcases List.mem_cons.1 (prev_mem b l) with h | h
  · exact .inl h
  · obtain ⟨q, hq, e⟩ := List.mem_map.1 h
    exact .inr ⟨q, hq, e.symm⟩
theorem next_is (b : Nat) (l : List Plc) : nextA b l = endA b ∨ ∃ q ∈ l, nextA b l = adr q := by
  cases l with
  | nil => exact .inl rfl
  | cons q l => exact .inr ⟨q, List.mem_cons_self .., rfl⟩
theorem last_ne : ∀ (P : List Addr) (x : Addr), ((P ++ [x]).map (·.block)).Nodup → ∀ z ∈ P, z.block ≠ x.block := by
  intro P x h z hz e
  rw [List.map_append, List.nodup_append] at h
  exact h.2.2 z.block (List.mem_map.2 ⟨z, hz, rfl⟩) x.block (by simp) e
theorem head_ne : ∀ (S : List Addr) (y : Addr), ((y :: S).map (·.block)).Nodup → ∀ z ∈ S, z.block ≠ y.block := by
  intro S y h z hz e
  rw [List.map_cons, List.nodup_cons] at h
  exact h.1 (by rw [← e]; exact List.mem_map.2 ⟨z, hz, rfl⟩)
theorem map_adr_b (l : List Plc) : (l.map adr).map (·.block) = l.map (·.b) := by rw [List.map_map]; rfl
theorem tail_last {α : Type} (P : List α) (x : α) (a : α) (U : List α) (h : a :: U = P ++ [x]) : (P ++ [x]).tail = U ∧ (P ++ [x]).dropLast = P := by
  rw [← h, List.tail_cons, h, List.dropLast_concat]
  exact ⟨rfl, rfl⟩
theorem nd_prev {b : Nat} {l : List Plc} (hnd : (l.map (·.b)).Nodup) (hb : ∀ q ∈ l, q.b ≠ b) : ((endA b :: l.map adr).map (·.block)).Nodup := by
  rw [List.map_cons, map_adr_b, List.nodup_cons]
  refine ⟨fun h => ?_, hnd⟩
  obtain ⟨q, hq, e⟩ := List.mem_map.1 h
  exact hb q hq e
theorem nd_next {b : Nat} {l : List Plc} (hnd : (l.map (·.b)).Nodup) (hb : ∀ q ∈ l, q.b ≠ b) : ((l.map adr ++ [endA b]).map (·.block)).Nodup := by
  rw [List.map_append, map_adr_b, List.nodup_append]
  refine ⟨hnd, by simp, fun x hx y hy e => ?_⟩
  obtain ⟨q, hq, e2⟩ := List.mem_map.1 hx
  have hy : y = b := by simpa [endA] using hy
  exact hb q hq (by rw [e2, e, hy])
/-- Of these all have one place in a block. -/
theorem one_off {b : Nat} {l : List Plc} (hb : ∀ q ∈ l, q.b ≠ b) {z x : Addr} (hz : z = endA b ∨ ∃ p ∈ l, z = adr p) (hx : x = endA b ∨ ∃ p ∈ l, x = adr p) : z.block = x.block → z.off = x.off := by
  intro e
  rcases hz with rfl | ⟨p, hp, rfl⟩
  · rcases hx with rfl | ⟨q, hq, rfl⟩
    · rfl
    · exact absurd e.symm (hb q hq)
  · rcases hx with rfl | ⟨q, hq, rfl⟩
    · exact absurd e (hb p hp)
    · rfl
theorem mem_prev {b : Nat} {l : List Plc} {z : Addr} (hz : z ∈ endA b :: l.map adr) : z = endA b ∨ ∃ p ∈ l, z = adr p := ends_mem (List.mem_append_left _ hz)
theorem mem_next {b : Nat} {l : List Plc} {z : Addr} (hz : z ∈ l.map adr ++ [endA b]) : z = endA b ∨ ∃ p ∈ l, z = adr p := ends_mem (b := b) (by rw [List.cons_append]; exact List.mem_cons_of_mem _ hz)
theorem spot_end {b : Nat} {l : List Plc} {z : Addr} (hz : z = endA b ∨ ∃ p ∈ l, z = adr p) : z = ⟨z.block, z.off, none⟩ := by
  rcases hz with rfl | ⟨p, hp, rfl⟩ <;> rfl
section
variable {w w' : World} {b mb g : Nat} {l l1 l2 : List Plc} {lv ln : Int} {p : Plc}
theorem TM.split (h : TM w b mb (l1 ++ p :: l2) lv ln) : Links w (endA b :: l1.map adr) ∧ Link w (prevA b l1) (adr p) ∧ Link w (adr p) (nextA b l2) ∧ Links w (l2.map adr ++ [endA b]) := by
  obtain ⟨P, hP⟩ := prev_split b l1
  obtain ⟨S, hS⟩ := next_split b l2
  have h0 := h.links
  rw [List.map_append, List.map_cons, show endA b :: (l1.map adr ++ adr p :: l2.map adr) ++ [endA b] = (endA b :: l1.map adr) ++ (adr p :: (l2.map adr ++ [endA b])) from by simp, hP, hS] at h0
  rw [show P ++ [prevA b l1] ++ adr p :: nextA b l2 :: S = P ++ prevA b l1 :: (adr p :: nextA b l2 :: S) from by simp, links_app, links_cons, links_cons] at h0
  rw [hP, hS]
  exact ⟨h0.1, h0.2.1, h0.2.2.1, h0.2.2.2⟩
/-- The world behind both stores that untie a place. -/
def untied (w : World) (x y : Addr) : World := (w.setCell ⟨x.block, x.off + 5, none⟩ (.pointer (some y))).setCell ⟨y.block, y.off + 4, none⟩ (.pointer (some x))
theorem HeadAt.untie {x y : Addr} (h : HeadAt w b mb lv ln) (hb : ∀ q ∈ l, q.b ≠ b) (hx : x = endA b ∨ ∃ q ∈ l, x = adr q) (hy : y = endA b ∨ ∃ q ∈ l, y = adr q) (u v : Value) : HeadAt ((w.setCell ⟨x.block, x.off + 5, none⟩ u).setCell ⟨y.block, y.off + 4, none⟩ v) b mb lv ln := by
  have h1 : HeadAt (w.setCell ⟨x.block, x.off + 5, none⟩ u) b mb lv ln := by
    rcases hx with rfl | ⟨q, hq, rfl⟩
    · exact h.tie (by simp [endA]) (by simp [endA])
    · exact h.off (hb q hq)
  rcases hy with rfl | ⟨q, hq, rfl⟩
  · exact h1.tie (by simp [endA]) (by simp [endA])
  · exact h1.off (hb q hq)
theorem NodeAt.untie {x y : Addr} {q : Plc} (h : NodeAt w q) (hq : q.b ≠ b) (hx : x = endA b ∨ ∃ q ∈ l, x = adr q) (hy : y = endA b ∨ ∃ q ∈ l, y = adr q) (u v : Value) : NodeAt ((w.setCell ⟨x.block, x.off + 5, none⟩ u).setCell ⟨y.block, y.off + 4, none⟩ v) q := by
  have h1 : NodeAt (w.setCell ⟨x.block, x.off + 5, none⟩ u) q := by
    rcases hx with rfl | ⟨r, hr, rfl⟩
    · exact h.off (Ne.symm hq)
    · exact h.tie (.inr rfl)
  rcases hy with rfl | ⟨r, hr, rfl⟩
  · exact h1.off (Ne.symm hq)
  · exact h1.tie (.inl rfl)
theorem split_nd (h : TM w b mb (l1 ++ p :: l2) lv ln) : (l1.map (·.b)).Nodup ∧ (l2.map (·.b)).Nodup ∧ (∀ q ∈ l1, ∀ r ∈ l2, q.b ≠ r.b) ∧ (∀ q ∈ l1, q.b ≠ p.b) ∧ (∀ q ∈ l2, q.b ≠ p.b) := by
  have h0 := h.nd
  rw [List.map_append, List.map_cons, List.nodup_append, List.nodup_cons] at h0
  obtain ⟨h1, ⟨h2, h3⟩, h4⟩ := h0
  refine ⟨h1, h3, fun q hq r hr e => ?_, fun q hq e => ?_, fun q hq e => ?_⟩
  · exact h4 q.b (List.mem_map.2 ⟨q, hq, rfl⟩) r.b (List.mem_cons_of_mem _ (List.mem_map.2 ⟨r, hr, rfl⟩)) e
  · exact h4 q.b (List.mem_map.2 ⟨q, hq, rfl⟩) p.b (List.mem_cons_self ..) e
  · exact h2 (by rw [← e]; exact List.mem_map.2 ⟨q, hq, rfl⟩)
theorem TM.untie (h : TM w b mb (l1 ++ p :: l2) lv ln) : Links (untied w (prevA b l1) (nextA b l2)) (endA b :: (l1 ++ l2).map adr ++ [endA b]) := by
  obtain ⟨i1, i2, i3, i4⟩ := h.split
  obtain ⟨P, hP⟩ := prev_split b l1
  obtain ⟨S, hS⟩ := next_split b l2
  obtain ⟨n1, n2, n3, _, _⟩ := split_nd h
  have hb : ∀ q ∈ l1 ++ p :: l2, q.b ≠ b := fun q hq => h.apart hq
  have hb1 : ∀ q ∈ l1, q.b ≠ b := fun q hq => hb q (List.mem_append_left _ hq)
  have hb2 : ∀ q ∈ l2, q.b ≠ b := fun q hq => hb q (List.mem_append_right _ (List.mem_cons_of_mem _ hq))
  have wide1 : ∀ {z : Addr}, (z = endA b ∨ ∃ q ∈ l1, z = adr q) → (z = endA b ∨ ∃ q ∈ l1 ++ p :: l2, z = adr q) := fun hz => hz.imp id (fun ⟨q, hq, e⟩ => ⟨q, List.mem_append_left _ hq, e⟩)
  have wide2 : ∀ {z : Addr}, (z = endA b ∨ ∃ q ∈ l2, z = adr q) → (z = endA b ∨ ∃ q ∈ l1 ++ p :: l2, z = adr q) := fun hz => hz.imp id (fun ⟨q, hq, e⟩ => ⟨q, List.mem_append_right _ (List.mem_cons_of_mem _ hq), e⟩)
  have hx := wide1 (prev_is b l1)
  have hy := wide2 (next_is b l2)
  obtain ⟨t1, t2⟩ := tail_last _ _ _ _ hP
  rw [show endA b :: (l1 ++ l2).map adr ++ [endA b] = (endA b :: l1.map adr) ++ (l2.map adr ++ [endA b]) from by simp, hP, hS, List.append_assoc, List.singleton_append, links_app]
  rw [hP] at i1
  rw [hS] at i4
  have mU : ∀ z ∈ P ++ [prevA b l1], z = endA b ∨ ∃ q ∈ l1, z = adr q := fun z hz => mem_prev (by rw [hP]; exact hz)
  have mV : ∀ z ∈ nextA b l2 :: S, z = endA b ∨ ∃ q ∈ l2, z = adr q := fun z hz => mem_next (by rw [hS]; exact hz)
  have oU : ∀ x', (x' = endA b ∨ ∃ q ∈ l1 ++ p :: l2, x' = adr q) → ∀ z ∈ P ++ [prevA b l1], z.block = x'.block → z.off = x'.off := fun x' hx' z hz => one_off hb (wide1 (mU z hz)) hx'
  have oV : ∀ x', (x' = endA b ∨ ∃ q ∈ l1 ++ p :: l2, x' = adr q) → ∀ z ∈ nextA b l2 :: S, z.block = x'.block → z.off = x'.off := fun x' hx' z hz => one_off hb (wide2 (mV z hz)) hx'
  refine ⟨?_, ⟨?_, ?_⟩, ?_⟩
  · refine links_set4 _ (oU _ hy) ?_ (links_set5 _ (oU _ hx) ?_ i1)
    · rw [t1]
      intro z hz e
      obtain ⟨q, hq, rfl⟩ := List.mem_map.1 hz
      rcases next_is b l2 with h1 | ⟨r, hr, h1⟩
      · rw [h1] at e; exact hb1 q hq e
      · rw [h1] at e; exact n3 q hq r hr e
    · rw [t2]
      exact last_ne P _ (by rw [← hP]; exact nd_prev n1 hb1)
  · refine cell_keep (cell_put i2.1) (addr_ne45 (one_off hb hx hy))
  · exact cell_put (cell_keep i3.2 (addr_ne54 (one_off hb hy hx)))
  · refine links_set4 _ (oV _ hy) ?_ (links_set5 _ (oV _ hx) ?_ i4)
    · rw [List.tail_cons]
      exact head_ne S _ (by rw [← hS]; exact nd_next n2 hb2)
    · rw [← hS, List.dropLast_concat]
      intro z hz e
      obtain ⟨q, hq, rfl⟩ := List.mem_map.1 hz
      rcases prev_is b l1 with h1 | ⟨r, hr, h1⟩
      · rw [h1] at e; exact hb2 q hq e
      · rw [h1] at e; exact n3 r hr q hq e.symm
end
end Go.Proofs.YthejclgihhfenaaGreat.Td

/-
  Lists of numbers in memory: the type's numbers.
-/
namespace Go.Proofs.YthejclgihhfenaaGreat.Pl
open Go Go.RowKit
theorem infoInt : (Tryz.prog.info? 3).map (fun i => (i.zero, i.size, i.bytes)) = some (some (.int .i64 0), 1, 8) := by kernel_rfl
theorem elemInts : Tryz.prog.elem 126 = 3 := by kernel_rfl
theorem sizeInt (w : World) : (Go.sizeOf 3).run Tryz.prog w = .ok 1 w := by simp
end Go.Proofs.YthejclgihhfenaaGreat.Pl
