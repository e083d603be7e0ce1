import Derived.Test.YthejclgihhfenaaGreatCm10
/-
  Layer 13: what holds of the places' list beside what lies in memory: how many live, how long, who is noted. Nothing of the program.
-/
namespace Go.Proofs.YthejclgihhfenaaGreat.Td
open Go Go.RowKit Go.Proofs.YthejclgihhfenaaGreat.Pl Go.Proofs.YthejclgihhfenaaGreat.Tb

theorem put_not' : ∀ (t : Tbl) (k v : Vl), k ∉ t.map (·.1) → putT t k v = t
  | [], _, _, _ => rfl
  | p :: t, k, v, h => by
    show (if p.1 = k then (p.1, v) else p) :: putT t k v = _
    rw [if_neg (fun e => h (by rw [← e]; exact List.mem_cons_self ..)), put_not' t k v (fun hm => h (List.mem_cons_of_mem _ hm))]
theorem at_other {l : List Plc} {g : Nat} {f : Plc → Plc} (h : ∀ q ∈ l, q.b ≠ g) : atP l g f = l := by
  induction l with
  | nil => rfl
  | cons q l ih =>
    show (if q.b = g then f q else q) :: atP l g f = q :: l
    rw [if_neg (h q (List.mem_cons_self ..)), ih (fun r hr => h r (List.mem_cons_of_mem _ hr))]
theorem at_split {l1 l2 : List Plc} {p : Plc} (hnd : ((l1 ++ p :: l2).map (·.b)).Nodup) (f : Plc → Plc) : atP (l1 ++ p :: l2) p.b f = l1 ++ f p :: l2 := by
  rw [List.map_append, List.map_cons, List.nodup_append, List.nodup_cons] at hnd
  obtain ⟨_, ⟨h2, _⟩, h4⟩ := hnd
  have e1 : atP l1 p.b f = l1 := at_other (fun q hq e => h4 q.b (List.mem_map.2 ⟨q, hq, rfl⟩) p.b (List.mem_cons_self ..) e)
  have e2 : atP l2 p.b f = l2 := at_other (fun q hq e => h2 (by rw [← e]; exact List.mem_map.2 ⟨q, hq, rfl⟩))
  unfold atP at *
  rw [List.map_append, List.map_cons, e1, e2, if_pos rfl]
theorem put_split {l1 l2 : List Plc} {p : Plc} (hk : ((l1 ++ p :: l2).map (·.k)).Nodup) (v : Vl) : putT (tblOf (l1 ++ p :: l2)) p.k v = tblOf (l1 ++ putV v p :: l2) := by
  rw [List.map_append, List.map_cons, List.nodup_append, List.nodup_cons] at hk
  obtain ⟨_, ⟨h2, _⟩, h4⟩ := hk
  have e1 : putT (tblOf l1) p.k v = tblOf l1 := put_not' _ _ _ (by
    rw [tbl_keys]
    intro hm
    exact h4 p.k hm p.k (List.mem_cons_self ..) rfl)
  have e2 : putT (tblOf l2) p.k v = tblOf l2 := put_not' _ _ _ (by rw [tbl_keys]; exact h2)
  unfold tblOf putT at *
  rw [List.map_append, List.map_cons, List.map_append, List.map_cons, e1, e2, List.map_append, List.map_cons]
  show _ ++ (if p.k = p.k then (p.k, v) else pv p) :: _ = _
  rw [if_pos rfl]
  rfl
theorem noted_tbl (l : List Plc) (g : Nat) (y : Bool) : tblOf (atP l g (putN y)) = tblOf l := by
  unfold tblOf atP
  rw [List.map_map]
  apply List.map_congr_left
  intro p _
  show pv (if p.b = g then putN y p else p) = pv p
  split <;> rfl
theorem count_split (l1 l2 : List Plc) (p : Plc) : countT (tblOf (l1 ++ p :: l2)) = countT (tblOf l1) + (if p.v.kind = 0 then 0 else 1) + countT (tblOf l2) := by
  unfold countT tblOf
  rw [List.map_append, List.map_cons, List.filter_append, List.filter_cons, List.length_append]
  by_cases h : p.v.kind = 0
  · rw [if_neg (by unfold alive pv; simp [h]), if_pos h]
    omega
  · rw [if_pos (by unfold alive pv; simp [h]), if_neg h, List.length_cons]
    omega
theorem count_le (l : List Plc) : countT (tblOf l) ≤ l.length := by
  unfold countT
  have := List.length_filter_le alive (tblOf l)
  unfold tblOf at *
  rwa [List.length_map] at this
/-- Who is noted; the place of block g may be dead and not noted. -/
structure NI (l : List Plc) (fd : List Nat) (g : Option Nat) : Prop where
  nodup : fd.Nodup
  there : ∀ x ∈ fd, x ∈ l.map (·.b)
  noted : ∀ p ∈ l, p.noted = true ↔ p.b ∈ fd
  dead : ∀ p ∈ l, some p.b ≠ g → p.v.kind = 0 → p.noted = true
structure TI (l : List Plc) (fd : List Nat) (lv ln : Int) : Prop where
  live : lv = countT (tblOf l)
  len : ∃ n : Nat, ln = n ∧ BorderT (tblOf l) n
  notes : NI l fd none
theorem nodup_sub : ∀ (a b : List Nat), a.Nodup → (∀ x ∈ a, x ∈ b) → a.length ≤ b.length
  | [], _, _, _ => Nat.zero_le _
  | x :: a, b, h, hs => by
    have h1 := List.nodup_cons.1 h
    have h2 := nodup_sub a (b.erase x) h1.2 (fun y hy => (List.mem_erase_of_ne (fun e => h1.1 (by rw [← e]; exact hy))).2 (hs y (List.mem_cons_of_mem _ hy)))
    rw [List.length_erase_of_mem (hs x (List.mem_cons_self ..))] at h2
    have := List.length_pos_of_mem (hs x (List.mem_cons_self ..))
    rw [List.length_cons]
    omega
theorem NI.few {l : List Plc} {fd : List Nat} {g : Option Nat} (h : NI l fd g) : fd.length ≤ l.length := by
  have := nodup_sub fd (l.map (·.b)) h.nodup h.there
  rwa [List.length_map] at this
theorem border_up {t : Tbl} {n : Nat} (h : BorderT t n) : UpT t n := h.1
theorem up_put {t : Tbl} {n : Nat} {k v : Vl} (h : UpT t n) (hv : v.kind ≠ 0) : UpT (putT t k v) n := by
  intro i hi
  rw [get_put]
  split
  · exact hv
  · exact h i hi
theorem border_same {t : Tbl} {n : Nat} {k v : Vl} (h : BorderT t n) (hs : (getT t k).kind = 0 ↔ v.kind = 0) : BorderT (putT t k v) n := by
  constructor
  · intro i hi
    rw [get_put]
    split
    · rename_i h1
      have := h.1 i hi
      rw [h1.1] at this
      exact fun e => this (hs.2 e)
    · exact h.1 i hi
  · rw [get_put]
    split
    · rename_i h1
      have := h.2
      rw [h1.1] at this
      exact hs.1 this
    · exact h.2
theorem num_inj {a b : Int} (h : numV a = numV b) : a = b := by
  unfold numV at h
  rw [Vl.mk.injEq] at h
  exact h.2
theorem border_cut {t : Tbl} {n : Nat} {k : Vl} (h : BorderT t n) (hh : hasT t k = true) : ∃ m : Nat, cutL k n = m ∧ BorderT (putT t k nilV) m := by
  by_cases hc : k.kind = 3 ∧ 1 ≤ k.n ∧ k.n ≤ n
  · obtain ⟨kk, kn⟩ := k
    obtain ⟨h1, h2, h3⟩ := hc
    dsimp only at h1 h2 h3
    subst h1
    refine ⟨(kn - 1).toNat, ?_, ?_, ?_⟩
    · unfold cutL
      rw [if_pos ⟨rfl, h2, h3⟩]
      show kn - 1 = _
      omega
    · intro i hi
      rw [get_put, if_neg (fun e => by have := num_inj (show numV ((i : Int) + 1) = numV kn from e.1); omega)]
      exact h.1 i (by omega)
    · rw [get_put, if_pos ⟨by show numV _ = numV kn; rw [show ((kn - 1).toNat : Int) + 1 = kn by omega], hh⟩]
      rfl
  · refine ⟨n, by unfold cutL; rw [if_neg hc], fun i hi => ?_, ?_⟩
    · rw [get_put, if_neg (fun e => hc ⟨by rw [← e.1]; rfl, by rw [← e.1]; show 1 ≤ (i : Int) + 1; omega, by rw [← e.1]; show (i : Int) + 1 ≤ n; omega⟩)]
      exact h.1 i hi
    · rw [get_put]
      split
      · rfl
      · exact h.2
section
variable {l l1 l2 : List Plc} {fd : List Nat} {lv ln : Int} {p : Plc} {g : Option Nat}
theorem get_mem (hk : (l.map (·.k)).Nodup) (hp : p ∈ l) : hasT (tblOf l) p.k = true ∧ getT (tblOf l) p.k = p.v ∧ findP l p.k = some p.b := by
  rcases find_cases l p.k with ⟨_, _, _, h4⟩ | ⟨q, hq, h1, h2, h3, h4⟩
  · exact absurd rfl (h4 p hp)
  · obtain rfl := nodup_one hk hq hp h1
    exact ⟨h3, h4, h2⟩
/-- The notes where a place's value turned: it lives, or it was dead and noted. -/
theorem NI.value (h : NI (l1 ++ p :: l2) fd (some p.b)) (v : Vl) (hv : v.kind = 0 → p.noted = true) (hb : ∀ q ∈ l1 ++ l2, q.b ≠ p.b) : NI (l1 ++ putV v p :: l2) fd none where
  nodup := h.nodup
  there x hx := by
    have := h.there x hx
    rw [List.map_append, List.map_cons] at this ⊢
    exact this
  noted q hq := by
    rcases List.mem_append.1 hq with hq | hq
    · exact h.noted q (List.mem_append_left _ hq)
    · rcases List.mem_cons.1 hq with rfl | hq
      · exact h.noted p (by simp)
      · exact h.noted q (List.mem_append_right _ (List.mem_cons_of_mem _ hq))
  dead q hq _ h0 := by
    rcases List.mem_append.1 hq with hq | hq
    · exact h.dead q (List.mem_append_left _ hq) (fun e => hb q (List.mem_append_left _ hq) (Option.some.inj e)) h0
    · rcases List.mem_cons.1 hq with rfl | hq
      · exact hv h0
      · exact h.dead q (List.mem_append_right _ (List.mem_cons_of_mem _ hq)) (fun e => hb q (List.mem_append_right _ hq) (Option.some.inj e)) h0
/-- The notes where a place that wasn't noted is noted. -/
theorem NI.note (h : NI (l1 ++ p :: l2) fd (some p.b)) (v : Vl) (hn : p.noted = false) (hb : ∀ q ∈ l1 ++ l2, q.b ≠ p.b) : NI (l1 ++ putN true (putV v p) :: l2) (fd ++ [p.b]) none where
  nodup := by
    rw [List.nodup_append]
    refine ⟨h.nodup, by simp, fun x hx y hy e => ?_⟩
    rw [List.mem_singleton.1 hy] at e
    have := (h.noted p (by simp)).2 (by rw [← e]; exact hx)
    rw [hn] at this
    cases this
  there x hx := by
    rw [List.map_append, List.map_cons]
    rcases List.mem_append.1 hx with hx | hx
    · have := h.there x hx
      rw [List.map_append, List.map_cons] at this
      exact this
    · rw [List.mem_singleton.1 hx]
      exact List.mem_append_right _ (List.mem_cons_self ..)
  noted q hq := by
    have hx : ∀ q, q ∈ l1 ++ l2 → (q.noted = true ↔ q.b ∈ fd ++ [p.b]) := fun q hq => by
      rw [List.mem_append, List.mem_singleton]
      have h1 := h.noted q (by rcases List.mem_append.1 hq with h | h <;> simp [h])
      rw [h1]
      exact ⟨.inl, fun h => h.elim id (fun e => absurd e (hb q hq))⟩
    rcases List.mem_append.1 hq with hq | hq
    · exact hx q (List.mem_append_left _ hq)
    · rcases List.mem_cons.1 hq with rfl | hq
      · exact ⟨fun _ => List.mem_append_right _ (List.mem_singleton.2 rfl), fun _ => rfl⟩
      · exact hx q (List.mem_append_right _ hq)
  dead q hq _ h0 := by
    rcases List.mem_append.1 hq with hq | hq
    · exact h.dead q (List.mem_append_left _ hq) (fun e => hb q (List.mem_append_left _ hq) (Option.some.inj e)) h0
    · rcases List.mem_cons.1 hq with rfl | hq
      · rfl
      · exact h.dead q (List.mem_append_right _ (List.mem_cons_of_mem _ hq)) (fun e => hb q (List.mem_append_right _ hq) (Option.some.inj e)) h0
end
end Go.Proofs.YthejclgihhfenaaGreat.Td

/-
  Layer 13: the developers' table: a place's value.
-/
namespace Go.Proofs.YthejclgihhfenaaGreat.Td
open Go Go.RowKit Go.Proofs.YthejclgihhfenaaGreat.Pl Go.Proofs.YthejclgihhfenaaGreat.Tb

/-- What a call may turn of a table: its head, its faded row, its places. -/
def tableG (b : Nat) (vf : Value) (l : List Plc) : List Nat := b :: (own vf ++ l.map (·.b))
def NewOwn (w : World) (vf vf' : Value) : Prop := vf'.ownBlock = vf.ownBlock ∨ ∃ j, vf'.ownBlock = some j ∧ w.heap.size ≤ j
def PutSays (b mb : Nat) (l : List Plc) (vf : Value) (k v : Vl) (w : World) (e : Ending) (w' : World) : Prop :=
  e = .returned (.tuple #[]) ∧ ∃ l' vf' fd' lv' ln', TM w' b mb l' lv' ln' ∧ FAt w' b vf' fd' ∧ TI l' fd' lv' ln' ∧ tblOf l' = putT (tblOf l) k v ∧ l'.map (·.b) = l.map (·.b) ∧ Turns (tableG b vf l) w w' ∧ NewOwn w vf vf'
section
variable {w w' : World} {b mb g : Nat} {l l1 l2 : List Plc} {lv ln : Int} {p : Plc} {vf : Value} {fd G : List Nat}
theorem turns_one {G : List Nat} (hg : g ∈ G) (i : Nat) (x : Value) : Turns G w (w.setCell ⟨g, i, none⟩ x) :=
  ⟨rfl, rfl, rfl, by simp, fun k _ hn => heap_setCell_other _ _ _ _ (fun e => hn ((show k = g from e) ▸ hg))⟩
theorem FAt.store2 (h : FAt w b vf fd) (hT : TM w b mb l lv ln) (hp : p ∈ l) (i j : Nat) (x y : Value) : FAt ((w.setCell ⟨p.b, i, none⟩ x).setCell ⟨p.b, j, none⟩ y) b vf fd :=
  h.turns (G := [p.b]) ((turns_one (List.mem_singleton.2 rfl) i x).trans (turns_one (List.mem_singleton.2 rfl) j y) (fun _ h => .inl h)) (fun hm => hT.apart hp (List.mem_singleton.1 hm).symm) (fun _ hk hm => (h.apart hT hk).2.2 p hp (List.mem_singleton.1 hm))
theorem Head9.wide (h : Head9 b w w') : Turns (tableG b vf l) w w' := h.turns.mono (fun x hx => by rw [List.mem_singleton.1 hx]; exact List.mem_cons_self ..)
set_option maxHeartbeats 4000000 in
set_option maxRecDepth 100000 in
theorem put_fn (h : TM w b mb (l1 ++ p :: l2) lv ln) (hf : FAt w b vf fd) (hlv : lv = countT (tblOf (l1 ++ p :: l2))) (hln : ∃ n : Nat, ln = n ∧ BorderT (tblOf (l1 ++ p :: l2)) n) (hni : NI (l1 ++ p :: l2) fd (some p.b)) (v : Vl) (hv : v.In) (hvn : v.kind = 0 → v = nilV) (hfr : p.v.kind = 0 → v.kind = 0 → p.noted = true) (hl : (l1 ++ p :: l2).length ≤ 65536) :
    Calls Tryz.prog 105 #[.pointer (some ⟨b, 0, none⟩), .pointer (some ⟨p.b, 0, none⟩), v.val] w (PutSays b mb (l1 ++ p :: l2) vf p.k v w) := by
  obtain ⟨n, rfl, hbd⟩ := hln
  have hp : p ∈ l1 ++ p :: l2 := by simp
  have hx := new_block w (.cells #[.int .u8 (v.kind : Int), .int .i64 v.n] 37)
  have y0 := cell_of hx 0 _ rfl
  have y1 := cell_of hx 1 _ rfl
  have hb := (Below.refl w.heap.size w).alloc (Nat.le_refl _) (.cells #[.int .u8 (v.kind : Int), .int .i64 v.n] 37)
  have h0 := h.below hb
  have hf0 := hf.below hb
  have q2 := (h0.nodes p hp).v0
  have q3 := (h0.nodes p hp).v1
  have z2 := (h0.nodes p hp).shape.free 2
  have z3 := (h0.nodes p hp).shape.free 3
  have hT1 := h0.setVal (List.mem_map.2 ⟨p, hp, rfl⟩) v hv
  rw [at_split h.nd] at hT1
  have hF1 := hf0.store2 h0 hp 2 3 (.int .u8 (v.kind : Int)) (.int .i64 v.n)
  have hW1 : Turns (tableG b vf (l1 ++ p :: l2)) w (((w.alloc (.cells #[.int .u8 (v.kind : Int), .int .i64 v.n] 37)).setCell ⟨p.b, 2, none⟩ (.int .u8 (v.kind : Int))).setCell ⟨p.b, 3, none⟩ (.int .i64 v.n)) := by
    have hm : p.b ∈ tableG b vf (l1 ++ p :: l2) := by unfold tableG; simp
    exact ((Turns.of_below hb).trans (turns_one hm 2 _) (fun _ h => .inl h)).trans (turns_one hm 3 _) (fun _ h => .inl h)
  have hput := put_split h.keys v
  have hnb0 := split_nd h
  have hnb : ∀ q ∈ l1 ++ l2, q.b ≠ p.b := fun q hq => (List.mem_append.1 hq).elim (hnb0.2.2.2.1 q) (hnb0.2.2.2.2 q)
  have hgm := get_mem h.keys hp
  have hcl := count_le (l1 ++ p :: l2)
  have hcs := count_split l1 l2 p
  have hcs2 := count_split l1 l2 (putV v p)
  have HT1 := Lib.hid hT1
  have HF1 := Lib.hid hF1
  have HW1 := Lib.hid hW1
  have HPUT := Lib.hid hput
  have HNB := Lib.hid hnb
  have HGM := Lib.hid hgm
  have HNI := Lib.hid hni
  have HBD := Lib.hid hbd
  have HFR := Lib.hid hfr
  have HVN := Lib.hid hvn
  have HKI := Lib.hid (h.ok p hp).1
  have HCS := Lib.hid (And.intro hcs hcs2)
  have HLEN := Lib.hid hl
  have hlv0 : 0 ≤ lv ∧ lv ≤ 65536 := by omega
  have HLV := Lib.hid hlv
  have e1 := IntWalk.i64_in (lv + 1) (by omega)
  have e2 := IntWalk.i64_in (lv - 1) (by omega)
  have hd := dead_fn p.b p.v.kind _ q2
  have hvk : (putV v p).v = v := rfl
  clear hnb0 hx hb h0 hf0 hT1 hF1 hW1 hput hnb hgm hcl hcs hcs2 h hf hni hbd hfr hvn hl hlv0 hlv hp hv hvk
  obtain ⟨vk, vn⟩ := v
  dsimp only at *
  show Calls Tryz.prog 105 #[.pointer (some ⟨b, 0, none⟩), .pointer (some ⟨p.b, 0, none⟩), .agg #[.int .u8 (vk : Int), .int .i64 vn]] w _
  go_enter Tryz.func105, Tryz.ntmps105
  go_wp2_with fail
  refine hd.mono ?_
  rintro e w1 ⟨rfl, rfl⟩
  clear hd
  go_upto_region 3 with fail
  generalize hW : (((w.alloc (.cells #[.int .u8 (vk : Int), .int .i64 vn] 37)).setCell ⟨p.b, 2, none⟩ (.int .u8 (vk : Int))).setCell ⟨p.b, 3, none⟩ (.int .i64 vn)) = w2 at *
  clear hW y0 y1 q2 q3 z2 z3
  have q2 : w2.cell? ⟨p.b, 2, none⟩ = some (.int .u8 (vk : Int)) := (HT1.out.nodes (putV ⟨vk, vn⟩ p) (by simp)).v0
  have hd := dead_fn p.b vk w2 q2
  have x10 := HT1.out.head.live
  have z10 := HT1.out.head.shape.free 10
  have HD := Lib.hid hd
  clear hd
  by_cases c0 : p.v.kind = 0
  · by_cases c1 : vk = 0
    · rw [decide_eq_true c0]
      have HC := Lib.hid (And.intro c0 c1)
      have hd := HD.out
      rw [decide_eq_true c1] at hd
      clear c0 c1
      go_wp2_with fail
      refine hd.mono ?_
      rintro e w3 ⟨rfl, rfl⟩
      clear hd
      go_wp2_with fail
      refine bodyPost_end (v := .tuple #[]) (by simp [results, Tryz.results105, go_sem]) rfl ?_
      refine ⟨rfl, l1 ++ putV ⟨vk, vn⟩ p :: l2, vf, fd, lv, n, HT1.out, HF1.out, ⟨?_, ⟨n, rfl, ?_⟩, HNI.out.value _ (fun h => HFR.out HC.out.1 h) HNB.out⟩, HPUT.out.symm, by simp [putV], HW1.out, .inl rfl⟩
      · have h1 := HCS.out.1
        have h2 := HCS.out.2
        have h3 := HLV.out
        rw [if_pos HC.out.1] at h1
        rw [if_pos (show (putV ⟨vk, vn⟩ p).v.kind = 0 from HC.out.2)] at h2
        omega
      · rw [← HPUT.out]
        exact border_same HBD.out (by rw [HGM.out.2.1]; exact ⟨fun _ => HC.out.2, fun _ => HC.out.1⟩)
    · rw [decide_eq_true c0]
      have HC := Lib.hid (And.intro c0 c1)
      have hd := HD.out
      rw [decide_eq_false c1] at hd
      clear c0 c1
      go_wp2_with fail
      refine hd.mono ?_
      rintro e w3 ⟨rfl, rfl⟩
      clear hd
      go_upto_region 5 with fail
      have hT2 := HT1.out.setLive (lv + 1)
      have h9 := HW1.out.trans (Head9.set (b := b) (w := w3) 10 (by decide) (.int .i64 (lv + 1))).turns (fun x hx => .inl (by rw [List.mem_singleton.1 hx]; exact List.mem_cons_self ..))
      have hF2 := HF1.out.head9 HT1.out (Head9.set (b := b) (w := w3) 10 (by decide) (.int .i64 (lv + 1)))
      generalize w3.setCell ⟨b, 10, none⟩ (.int .i64 (lv + 1)) = w4 at *
      have hup : UpT (tblOf (l1 ++ putV ⟨vk, vn⟩ p :: l2)) n := by
        rw [← HPUT.out]
        exact up_put HBD.out.1 HC.out.2
      have c := lengthen_fn n hT2 hup (by have := HLEN.out; simp at this ⊢; omega)
      have H9 := Lib.hid h9
      have HT2 := Lib.hid hT2
      have HF2 := Lib.hid hF2
      clear hT2 hF2 h9 hup x10 z10 q2
      go_wp2_with fail
      refine c.mono ?_
      rintro e w5 ⟨rfl, n5, hb5, hT5, h95⟩
      clear c
      have HR := Lib.hid (And.intro hb5 (And.intro hT5 h95))
      clear hb5 hT5 h95
      go_wp2_with fail
      refine bodyPost_end (v := .tuple #[]) (by simp [results, Tryz.results105, go_sem]) rfl ?_
      refine ⟨rfl, l1 ++ putV ⟨vk, vn⟩ p :: l2, vf, fd, lv + 1, n5, HR.out.2.1, HF2.out.head9 HT2.out HR.out.2.2, ⟨?_, ⟨n5, rfl, HR.out.1⟩, HNI.out.value _ (fun h => absurd h HC.out.2) HNB.out⟩, HPUT.out.symm, by simp [putV], H9.out.trans HR.out.2.2.turns (fun x hx => .inl (by rw [List.mem_singleton.1 hx]; exact List.mem_cons_self ..)), .inl rfl⟩
      have h1 := HCS.out.1
      have h2 := HCS.out.2
      have h3 := HLV.out
      rw [if_pos HC.out.1] at h1
      rw [if_neg (show ¬ (putV ⟨vk, vn⟩ p).v.kind = 0 from HC.out.2)] at h2
      omega
  · by_cases c1 : vk = 0
    · rw [decide_eq_false c0]
      have HC := Lib.hid (And.intro c0 c1)
      have hd := HD.out
      rw [decide_eq_true c1] at hd
      clear c0 c1
      go_wp2_with fail
      refine hd.mono ?_
      rintro e w3 ⟨rfl, rfl⟩
      clear hd
      go_upto_region 8 with fail
      have hT2 := HT1.out.setLive (lv - 1)
      have h9 := HW1.out.trans (Head9.set (b := b) (w := w3) 10 (by decide) (.int .i64 (lv - 1))).turns (fun x hx => .inl (by rw [List.mem_singleton.1 hx]; exact List.mem_cons_self ..))
      have hF2 := HF1.out.head9 HT1.out (Head9.set (b := b) (w := w3) 10 (by decide) (.int .i64 (lv - 1)))
      generalize w3.setCell ⟨b, 10, none⟩ (.int .i64 (lv - 1)) = w4 at *
      have k0 : w4.cell? ⟨p.b, 0, none⟩ = some (.int .u8 (p.k.kind : Int)) := (hT2.nodes (putV ⟨vk, vn⟩ p) (by simp)).k0
      have k1 : w4.cell? ⟨p.b, 1, none⟩ = some (.int .i64 p.k.n) := (hT2.nodes (putV ⟨vk, vn⟩ p) (by simp)).k1
      have c : Calls Tryz.prog 131 #[.pointer (some ⟨b, 0, none⟩), .agg #[.int .u8 (p.k.kind : Int), .int .i64 p.k.n]] w4 _ := shorten_fn hT2 p.k HKI.out
      have H9 := Lib.hid h9
      have HT2 := Lib.hid hT2
      have HF2 := Lib.hid hF2
      clear hT2 hF2 h9 x10 z10 q2
      go_wp2_with fail
      refine c.mono ?_
      rintro e w5 ⟨rfl, hT5, h95⟩
      clear c k0 k1
      have hF5 := HF2.out.head9 HT2.out h95
      have H95 := Lib.hid (H9.out.trans h95.turns (fun x hx => .inl (by rw [List.mem_singleton.1 hx]; exact List.mem_cons_self ..)))
      have hbc := border_cut HBD.out HGM.out.1
      obtain ⟨m, hm, hbm⟩ := hbc
      rw [hm] at hT5
      have HBM := Lib.hid hbm
      clear hm hbm h95
      have hcount : lv - 1 = countT (tblOf (l1 ++ putV ⟨vk, vn⟩ p :: l2)) := by
        have h1 := HCS.out.1
        have h2 := HCS.out.2
        have h3 := HLV.out
        rw [if_neg HC.out.1] at h1
        rw [if_pos (show (putV ⟨vk, vn⟩ p).v.kind = 0 from HC.out.2)] at h2
        omega
      have hnil : putT (tblOf (l1 ++ p :: l2)) p.k nilV = putT (tblOf (l1 ++ p :: l2)) p.k ⟨vk, vn⟩ := by rw [HVN.out HC.out.2]
      have HCN := Lib.hid (And.intro hcount hnil)
      have hpm : putV ⟨vk, vn⟩ p ∈ l1 ++ putV ⟨vk, vn⟩ p :: l2 := by simp
      cases hnt : p.noted with
      | true =>
        have c := note_old hT5 hpm hnt
        have c : Calls Tryz.prog 132 #[.pointer (some ⟨b, 0, none⟩), .pointer (some ⟨p.b, 0, none⟩)] w5 _ := c
        have HT5 := Lib.hid hT5
        have HF5 := Lib.hid hF5
        have HNT := Lib.hid hnt
        clear hT5 hF5 hnt hpm hcount hnil
        go_wp2_with fail
        refine c.mono ?_
        rintro e w6 ⟨rfl, rfl⟩
        clear c
        go_wp2_with fail
        refine bodyPost_end (v := .tuple #[]) (by simp [results, Tryz.results105, go_sem]) rfl ?_
        exact ⟨rfl, l1 ++ putV ⟨vk, vn⟩ p :: l2, vf, fd, lv - 1, m, HT5.out, HF5.out, ⟨HCN.out.1, ⟨m, rfl, by rw [← HPUT.out, ← HCN.out.2]; exact HBM.out⟩, HNI.out.value _ (fun _ => HNT.out) HNB.out⟩, HPUT.out.symm, by simp [putV], H95.out, .inl rfl⟩
      | false =>
        have c := note_new hT5 hpm hnt hF5 (by have h1 := HNI.out.few; have h2 := HLEN.out; omega)
        have c : Calls Tryz.prog 132 #[.pointer (some ⟨b, 0, none⟩), .pointer (some ⟨p.b, 0, none⟩)] w5 _ := c
        have HT5 := Lib.hid hT5
        have HF5 := Lib.hid hF5
        have HNT := Lib.hid hnt
        clear hT5 hF5 hnt hpm hcount hnil
        go_wp2_with fail
        refine c.mono ?_
        rintro e w6 ⟨rfl, vf', h1, h2, h3, h4⟩
        have HR := Lib.hid (And.intro h1 (And.intro h2 (And.intro h3 h4)))
        clear c h1 h2 h3 h4
        go_wp2_with fail
        refine bodyPost_end (v := .tuple #[]) (by simp [results, Tryz.results105, go_sem]) rfl ?_
        obtain ⟨r1, r2, r3, r4⟩ := HR.out
        rw [show (putV ⟨vk, vn⟩ p).b = p.b from rfl] at r1 r2 r3
        have e6 : atP (l1 ++ putV ⟨vk, vn⟩ p :: l2) p.b (putN true) = l1 ++ putN true (putV ⟨vk, vn⟩ p) :: l2 := at_split (p := putV ⟨vk, vn⟩ p) HT5.out.nd (putN true)
        rw [e6] at r1
        have e7 : tblOf (l1 ++ putN true (putV ⟨vk, vn⟩ p) :: l2) = tblOf (l1 ++ putV ⟨vk, vn⟩ p :: l2) := by simp [tblOf, pv, putN]
        refine ⟨rfl, l1 ++ putN true (putV ⟨vk, vn⟩ p) :: l2, vf', fd ++ [p.b], lv - 1, m, r1, r2, ⟨by rw [e7]; exact HCN.out.1, ⟨m, rfl, by rw [e7, ← HPUT.out, ← HCN.out.2]; exact HBM.out⟩, HNI.out.note _ HNT.out HNB.out⟩, by rw [e7]; exact HPUT.out.symm, by simp [putV, putN], H95.out.trans r3 (fun x hx => .inl ?_), ?_⟩
        · unfold tableG
          simp at hx ⊢
          rcases hx with hx | hx | hx
          · exact .inl hx
          · exact .inr (.inr (.inr (.inl hx)))
          · exact .inr (.inl hx)
        · rcases r4 with h | ⟨j, h, hj⟩
          · exact .inl h
          · exact .inr ⟨j, h, Nat.le_trans H95.out.size hj⟩
    · rw [decide_eq_false c0]
      have HC := Lib.hid (And.intro c0 c1)
      have hd := HD.out
      rw [decide_eq_false c1] at hd
      clear c0 c1
      go_wp2_with fail
      refine hd.mono ?_
      rintro e w3 ⟨rfl, rfl⟩
      clear hd
      go_wp2_with fail
      refine bodyPost_end (v := .tuple #[]) (by simp [results, Tryz.results105, go_sem]) rfl ?_
      refine ⟨rfl, l1 ++ putV ⟨vk, vn⟩ p :: l2, vf, fd, lv, n, HT1.out, HF1.out, ⟨?_, ⟨n, rfl, ?_⟩, HNI.out.value _ (fun h => absurd h HC.out.2) HNB.out⟩, HPUT.out.symm, by simp [putV], HW1.out, .inl rfl⟩
      · have h1 := HCS.out.1
        have h2 := HCS.out.2
        have h3 := HLV.out
        rw [if_neg HC.out.1] at h1
        rw [if_neg (show ¬ (putV ⟨vk, vn⟩ p).v.kind = 0 from HC.out.2)] at h2
        omega
      · rw [← HPUT.out]
        exact border_same HBD.out (by rw [HGM.out.2.1]; exact ⟨fun h => absurd h HC.out.1, fun h => absurd h HC.out.2⟩)
end
end Go.Proofs.YthejclgihhfenaaGreat.Td
