import Derived.Test.YthejclgihhfenaaGreatCm13
/-
  Layer 13: the developers' table: Set; what the calls say of a table.
-/
namespace Go.Proofs.YthejclgihhfenaaGreat.Td
open Go Go.RowKit Go.Proofs.YthejclgihhfenaaGreat.Pl Go.Proofs.YthejclgihhfenaaGreat.Tb

def TA : TableP := fun w b t F => ∃ mb l vf fd lv ln, TM w b mb l lv ln ∧ FAt w b vf fd ∧ TI l fd lv ln ∧ t = tblOf l ∧ F = mb :: tableG b vf l
section
variable {w w' : World} {b mb g : Nat} {l l1 l2 : List Plc} {lv ln : Int} {p : Plc} {vf vf' : Value} {fd G : List Nat}
theorem in_table {b : Nat} {vf : Value} {l : List Plc} {x : Nat} : x ∈ mb :: tableG b vf l ↔ x = mb ∨ x = b ∨ vf.ownBlock = some x ∨ ∃ q ∈ l, q.b = x := by
  unfold tableG
  rw [List.mem_cons, List.mem_cons, List.mem_append, own_mem, List.mem_map]
theorem TA.mem {t : Tbl} {F : List Nat} (h : TA w b t F) : b ∈ F ∧ ∀ k ∈ F, k < w.heap.size := by
  obtain ⟨mb, l, vf, fd, lv, ln, hT, hF, hI, rfl, rfl⟩ := h
  refine ⟨in_table.2 (.inr (.inl rfl)), fun k hk => ?_⟩
  rcases in_table.1 hk with e | e | e | ⟨q, hq, e⟩
  · rw [e]; exact hT.mapLt
  · rw [e]; exact hT.head.shape.lt
  · exact row_lt hF.row e
  · rw [← e]; exact (hT.nodes q hq).shape.lt
theorem TA.keep {t : Tbl} {F G : List Nat} (h : TA w b t F) (ht : Turns G w w') (hn : ∀ k ∈ F, k ∉ G) : TA w' b t F := by
  obtain ⟨mb, l, vf, fd, lv, ln, hT, hF, hI, rfl, rfl⟩ := h
  exact ⟨mb, l, vf, fd, lv, ln, hT.turns ht (hn b (in_table.2 (.inr (.inl rfl)))) (hn mb (in_table.2 (.inl rfl))) (fun q hq => hn q.b (in_table.2 (.inr (.inr (.inr ⟨q, hq, rfl⟩))))), hF.turns ht (hn b (in_table.2 (.inr (.inl rfl)))) (fun k hk => hn k (in_table.2 (.inr (.inr (.inl hk))))), hI, rfl, rfl⟩
theorem TA.ok {t : Tbl} {F : List Nat} (h : TA w b t F) : (t.map (·.1)).Nodup := by
  obtain ⟨mb, l, vf, fd, lv, ln, hT, hF, hI, rfl, rfl⟩ := h
  rw [tbl_keys]
  exact hT.keys
theorem TI.few (h : TI l fd lv ln) : lv ≤ l.length := by
  have := h.live
  have := count_le l
  omega
/-- A key's box and a value's. -/
structure Box2 (w w0 : World) (β : Nat) (k v : Vl) : Prop where
  at0 : w0.heap[β]? = some (.cells #[.int .u8 (k.kind : Int), .int .i64 k.n] 37 (0, 0))
  at1 : w0.heap[β + 1]? = some (.cells #[.int .u8 (v.kind : Int), .int .i64 v.n] 37 (0, 0))
  low : Below β w w0
  size : w.heap.size = β
theorem box2 (w : World) (k v : Vl) : Box2 w ((w.alloc (.cells #[.int .u8 (k.kind : Int), .int .i64 k.n] 37)).alloc (.cells #[.int .u8 (v.kind : Int), .int .i64 v.n] 37)) w.heap.size k v where
  at0 := by
    rw [heap_alloc_old _ _ (by simp)]
    exact new_block _ _
  at1 := by
    rw [← size_alloc' w (.cells #[.int .u8 (k.kind : Int), .int .i64 k.n] 37)]
    exact new_block _ _
  low := ((Below.refl _ _).alloc (Nat.le_refl _) _).alloc (by simp) _
  size := rfl
theorem Box2.turns {w0 w1 : World} {β : Nat} {k v : Vl} {G : List Nat} (h : Box2 w w0 β k v) (hb : Turns G w0 w1) (hn : ∀ x ∈ G, x < β ∨ β + 2 ≤ x) (hl : Below β w w1) : Box2 w w1 β k v :=
  ⟨(hb.block _ (lt_of_get h.at0) (fun hm => by have := hn _ hm; omega)).trans h.at0, (hb.block _ (lt_of_get h.at1) (fun hm => by have := hn _ hm; omega)).trans h.at1, hl, h.size⟩
/-- The boxes' world, whatever old blocks of G turned. -/
theorem set_bad {t : Tbl} {k v : Vl} (h : (keyB k && valB v) = false) : setT t k v = (t, 150) := by
  unfold setT
  rw [h, if_neg (by decide)]
theorem set_put {t : Tbl} {k v : Vl} (h : (keyB k && valB v) = true) (hh : hasT t k = true) : setT t k v = (putT t k v, 0) := by
  unfold setT
  rw [h, if_pos rfl, hh, if_pos rfl]
theorem set_nil {t : Tbl} {k v : Vl} (h : (keyB k && valB v) = true) (hh : hasT t k = false) (hv : v.kind = 0) : setT t k v = (t, 0) := by
  unfold setT
  rw [h, if_pos rfl, hh, if_neg (by decide), if_pos hv]
theorem set_add {t : Tbl} {k v : Vl} (h : (keyB k && valB v) = true) (hh : hasT t k = false) (hv : v.kind ≠ 0) (hl : countT t < 65536) : setT t k v = (t.filter alive ++ [(k, v)], 0) := by
  unfold setT
  unfold countT at hl
  rw [h, if_pos rfl, hh, if_neg (by decide), if_neg hv, if_neg (by omega)]
theorem set_full {t : Tbl} {k v : Vl} (h : (keyB k && valB v) = true) (hh : hasT t k = false) (hv : v.kind ≠ 0) (hl : t.length ≤ 65536) (hc : 65536 ≤ countT t) : setT t k v = (t, 5) := by
  have hf : t.filter alive = t := by
    unfold countT at hc
    have h1 := List.length_filter_le alive t
    exact List.filter_eq_self.2 (List.length_filter_eq_length_iff.1 (by omega))
  unfold setT
  unfold countT at hc
  rw [h, if_pos rfl, hh, if_neg (by decide), if_neg hv, if_pos hc, hf]
theorem SetSays.same {t : Tbl} {F : List Nat} {k v : Vl} {y : Int} (h : TA w b t F) (hs : setT t k v = (t, y)) (hb : Below w.heap.size w w') : SetSays TA b t F k v w (.returned (.int .i64 y)) w' := by
  unfold SetSays
  rw [hs]
  exact ⟨rfl, F, h.keep (G := []) (Turns.of_below hb) (fun _ _ => List.not_mem_nil), Turns.of_below hb, fun _ h => .inl h⟩
/-- What the places are when the dead ones have gone. -/
structure Swept (l s : List Plc) : Prop where
  tbl : tblOf s = (tblOf l).filter alive
  unnoted : ∀ q ∈ s, q.noted = false
  live : ∀ q ∈ s, q.v.kind ≠ 0
  few : s.length ≤ l.length
theorem swept (h : TI l fd lv ln) : Swept l (sweep l fd) where
  tbl := sweep_all (fun q hq h0 => (h.notes.noted q hq).1 (h.notes.dead q hq (fun e => by cases e) h0))
  unnoted := sweep_notes h.notes.noted
  live q hq := by
    have h2 : pv q ∈ tblOf (sweep l fd) := List.mem_map.2 ⟨q, hq, rfl⟩
    rw [sweep_all (fun q hq h0 => (h.notes.noted q hq).1 (h.notes.dead q hq (fun e => by cases e) h0))] at h2
    have := (List.mem_filter.1 h2).2
    unfold alive at this
    exact of_decide_eq_true this
  few := List.length_filterMap_le _ _
theorem border_filter {t : Tbl} {n : Nat} (h : BorderT t n) (hn : (t.map (·.1)).Nodup) : BorderT (t.filter alive) n := by
  have hx : ∀ k, ((getT (t.filter alive) k).kind = 0 ↔ (getT t k).kind = 0) := fun k => by
    rcases get_filter t k hn with ⟨h1, h2⟩ | h1
    · exact ⟨fun _ => h2, fun _ => h1⟩
    · rw [h1]
  exact ⟨fun i hi e => h.1 i hi ((hx _).1 e), (hx _).2 h.2⟩
theorem border_add {t : Tbl} {n : Nat} {k : Vl} (h : BorderT t n) : BorderT (t ++ [(k, nilV)]) n := by
  have hx : ∀ j, getT (t ++ [(k, nilV)]) j = getT t j := fun j => by
    rw [get_app]
    split
    · rfl
    · rename_i h1
      rw [get_none t j (by cases hx : hasT t j with | false => rfl | true => exact absurd hx h1)]
      split <;> rfl
  exact ⟨fun i hi => by rw [hx]; exact h.1 i hi, by rw [hx]; exact h.2⟩
theorem nil_of_val {v : Vl} (h : valB v = true) (h0 : v.kind = 0) : v = nilV := by
  obtain ⟨k, n⟩ := v
  dsimp only at h0
  subst h0
  unfold valB plainB at h
  simp at h
  unfold nilV
  rw [h]
set_option maxHeartbeats 4000000 in
set_option maxRecDepth 100000 in
theorem set_fn' {t : Tbl} {F : List Nat} (k v : Vl) (h : TA w b t F) (hk : k.In) (hv : v.In) (hl : t.length ≤ 65536) :
    Calls Tryz.prog 70 #[.pointer (some ⟨b, 0, none⟩), k.val, v.val] w (SetSays TA b t F k v w) := by
  have hx := box2 w k v
  obtain ⟨β, hβ⟩ : ∃ β, w.heap.size = β := ⟨_, rfl⟩
  have HTA := Lib.hid h
  obtain ⟨mb, l, vf, fd, lv, ln, hT, hF, hI, rfl, rfl⟩ := h
  have hlow := hx.low
  have hT0 := hT.below hlow
  have hF0 := hF.below hlow
  have hs := hT0.head.self
  have HT := Lib.hid hT0
  have HF := Lib.hid hF0
  have HI := Lib.hid hI
  have HL := Lib.hid (show l.length ≤ 65536 by have : (tblOf l).length = l.length := List.length_map _; omega)
  have HLT := Lib.hid HTA.out.mem.2
  rw [hβ] at hx
  have HX := Lib.hid hx
  have HV := Lib.hid (And.intro hk hv)
  have ck := key_fn k ((w.alloc (.cells #[.int .u8 (k.kind : Int), .int .i64 k.n] 37)).alloc (.cells #[.int .u8 (v.kind : Int), .int .i64 v.n] 37)) hk
  obtain ⟨kb, hkb⟩ : ∃ kb, keyB k = kb := ⟨_, rfl⟩
  obtain ⟨vb, hvb⟩ : ∃ vb, valB v = vb := ⟨_, rfl⟩
  have HKB := Lib.hid hkb
  have HVB := Lib.hid hvb
  rw [hkb] at ck
  have x0 := cell_of hx.at0 0 _ rfl
  have x1 := cell_of hx.at0 1 _ rfl
  obtain ⟨kk, kn⟩ := k
  obtain ⟨vk, vn⟩ := v
  have ck : Calls Tryz.prog 101 #[.agg #[.int .u8 (kk : Int), .int .i64 kn]] ((w.alloc (.cells #[.int .u8 (kk : Int), .int .i64 kn] 37)).alloc (.cells #[.int .u8 (vk : Int), .int .i64 vn] 37)) _ := ck
  show Calls Tryz.prog 70 #[.pointer (some ⟨b, 0, none⟩), .agg #[.int .u8 (kk : Int), .int .i64 kn], .agg #[.int .u8 (vk : Int), .int .i64 vn]] w _
  dsimp only at x0 x1 HX hs HT HF
  clear hx hT0 hF0 hI hT hF hlow hk hv hkb hvb hl
  go_enter Tryz.func70, Tryz.ntmps70
  go_wp2_with fail
  generalize hW : (w.alloc (.cells #[.int .u8 (kk : Int), .int .i64 kn] 37)).alloc (.cells #[.int .u8 (vk : Int), .int .i64 vn] 37) = w0 at *
  clear hW
  refine (made_fn b _ hs).mono ?_
  rintro e w1 ⟨rfl, rfl⟩
  have HBE := Lib.hid hβ
  clear hβ
  have HLOW := Lib.hid (show Below w.heap.size w w1 from by rw [HBE.out]; exact HX.out.low)
  cases kb with
  | false =>
    go_wp2_with fail
    refine ck.mono ?_
    rintro e w2 ⟨rfl, hb⟩
    have H2 := Lib.hid (HLOW.out.trans (hb.mono HLOW.out.size))
    clear hb ck
    go_wp2_with fail
    go_ret
    exact SetSays.same HTA.out (set_bad (by rw [HKB.out]; rfl)) H2.out
  | true =>
    go_wp2_with fail
    refine ck.mono ?_
    rintro e w2 ⟨rfl, hb⟩
    have HT2 := Lib.hid (HT.out.below hb)
    have HF2 := Lib.hid (HF.out.below hb)
    have HX2 := Lib.hid (HX.out.turns (G := []) (Turns.of_below hb) (fun _ h => absurd h List.not_mem_nil) (HX.out.low.trans (hb.mono (by rw [← HX.out.size]; exact HX.out.low.size))))
    have H2 := Lib.hid (HLOW.out.trans (hb.mono HLOW.out.size))
    have v0 := cell_of HX2.out.at1 0 _ rfl
    have v1 := cell_of HX2.out.at1 1 _ rfl
    have cv := value_fn ⟨vk, vn⟩ w2 HV.out.2
    rw [HVB.out] at cv
    have cv : Calls Tryz.prog 102 #[.agg #[.int .u8 (vk : Int), .int .i64 vn]] w2 _ := cv
    clear hb ck x0 x1 hs
    cases vb with
    | false =>
      go_wp2_with fail
      refine cv.mono ?_
      rintro e w3 ⟨rfl, hb⟩
      have H3 := Lib.hid (H2.out.trans (hb.mono H2.out.size))
      clear hb cv
      go_wp2_with fail
      go_ret
      exact SetSays.same HTA.out (set_bad (by rw [HKB.out, HVB.out]; rfl)) H3.out
    | true =>
      go_wp2_with fail
      refine cv.mono ?_
      rintro e w3 ⟨rfl, hb⟩
      have HT3 := Lib.hid (HT2.out.below hb)
      have HF3 := Lib.hid (HF2.out.below hb)
      have HX3 := Lib.hid (HX2.out.turns (G := []) (Turns.of_below hb) (fun _ h => absurd h List.not_mem_nil) (HX2.out.low.trans (hb.mono (by rw [← HX2.out.size]; exact HX2.out.low.size))))
      have H3 := Lib.hid (H2.out.trans (hb.mono H2.out.size))
      clear hb cv v0 v1
      obtain ⟨M, hM, hp⟩ := HT3.out.map
      have lk : ∀ w' : World, w'.heap[mb]? = some M → _ := fun w' hw' => hp.look_ok (w := w') hw' ⟨kk, kn⟩ HV.out.1
      have x0 := cell_of HX3.out.at0 0 _ rfl
      have x1 := cell_of HX3.out.at0 1 _ rfl
      have xm := HT3.out.head.map
      have hMd : w3.drew.heap[mb]? = some M := hM
      have HKV := Lib.hid (show (keyB ⟨kk, kn⟩ && valB ⟨vk, vn⟩) = true by rw [HKB.out, HVB.out]; rfl)
      have HT4 := Lib.hid (HT3.out.below (drew_below w3))
      have HF4 := Lib.hid (HF3.out.below (drew_below w3))
      have HX4 := Lib.hid (HX3.out.turns (G := []) (Turns.of_below (drew_below w3)) (fun _ h => absurd h List.not_mem_nil) ((show Below β w w3 from HX3.out.low).trans ((drew_below w3).mono (by rw [← HX3.out.size]; exact HX3.out.low.size))))
      have H4 := Lib.hid (H3.out.trans ((drew_below w3).mono H3.out.size))
      rcases find_cases l ⟨kk, kn⟩ with ⟨f1, f2, _, f4⟩ | ⟨p, hp1, hpk, f1, f2, _⟩
      · rw [f1] at lk
        unfold ptrP mapT Vl.val Vl.cells at lk
        dsimp only at lk
        have HF2 := Lib.hid f2
        have HF4' := Lib.hid f4
        clear f1 f2 f4 hM hp
        go_upto_region 5 with fail
        go_region_held3 (fun w' => w'.cell? ⟨b, 1, none⟩ = some (.map (some mb)) ∧ w'.cell? ⟨β, 0, none⟩ = some (.int .u8 (kk : Int)) ∧ w'.cell? ⟨β, 1, none⟩ = some (.int .i64 kn) ∧ w'.heap[mb]? = some M)
          (go_keep)
          (fail)
        generalize w3.drew = w4 at *
        clear x0 x1 xm lk hMd
        have v0 := cell_of HX4.out.at1 0 _ rfl
        have v1 := cell_of HX4.out.at1 1 _ rfl
        by_cases hv0 : vk = 0
        · have HV0 := Lib.hid hv0
          subst hv0
          go_wp2_with fail
          go_ret
          exact SetSays.same HTA.out (set_nil HKV.out HF2.out rfl) H4.out
        · have HV0 := Lib.hid hv0
          have hvi : ¬ (vk : Int) = 0 := by omega
          have x10 := HT4.out.head.live
          have HLC := Lib.hid HI.out.live
          by_cases hlv : 65536 ≤ lv
          · have HLV := Lib.hid hlv
            clear hv0
            go_wp2_with fail
            go_ret
            exact SetSays.same HTA.out (set_full HKV.out HF2.out HV0.out (by have := HL.out; unfold tblOf; rw [List.length_map]; omega) (by have h1 := HLV.out; have h2 := HLC.out; omega)) H4.out
          have HCT := Lib.hid (show countT (tblOf l) < 65536 by have h2 := HLC.out; omega)
          have cs := sweep_fn HT4.out HF4.out HI.out.notes (by have := HL.out; omega)
          clear hv0
          go_wp2_with fail
          refine cs.mono ?_
          rintro e w5 ⟨rfl, hT5, hF5, ht5⟩
          clear cs v0 v1 x10 hlv hvi
          have sp := swept HI.out
          have hsk : ∀ q ∈ sweep l fd, q.k ≠ ⟨kk, kn⟩ := fun q hq e => by
            have h1 : ⟨kk, kn⟩ ∈ (tblOf l).map (·.1) := by
              have h2 : pv q ∈ tblOf (sweep l fd) := List.mem_map.2 ⟨q, hq, rfl⟩
              rw [sp.tbl] at h2
              exact List.mem_map.2 ⟨pv q, (List.mem_filter.1 h2).1, e⟩
            have h3 := (has_iff _ _).2 h1
            rw [HF2.out] at h3
            cases h3
          have hkk : kk ≠ 0 := fun e => by
            have := HKB.out
            rw [e] at this
            cases this
          have hβF : ∀ x ∈ mb :: tableG b vf l, x < β := fun x hx => by rw [← HBE.out]; exact HLT.out x hx
          have a0 := (ht5.block β (lt_of_get HX4.out.at0) (fun hm => Nat.lt_irrefl β (hβF _ hm))).trans HX4.out.at0
          have a1 := (ht5.block (β + 1) (lt_of_get HX4.out.at1) (fun hm => by have := hβF _ hm; omega)).trans HX4.out.at1
          have x0 := cell_of a0 0 _ rfl
          have x1 := cell_of a0 1 _ rfl
          have ca := add_fn hT5 hF5 ⟨kk, kn⟩ HV.out.1 hkk hsk (by have h1 : (sweep l fd).length = countT (tblOf l) := by { unfold countT; rw [← sp.tbl]; exact (List.length_map _).symm }; have h2 := HCT.out; omega)
          have ca : Calls Tryz.prog 104 #[.pointer (some ⟨b, 0, none⟩), .agg #[.int .u8 (kk : Int), .int .i64 kn]] w5 _ := ca
          have HA1 := Lib.hid a1
          have HSP := Lib.hid sp
          have HT5 := Lib.hid ht5
          have HBF := Lib.hid hβF
          have HSK := Lib.hid hsk
          clear a0 a1 hT5 hF5 sp hsk hkk hβF ht5
          go_wp2_with fail
          refine ca.mono ?_
          rintro e w6 ⟨g, rfl, hg, hT6, hF6, ht6⟩
          clear ca x0 x1
          have hsub : ∀ x ∈ mb :: tableG b (.slice none 0 0) (sweep l fd), x ∈ mb :: tableG b vf l := fun x hx => by
            rcases in_table.1 hx with e | e | e | ⟨q, hq, e⟩
            · exact in_table.2 (.inl e)
            · exact in_table.2 (.inr (.inl e))
            · cases e
            · obtain ⟨r, hr, e2⟩ := sweep_from hq
              exact in_table.2 (.inr (.inr (.inr ⟨r, hr, by rw [← e2, e]⟩)))
          have a1 := (ht6.block (β + 1) (lt_of_get HA1.out) (fun hm => by have := HBF.out _ (hsub _ hm); omega)).trans HA1.out
          have v0 := cell_of a1 0 _ rfl
          have v1 := cell_of a1 1 _ rfl
          have hni : NI (sweep l fd ++ [newP g ⟨kk, kn⟩]) [] (some g) := {
            nodup := List.nodup_nil
            there := fun _ h => absurd h List.not_mem_nil
            noted := fun q hq => ⟨fun h => (by
              rcases List.mem_append.1 hq with hq | hq
              · rw [HSP.out.unnoted q hq] at h; exact Bool.noConfusion h
              · rw [List.mem_singleton.1 hq] at h; exact Bool.noConfusion h), fun h => absurd h List.not_mem_nil⟩
            dead := fun q hq hne h0 => by
              rcases List.mem_append.1 hq with hq | hq
              · exact absurd h0 (HSP.out.live q hq)
              · exact absurd (by rw [List.mem_singleton.1 hq]; rfl) hne }
          have htb : tblOf (sweep l fd ++ [newP g ⟨kk, kn⟩]) = (tblOf l).filter alive ++ [(⟨kk, kn⟩, nilV)] := by
            rw [← HSP.out.tbl]
            unfold tblOf
            rw [List.map_append]
            rfl
          have cp := put_fn (l1 := sweep l fd) (p := newP g ⟨kk, kn⟩) (l2 := []) hT6 hF6 (by
              rw [count_split, HSP.out.tbl, if_pos (show (newP g ⟨kk, kn⟩).v.kind = 0 from rfl), HI.out.live]
              unfold countT
              rw [List.filter_filter]
              simp [tblOf]) (by
              obtain ⟨n, hn, hb⟩ := HI.out.len
              refine ⟨n, hn, ?_⟩
              rw [htb]
              exact border_add (border_filter hb HTA.out.ok)) hni ⟨vk, vn⟩ HV.out.2 (fun h => absurd h HV0.out) (fun _ h => absurd h HV0.out) (by
              have h1 : (sweep l fd).length = countT (tblOf l) := by { unfold countT; rw [← HSP.out.tbl]; exact (List.length_map _).symm }
              have h2 := HCT.out
              simp
              omega)
          have cp : Calls Tryz.prog 105 #[.pointer (some ⟨b, 0, none⟩), .pointer (some ⟨g, 0, none⟩), .agg #[.int .u8 (vk : Int), .int .i64 vn]] w6 _ := cp
          have HNK := Lib.hid (show ((sweep l fd ++ [newP g ⟨kk, kn⟩]).map (·.k)).Nodup from hT6.keys)
          have HG := Lib.hid hg
          have HT6 := Lib.hid ht6
          have HSUB := Lib.hid hsub
          clear hT6 hF6 hni htb a1 hsub hg ht6
          go_wp2_with fail
          refine cp.mono ?_
          rintro e w7 ⟨rfl, l', vf', fd', lv', ln', r1, r2, r3, r4, r5, r6, r7⟩
          have HR := Lib.hid (And.intro r1 (And.intro r2 (And.intro r3 (And.intro r4 (And.intro r5 (And.intro r6 r7))))))
          clear cp r1 r2 r3 r4 r5 r6 r7 v0 v1
          go_wp2_with fail
          go_ret
          obtain ⟨r1, r2, r3, r4, r5, r6, r7⟩ := HR.out
          have h5 : Turns (mb :: tableG b vf l) w w6 := ((Turns.of_below H4.out).trans HT5.out (fun _ h => .inl h)).trans HT6.out (fun x hx => .inl (HSUB.out x hx))
          have hgw : w.heap.size ≤ g := Nat.le_trans (((Turns.of_below (F := mb :: tableG b vf l) H4.out).trans HT5.out (fun _ h => .inl h))).size HG.out
          refine ⟨by rw [set_add HKV.out HF2.out HV0.out HCT.out]; rfl, mb :: tableG b vf' l', ?_, ?_, ?_⟩
          · rw [set_add HKV.out HF2.out HV0.out HCT.out]
            refine ⟨mb, l', vf', fd', lv', ln', r1, r2, r3, ?_, rfl⟩
            rw [r4]
            show _ = putT _ (newP g ⟨kk, kn⟩).k _
            rw [put_split HNK.out, ← HSP.out.tbl]
            unfold tblOf
            rw [List.map_append]
            rfl
          · refine h5.trans r6 (fun x hx => ?_)
            rcases in_table.1 (List.mem_cons_of_mem mb hx) with e | e | e | ⟨q, hq, e⟩
            · exact .inl (by rw [e]; exact List.mem_cons_self ..)
            · exact .inl (in_table.2 (.inr (.inl e)))
            · cases e
            · rcases List.mem_append.1 hq with hq | hq
              · exact .inl (HSUB.out x (in_table.2 (.inr (.inr (.inr ⟨q, hq, e⟩)))))
              · exact .inr (by rw [← e, List.mem_singleton.1 hq]; exact hgw)
          · intro x hx
            rcases in_table.1 hx with e | e | e | ⟨q, hq, e⟩
            · exact .inl (in_table.2 (.inl e))
            · exact .inl (in_table.2 (.inr (.inl e)))
            · rcases r7 with h | ⟨j, h, hj⟩
              · rw [h] at e; cases e
              · rw [h] at e
                injection e with e
                exact .inr (by rw [← e]; exact Nat.le_trans h5.size hj)
            · have hm : x ∈ (sweep l fd ++ newP g ⟨kk, kn⟩ :: []).map (·.b) := by rw [← r5]; exact List.mem_map.2 ⟨q, hq, e⟩
              obtain ⟨q2, hq2, e2⟩ := List.mem_map.1 hm
              rcases List.mem_append.1 hq2 with hq2 | hq2
              · exact .inl (HSUB.out x (in_table.2 (.inr (.inr (.inr ⟨q2, hq2, e2⟩)))))
              · exact .inr (by rw [← e2, List.mem_singleton.1 hq2]; exact hgw)
      · rw [f1] at lk
        unfold ptrP mapT Vl.val Vl.cells at lk
        dsimp only at lk
        have HF2 := Lib.hid f2
        have HPK := Lib.hid hpk
        obtain ⟨l1, l2, hl12⟩ := List.append_of_mem hp1
        obtain ⟨g, hg⟩ : ∃ g, p.b = g := ⟨_, rfl⟩
        have HL12 := Lib.hid (And.intro hl12 hg)
        rw [hg] at lk
        clear f1 f2 hpk hM hp hp1 hl12 hg
        go_upto_region 5 with fail
        go_region_held3 (fun w' => w'.cell? ⟨b, 1, none⟩ = some (.map (some mb)) ∧ w'.cell? ⟨β, 0, none⟩ = some (.int .u8 (kk : Int)) ∧ w'.cell? ⟨β, 1, none⟩ = some (.int .i64 kn) ∧ w'.heap[mb]? = some M)
          (go_keep)
          (fail)
        generalize w3.drew = w4 at *
        clear x0 x1 xm lk hMd
        have v0 := cell_of HX4.out.at1 0 _ rfl
        have v1 := cell_of HX4.out.at1 1 _ rfl
        have hT4 := HT4.out
        have hI4 := HI.out
        have hlen := HL.out
        obtain ⟨e1, e2⟩ := HL12.out
        rw [e1] at hT4 hI4 hlen
        have cp := put_fn (l1 := l1) (p := p) (l2 := l2) hT4 HF4.out hI4.live hI4.len ⟨hI4.notes.nodup, hI4.notes.there, hI4.notes.noted, fun q hq _ => hI4.notes.dead q hq (fun h => by cases h)⟩ ⟨vk, vn⟩ HV.out.2 (fun h => nil_of_val (by rw [HVB.out]) h) (fun h _ => hI4.notes.dead p (by simp) (fun h => by cases h) h) (by omega)
        rw [e2] at cp
        have cp : Calls Tryz.prog 105 #[.pointer (some ⟨b, 0, none⟩), .pointer (some ⟨g, 0, none⟩), .agg #[.int .u8 (vk : Int), .int .i64 vn]] w4 _ := cp
        have HKY := Lib.hid hT4.keys
        clear hT4 hI4 hlen e1 e2
        go_wp2_with fail
        refine cp.mono ?_
        rintro e w7 ⟨rfl, l', vf', fd', lv', ln', r1, r2, r3, r4, r5, r6, r7⟩
        have HR := Lib.hid (And.intro r1 (And.intro r2 (And.intro r3 (And.intro r4 (And.intro r5 (And.intro r6 r7))))))
        clear cp r1 r2 r3 r4 r5 r6 r7 v0 v1
        go_wp2_with fail
        go_ret
        obtain ⟨r1, r2, r3, r4, r5, r6, r7⟩ := HR.out
        obtain ⟨e1, e2⟩ := HL12.out
        rw [← e1] at r4 r5 r6
        rw [HPK.out] at r4
        refine ⟨by rw [set_put HKV.out HF2.out]; rfl, mb :: tableG b vf' l', ?_, ?_, ?_⟩
        · rw [set_put HKV.out HF2.out]
          exact ⟨mb, l', vf', fd', lv', ln', r1, r2, r3, r4.symm, rfl⟩
        · exact (Turns.of_below H4.out).trans r6 (fun x hx => .inl (List.mem_cons_of_mem _ hx))
        · intro x hx
          rcases in_table.1 hx with e | e | e | ⟨q, hq, e⟩
          · exact .inl (in_table.2 (.inl e))
          · exact .inl (in_table.2 (.inr (.inl e)))
          · rcases r7 with h | ⟨j, h, hj⟩
            · rw [h] at e; exact .inl (in_table.2 (.inr (.inr (.inl e))))
            · rw [h] at e
              injection e with e
              exact .inr (by rw [← e]; exact Nat.le_trans H4.out.size hj)
          · have hm : x ∈ l.map (·.b) := by rw [← r5]; exact List.mem_map.2 ⟨q, hq, e⟩
            obtain ⟨q2, hq2, e2⟩ := List.mem_map.1 hm
            exact .inl (in_table.2 (.inr (.inr (.inr ⟨q2, hq2, e2⟩))))
end
end Go.Proofs.YthejclgihhfenaaGreat.Td
