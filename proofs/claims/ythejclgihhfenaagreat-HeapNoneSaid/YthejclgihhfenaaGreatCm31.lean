import Derived.Test.YthejclgihhfenaaGreatCm30
/-
  Layer 14: the developers' heap: Free.
-/
namespace Go.Proofs.YthejclgihhfenaaGreat.Hd
open Go Go.RowKit Go.Proofs.YthejclgihhfenaaGreat.Pl Go.Proofs.YthejclgihhfenaaGreat.Tb Go.Proofs.YthejclgihhfenaaGreat.Vm Go.Proofs.YthejclgihhfenaaGreat.Hp Go.Proofs.YthejclgihhfenaaGreat.Td

section
variable {w w' : World} {b pb ob tb : Nat} {h h' : Hp} {mx made : Int} {P : Ob} {so : Nat} {fo : Int → Option (Option Nat)} {nb : Option Nat} {Fp Fp' F G : List Nat} {st sn sn' : Nat} {ft ft' : ByteArray → Option Int} {fn fn' : Int → Option Unit} {l l' : ObL}
/-- A number is noted no more, if somebody watches. -/
theorem RM.dropNot (h : RM w b mx made pb ob tb nb Fp P so fo st ft sn fn l) (n : Int) (hn : In64 n) (ty : TypeId) : ∃ w9 sn' fn', (Builtin.delete_ #[67, 2] ty #[.map nb, .int .i64 n]).run Tryz.prog w = .ok (.tuple #[]) w9 ∧ RM w9 b mx made pb ob tb nb Fp P so fo st ft sn' fn' l ∧ Turns nb.toList w w9 ∧
    (∀ x, nb = some x → sn' = (if (fn n).isSome then sn - 1 else sn) ∧ ∀ j, fn' j = if j = n then none else fn j) := by
  cases nb with
  | none =>
    exact ⟨w, sn, fn, Go.Maps.drop_nil sn_ok.keyed sn_ok.map (sn_ok.kof n hn) ty, h, Turns.refl _ _, fun x hx => by cases hx⟩
  | some x =>
    obtain ⟨M, hM, hG⟩ := h.nots x rfl
    obtain ⟨w9, hrun, hgo⟩ := hG.drop sn_ok hM n hn ty
    have hgo2 := hgo
    obtain ⟨M9, hM9, hG9, ht9, hz⟩ := hgo2
    exact ⟨w9, _, _, hrun, h.setNots hgo, ht9, fun _ _ => ⟨rfl, fun _ => rfl⟩⟩
/-- What is left when the text's bytes have gone. -/
def FreeMid (w2 : World) (b : Nat) (h : Hp) (pb ob tb : Nat) (nb : Option Nat) (Fp : List Nat) (st : Nat) (ft : ByteArray → Option Int) (sn : Nat) (fn : Int → Option Unit) (l : ObL) (p : OP) (wx : World) : Prop :=
  RM wx b h.max h.made pb ob tb nb Fp (obOf h) (cntL (obOf h)) (foL l) (if p.o.kind = 4 then st - 1 else st) (fun s => if p.o.kind = 4 ∧ s = p.o.text then none else ft s) sn fn l ∧ Turns [tb] w2 wx
theorem txt_gone {i : Nat} {p : OP} (H : TxtIs ft l) (hi : l[i]? = some (some p)) : TxtIs (fun s => if p.o.kind = 4 ∧ s = p.o.text then none else ft s) (l.set i none) := fun s n => by
  have hl := idx_lt hi
  have look : ∀ (j : Nat) (r : OP), (l.set i none)[j]? = some (some r) ↔ j ≠ i ∧ l[j]? = some (some r) := fun j r => by
    rw [get_set hl]
    by_cases e : j = i
    · rw [if_pos e]
      exact ⟨fun h => (by cases h), fun h => absurd e h.1⟩
    · rw [if_neg e]
      exact ⟨fun h => ⟨e, h⟩, fun h => h.2⟩
  show (if p.o.kind = 4 ∧ s = p.o.text then none else ft s) = some n ↔ _
  by_cases hk : p.o.kind = 4 ∧ s = p.o.text
  · rw [if_pos hk]
    constructor
    · intro h; cases h
    · rintro ⟨j, r, h1, h2, h3, h4⟩
      obtain ⟨hne, h1⟩ := (look j r).1 h1
      have e1 := (H s n).2 ⟨j, r, h1, h2, h3, h4⟩
      have e2 := (H s _).2 ⟨i, p, hi, hk.1, hk.2.symm, rfl⟩
      rw [e1] at e2
      have e3 := Option.some.inj e2
      exact absurd (by omega) hne
  · rw [if_neg hk, H]
    constructor
    · rintro ⟨j, r, h1, h2, h3, h4⟩
      refine ⟨j, r, (look j r).2 ⟨fun e => hk ?_, h1⟩, h2, h3, h4⟩
      rw [e, hi] at h1
      have h1 := Option.some.inj (Option.some.inj h1)
      subst h1
      exact ⟨h2, h3.symm⟩
    · rintro ⟨j, r, h1, h2, h3, h4⟩
      exact ⟨j, r, ((look j r).1 h1).2, h2, h3, h4⟩
/-- The object is gone. -/
theorem HX.gone {i : Nat} {p : OP} (H : HX w b h pb ob tb nb Fp ft sn fn l) (hi : l[i]? = some (some p)) (hs : ∀ x, nb = some x → sn' = (if (fn ((i : Int) + 1)).isSome then sn - 1 else sn) ∧ ∀ j, fn' j = if j = (i : Int) + 1 then none else fn j)
    (hr : RM w' b h.max h.made pb ob tb nb Fp' ((obOf h).set i none) (cntL (obOf h) - 1) (fun j => if j = (i : Int) + 1 then none else foL l j) (if p.o.kind = 4 then l.countP textO - 1 else l.countP textO) (fun s => if p.o.kind = 4 ∧ s = p.o.text then none else ft s) sn' fn' l) :
    HX w' b { h with obs := h.obs.set i none } pb ob tb nb Fp' (fun s => if p.o.kind = 4 ∧ s = p.o.text then none else ft s) sn' fn' (l.set i none) := by
  have hl := idx_lt hi
  have hob : obOf { h with obs := h.obs.set i none } = (obOf h).set i none := by unfold obOf; rw [List.map_set]; rfl
  have hfo : foL (l.set i none) = fun j => if j = (i : Int) + 1 then none else foL l j := by
    funext n
    unfold foL
    rw [at_set hl]
    split <;> rfl
  have hct : (l.set i none).countP textO = if p.o.kind = 4 then l.countP textO - 1 else l.countP textO := by
    have h1 := cnt_set textO (y := none) hi
    rw [show textO (some p) = decide (p.o.kind = 4) from rfl, show textO none = false from rfl] at h1
    by_cases e : p.o.kind = 4
    · rw [if_pos e]; simp [e] at h1; omega
    · rw [if_neg e]; simp [e] at h1; exact h1
  have look : ∀ (j : Nat) (r : OP), (l.set i none)[j]? = some (some r) → l[j]? = some (some r) := fun j r hj => by
    rw [get_set hl] at hj
    split at hj
    · cases hj
    · exact hj
  refine ⟨⟨?_, ?_, H.made, H.watch, fun x hx => ⟨?_, fun n => ?_⟩, fun hn j r hj => H.still hn j r (look j r hj), fun j r hj => H.ok j r (look j r hj), H.top⟩, txt_gone H.txt hi⟩
  · rw [hob, hfo, hct]
    have h1 := cnt_set_none (obOf h) i _ (ob_get H.obs hi)
    have h2 : cntL ((obOf h).set i none) = cntL (obOf h) - 1 := by omega
    rw [h2]
    exact hr.drop
  · show h.obs.set i none = _
    rw [List.map_set, ← H.obs]; rfl
  · obtain ⟨h1, h2⟩ := H.nts x hx
    have h3 := cnt_set notedO (y := none) hi
    rw [show notedO (some p) = p.o.noted from rfl, show notedO none = false from rfl] at h3
    have hfe : fn ((i : Int) + 1) = if p.o.noted then some () else none := by rw [h2]; unfold fnL; rw [at_of hi]
    rw [(hs x hx).1, h1, hfe]
    by_cases e : p.o.noted = true
    · simp [e] at h3 ⊢; omega
    · simp [e] at h3 ⊢; omega
  · rw [(hs x hx).2]
    unfold fnL
    rw [at_set hl]
    by_cases e : n = (i : Int) + 1
    · rw [if_pos e, if_pos e]
    · rw [if_neg e, if_neg e, (H.nts x hx).2]; rfl
theorem F_drop {i : Nat} {R : Nat → Prop} (hp : ∀ x ∈ Fp', x ∈ Fp ∨ R x) : ∀ x ∈ Fof b ob tb nb Fp' (l.set i none), x ∈ Fof b ob tb nb Fp l ∨ R x := by
  intro x hx
  rcases in_F.1 hx with e | e | e | e | e | ⟨j, r, hj, e⟩
  · exact .inl (in_F.2 (.inl e))
  · exact .inl (in_F.2 (.inr (.inl e)))
  · exact .inl (in_F.2 (.inr (.inr (.inl e))))
  · exact .inl (in_F.2 (.inr (.inr (.inr (.inl e)))))
  · rcases hp x e with e | e
    · exact .inl (in_F.2 (.inr (.inr (.inr (.inr (.inl e))))))
    · exact .inr e
  · refine .inl (in_F.2 (.inr (.inr (.inr (.inr (.inr ⟨j, r, ?_, e⟩))))))
    rw [List.getElem?_set] at hj
    split at hj
    · split at hj <;> cases hj
    · exact hj
set_option maxRecDepth 100000 in
set_option maxHeartbeats 1000000 in
theorem free_fn' (H : HX w b h pb ob tb nb Fp ft sn fn l) (v : Vl) (hv : v.In) :
    Calls Tryz.prog 26 #[.pointer (some ⟨b, 0, none⟩), v.val] w (ChgSays HP b (freeH h v).1 (Fof b ob tb nb Fp l) (.int .i64 (freeH h v).2) w) := by
  obtain ⟨β, hβ⟩ : ∃ β, w.heap.size = β := ⟨_, rfl⟩
  have HBE := Lib.hid hβ
  have hwa := (Below.refl w.heap.size w).alloc (Nat.le_refl _) (.cells #[.int .u8 (v.kind : Int), .int .i64 v.n] 37)
  have h0 := H.below hwa
  have ca := at_fn h0.rm v hv
  have hself := h0.rm.self
  have hx0 := new_block w (.cells #[.int .u8 (v.kind : Int), .int .i64 v.n] 37)
  rw [hβ] at hx0
  have x0 := cell_of hx0 0 _ rfl
  have x1 := cell_of hx0 1 _ rfl
  have hfi := find_is H.obs v
  have hβF : β ∉ Fof b ob tb nb Fp l := fun hm => by have := H.rm.lt _ hm; omega
  have HBF := Lib.hid hβF
  have HH := Lib.hid H
  have H0 := Lib.hid h0
  have HX0 := Lib.hid hx0
  have HLOW := Lib.hid hwa
  have HV := Lib.hid hv
  obtain ⟨R, hR⟩ : ∃ R, freeH h v = R := ⟨_, rfl⟩
  have HR := Lib.hid hR
  rw [hR]
  clear h0 hx0 H hR hwa hβF hv
  cases hh : hitL l v with
  | none =>
    rw [hh] at hfi ca
    simp only [Option.map_none, ptrG] at hfi ca
    have e : R = (h, 151) := by
      rw [← HR.out]
      unfold freeH
      rw [hfi]
    have HE := Lib.hid e
    obtain ⟨vk, vn⟩ := v
    have ca : Calls Tryz.prog 77 #[.pointer (some ⟨b, 0, none⟩), .agg #[.int .u8 (vk : Int), .int .i64 vn]] (w.alloc (.cells #[.int .u8 (vk : Int), .int .i64 vn] 37)) _ := ca
    show Calls Tryz.prog 26 #[.pointer (some ⟨b, 0, none⟩), .agg #[.int .u8 (vk : Int), .int .i64 vn]] w _
    dsimp only at *
    clear hh hfi e
    go_enter Tryz.func26, Tryz.ntmps26
    go_wp2_with fail
    generalize hW : w.alloc (.cells #[.int .u8 (vk : Int), .int .i64 vn] 37) = w0 at *
    clear hW hβ
    refine (made_fn b _ hself).mono ?_
    rintro e w1 ⟨rfl, rfl⟩
    go_wp2_with fail
    refine ca.mono ?_
    rintro e w2 ⟨rfl, hb⟩
    have HB := Lib.hid (HLOW.out.trans (hb.mono HLOW.out.size))
    clear hb ca x0 x1
    go_wp2_with fail
    go_ret
    rw [HE.out]
    exact chg_same HH.out HB.out
  | some p =>
    obtain ⟨hn1, hi, hpk, _⟩ := hit_some hh
    rw [hh] at hfi ca
    simp only [Option.map_some, ptrG] at hfi ca
    obtain ⟨i, hie⟩ : ∃ i, (v.n - 1).toNat = i := ⟨_, rfl⟩
    rw [hie] at hi hfi
    have hni : v.n = (i : Int) + 1 := by omega
    have e : R = ({ h with obs := h.obs.set i none }, 0) := by
      rw [← HR.out]
      unfold freeH
      rw [hfi]
    have HE := Lib.hid e
    have HI := Lib.hid (And.intro hi (And.intro hni hpk))
    obtain ⟨vk, vn⟩ := v
    have ca : Calls Tryz.prog 77 #[.pointer (some ⟨b, 0, none⟩), .agg #[.int .u8 (vk : Int), .int .i64 vn]] (w.alloc (.cells #[.int .u8 (vk : Int), .int .i64 vn] 37)) _ := ca
    show Calls Tryz.prog 26 #[.pointer (some ⟨b, 0, none⟩), .agg #[.int .u8 (vk : Int), .int .i64 vn]] w _
    dsimp only at *
    clear hh hfi e hn1 hi hpk hie hni
    go_enter Tryz.func26, Tryz.ntmps26
    go_wp2_with fail
    generalize hW : w.alloc (.cells #[.int .u8 (vk : Int), .int .i64 vn] 37) = w0 at *
    clear hW hβ
    refine (made_fn b _ hself).mono ?_
    rintro e w1 ⟨rfl, rfl⟩
    go_wp2_with fail
    refine ca.mono ?_
    rintro e w2 ⟨rfl, hb⟩
    have HB := Lib.hid (HLOW.out.trans (hb.mono HLOW.out.size))
    have H2 := Lib.hid (H0.out.below hb)
    have hx2 := (hb.block β (lt_of_get HX0.out)).trans HX0.out
    have HX2 := Lib.hid hx2
    have hO2 := (H2.out.rm.each i p HI.out.1).1
    have hg : p.g ≠ β := fun e => HBF.out (by rw [← e]; exact F_obj HI.out.1)
    have ok := hO2.kind
    have ot := hO2.text
    have m2 := H2.out.rm.txtc
    clear hb ca x0 x1 hx2 hO2
    obtain ⟨g, hge⟩ : ∃ g, p.g = g := ⟨_, rfl⟩
    have HG := Lib.hid hge
    rw [hge] at ok ot hg ⊢
    clear hge
    obtain ⟨pk, hpke⟩ : ∃ pk : Int, (p.o.kind : Int) = pk := ⟨_, rfl⟩
    have HPK := Lib.hid hpke
    rw [hpke] at ok
    clear hpke
    go_upto_if 18 with fail
    go_cut [] from 19 to 27 (fun wx => FreeMid w2 b h pb ob tb nb Fp (l.countP textO) ft sn fn l p wx)
    case first =>
      by_cases hk4 : p.o.kind = 4
      · have hpk4 : pk = 4 := by have := HPK.out; omega
        subst hpk4
        obtain ⟨M, hM, hGM⟩ := H2.out.rm.txts
        obtain ⟨w7, hrun, M7, hgo⟩ := hGM.drop st_ok (w := w2.drew) hM p.o.text (by
          have h1 := (H2.out.ok i p HI.out.1).text
          show p.o.text.size ≤ maxLen
          unfold maxLen
          omega) 0
        have htx : (ft p.o.text).isSome = true := by rw [(H2.out.txt _ _).2 ⟨i, p, HI.out.1, hk4, rfl, rfl⟩]; rfl
        rw [if_pos htx] at hgo
        have hrun : (Builtin.delete_ #[66, 9] 0 #[.map (some tb), .string p.o.text]).run Tryz.prog w2.drew = .ok (.tuple #[]) w7 := hrun
        have ht7 : Turns [tb] w2.drew w7 := hgo.2.2.1
        have hbt : b ∉ [tb] := fun hm => by
          obtain ⟨tag, T⟩ := H2.out.rm.tags
          have h1 := T.head
          rw [List.mem_singleton.1 hm, T.txts] at h1
          cases h1
        have hgt : g ∉ [tb] := fun hm => by
          obtain ⟨tag, T⟩ := H2.out.rm.tags
          have h1 := T.obj i p HI.out.1
          rw [HG.out, List.mem_singleton.1 hm, T.txts] at h1
          omega
        have m7 : w7.cell? ⟨b, 4, none⟩ = some (.map (some tb)) := cell_turns (w := w2.drew) m2 ht7 hbt
        have o7 : w7.cell? ⟨g, 2, none⟩ = some (.string p.o.text) := cell_turns (w := w2.drew) ot ht7 hgt
        have HR7 := Lib.hid ((H2.out.rm.below ((Below.refl _ _).drew)).setTxts ⟨M7, hgo⟩)
        have HT7 := Lib.hid ht7
        have HK4 := Lib.hid hk4
        clear hk4 hgo hM hGM htx ht7 hbt hgt
        generalize hts : p.o.text = s at *
        have HTS := Lib.hid hts
        clear hts
        go_wp2_with fail
        go_region_held3 (fun w' => w'.cell? ⟨b, 4, none⟩ = some (.map (some tb)) ∧ w'.cell? ⟨g, 2, none⟩ = some (.string s))
          (go_keep)
          (fail)
        first | go_meet | (go_wp2_with fail; go_meet)
        unfold FreeMid
        refine ⟨?_, (Turns.of_below (F := [tb]) ((Below.refl w2.heap.size w2).drew)).trans HT7.out (fun x hx => .inl hx)⟩
        rw [if_pos HK4.out]
        have h1 := HR7.out
        have e : (fun j => if j = s then none else ft j) = (fun j => if p.o.kind = 4 ∧ j = p.o.text then none else ft j) := by
          funext j
          rw [HTS.out]
          by_cases e : j = s
          · rw [if_pos e, if_pos ⟨HK4.out, e⟩]
          · rw [if_neg e, if_neg (fun h => e h.2)]
        rw [e] at h1
        exact h1
      · have hk4' : ¬ pk = 4 := by have := HPK.out; omega
        have HK4 := Lib.hid hk4
        clear hk4
        go_wp2_with fail
        first | go_meet | (go_wp2_with fail; go_meet)
        unfold FreeMid
        refine ⟨?_, Turns.refl _ _⟩
        rw [if_neg HK4.out]
        have h1 := H2.out.rm
        have e : ft = (fun j => if p.o.kind = 4 ∧ j = p.o.text then none else ft j) := by
          funext j
          rw [if_neg (fun h => HK4.out h.1)]
        rw [← e]
        exact h1
    case rest =>
      obtain ⟨r3, t3⟩ := hcut
      have hbβ : b ≠ β := fun e => HBF.out (by rw [← e]; exact in_F.2 (.inl rfl))
      have hx3 := (t3.block β (lt_of_get HX2.out) (fun hm => HBF.out (by rw [List.mem_singleton.1 hm]; exact in_F.2 (.inr (.inr (.inl rfl)))))).trans HX2.out
      have y1 := cell_of hx3 1 _ rfl
      have m3 := r3.objc
      obtain ⟨M, hM, hGM⟩ := r3.objs
      obtain ⟨w8, hrun, M8, hgo⟩ := hGM.drop so_ok (w := wc.drew) hM vn HV.out.2 0
      have hsome : (foL l vn).isSome = true := by
        rw [HI.out.2.1]
        unfold foL
        rw [at_of HI.out.1]; rfl
      rw [if_pos hsome] at hgo
      have hrun : (Builtin.delete_ #[65, 2] 0 #[.map (some ob), .int .i64 vn]).run Tryz.prog wc.drew = .ok (.tuple #[]) w8 := hrun
      have ht8 : Turns [ob] wc.drew w8 := hgo.2.2.1
      have hbo : b ∉ [ob] := fun hm => by
        obtain ⟨tag, T⟩ := r3.tags
        have h1 := T.head
        rw [List.mem_singleton.1 hm, T.objs] at h1
        cases h1
      have hβo : β ∉ [ob] := fun hm => HBF.out (by rw [List.mem_singleton.1 hm]; exact in_F.2 (.inr (.inl rfl)))
      have m8 : w8.cell? ⟨b, 3, none⟩ = some (.map (some ob)) := cell_turns (w := wc.drew) m3 ht8 hbo
      have hx8 := (ht8.block β (lt_of_get hx3) hβo).trans hx3
      have y8 := cell_of hx8 1 _ rfl
      have r8 := (r3.below ((Below.refl _ _).drew)).setObjs ⟨M8, hgo⟩
      have t8 := (t3.trans (Turns.of_below (F := []) ((Below.refl wc.heap.size wc).drew)) (fun x hx => absurd hx List.not_mem_nil)).mono (G := [tb, ob]) (fun x hx => by rw [List.mem_singleton.1 hx]; exact List.mem_cons_self ..)
      have t8 := t8.trans ht8 (fun x hx => .inl (by rw [List.mem_singleton.1 hx]; exact List.mem_cons_of_mem _ (List.mem_cons_self ..)))
      have n8 := r8.notc
      obtain ⟨w9, sn', fn', hrun9, r9, t9, hn9⟩ := (r8.below ((Below.refl w8.heap.size w8).drew)).dropNot vn HV.out.2 0
      have hnF : ∀ x ∈ nb.toList, x ∈ Fof b ob tb nb Fp l := fun x hx => F_nb nb x hx
      have hbn : b ∉ nb.toList := fun hm => by
        obtain ⟨tag, T⟩ := r3.tags
        have h1 := T.head
        rw [T.nots b (Option.mem_toList.1 hm)] at h1
        cases h1
      have n9 : w9.cell? ⟨b, 6, none⟩ = some (.map nb) := cell_turns (w := w8.drew) n8 t9 hbn
      have hx9 := (t9.block β (lt_of_get hx8) (fun hm => HBF.out (hnF β hm))).trans hx8
      have y9 := cell_of hx9 1 _ rfl
      have m9 := r9.poolc
      have T9 := Lib.hid ((((Turns.of_below (F := Fof b ob tb nb Fp l) HB.out).trans t8 (fun x hx => .inl (by
        rcases List.mem_cons.1 hx with e | hx
        · rw [e]; exact in_F.2 (.inr (.inr (.inl rfl)))
        · rw [List.mem_singleton.1 hx]; exact in_F.2 (.inr (.inl rfl))))).trans (Turns.of_below (F := []) ((Below.refl w8.heap.size w8).drew)) (fun x hx => absurd hx List.not_mem_nil)).trans t9 (fun x hx => .inl (hnF x hx)))
      have R9 := Lib.hid r9
      have HX9 := Lib.hid hx9
      have HN9 := Lib.hid hn9
      have c10 := give_fn' (w := w9.drew) vn (r9.below ((Below.refl _ _).drew)).pool HV.out.2
      clear hM hGM hgo hsome ht8 hbo hβo hx3 hx8 r3 t3 r8 t8 r9 t9 hn9 hnF hbn hx9
      go_step
      go_upto_region 8 with fail
      go_region_held3 (fun w' => w'.cell? ⟨b, 3, none⟩ = some (.map (some ob)) ∧ w'.cell? ⟨β, 1, none⟩ = some (.int .i64 vn))
        (go_keep)
        (fail)
      clear hrun m3 m8 y1
      go_upto_region 9 with fail
      go_region_held3 (fun w' => w'.cell? ⟨b, 6, none⟩ = some (.map nb) ∧ w'.cell? ⟨β, 1, none⟩ = some (.int .i64 vn))
        (go_keep)
        (fail)
      clear hrun9 n8 n9 y8
      go_upto_region 10 with fail
      refine wp_region_held_drew (S := fun w' => w'.cell? ⟨b, 2, none⟩ = some (.pointer (some ⟨pb, 0, none⟩)) ∧ w'.cell? ⟨β, 1, none⟩ = some (.int .i64 vn)) mixed ⟨m9, y9⟩ (fun hS => ?_)
      refine wpAnyH_take (i := 0) (v := ?va0) rfl (by kernel_rfl) (by kernel_rfl) (by kernel_rfl) (fun _ _ _ h => h) (.inl ⟨by rfl, ?ha0⟩) hS ?ra0
      case ha0 =>
        intro w' hs
        (try dsimp only at hs)
        go_split_ands
        go_simp
        try with_reducible rfl
      simp only [List.getElem_toArray, List.getElem_cons_zero, Act.put, List.setIfInBounds_toArray, List.set_cons_zero, List.set_cons_succ]
      refine wpAnyH_take (i := 1) (v := ?va1) rfl (by kernel_rfl) (by kernel_rfl) (by kernel_rfl) (fun _ _ _ h => h) (.inl ⟨by rfl, ?ha1⟩) hS ?ra1
      case ha1 =>
        intro w' hs
        (try dsimp only at hs)
        go_split_ands
        go_simp
        try with_reducible rfl
      simp only [List.getElem_toArray, List.getElem_cons_succ, List.getElem_cons_zero, Act.put, List.setIfInBounds_toArray, List.set_cons_zero, List.set_cons_succ]
      refine wpAnyH_take (i := 2) (v := ?va2) rfl (by kernel_rfl) (by kernel_rfl) (by kernel_rfl) (fun _ _ _ h => h) (.inl ⟨by rfl, ?ha2⟩) hS ?ra2
      case ha2 =>
        intro w' hs
        (try dsimp only at hs)
        go_split_ands
        go_simp
        try with_reducible rfl
      simp only [List.getElem_toArray, List.getElem_cons_succ, List.getElem_cons_zero, Act.put, List.setIfInBounds_toArray, List.set_cons_zero, List.set_cons_succ]
      refine wpAnyH_take (i := 3) (v := ?va3) rfl (by kernel_rfl) (by kernel_rfl) (by kernel_rfl) (fun _ _ _ h => h) (.inl ⟨by rfl, ?ha3⟩) hS ?ra3
      case ha3 =>
        intro w' hs
        (try dsimp only at hs)
        go_split_ands
        go_simp
        try with_reducible rfl
      simp only [List.getElem_toArray, List.getElem_cons_succ, List.getElem_cons_zero, Act.put, List.setIfInBounds_toArray, List.set_cons_zero, List.set_cons_succ]
      refine wpAnyH_take (i := 4) (v := ?va4) rfl (by kernel_rfl) (by kernel_rfl) (by kernel_rfl) (fun _ _ _ h => h) (.inl ⟨by rfl, ?ha4⟩) hS ?ra4
      case ha4 =>
        intro w' hs
        (try dsimp only at hs)
        go_split_ands
        go_simp
        try with_reducible rfl
      simp only [List.getElem_toArray, List.getElem_cons_succ, List.getElem_cons_zero, Act.put, List.setIfInBounds_toArray, List.set_cons_zero, List.set_cons_succ]
      refine wpAnyH_take (i := 5) (v := ?va5) rfl (by kernel_rfl) (by kernel_rfl) (by kernel_rfl) (fun _ _ _ h => h) (.inl ⟨by rfl, ?ha5⟩) hS ?ra5
      case ha5 =>
        intro w' hs
        (try dsimp only at hs)
        go_split_ands
        go_simp
        try with_reducible rfl
      simp only [List.getElem_toArray, List.getElem_cons_succ, List.getElem_cons_zero, Act.put, List.setIfInBounds_toArray, List.set_cons_zero, List.set_cons_succ]
      refine wpAnyH_ready (rs := [6]) (by kernel_rfl) (by simp) (AllReadyH.cons rfl (fun K hK => ?_) AllReadyH.nil)
      go_simp
      refine c10.mono ?_
      rintro e w10 ⟨rfl, Fp', hpa, htn, hfr⟩
      have r10 := (R9.out.below ((Below.refl _ _).drew)).setPool htn hpa hfr
      have hx10 := (htn.block β (lt_of_get HX9.out) (fun hm => HBF.out (in_F.2 (.inr (.inr (.inr (.inr (.inl hm)))))))).trans HX9.out
      have y10 := cell_of hx10 1 _ rfl
      have m10 := r10.poolc
      have R10 := Lib.hid r10
      have T10 := Lib.hid ((T9.out.trans (Turns.of_below (F := []) ((Below.refl w9.heap.size w9).drew)) (fun x hx => absurd hx List.not_mem_nil)).trans htn (fun x hx => .inl (in_F.2 (.inr (.inr (.inr (.inr (.inl hx))))))))
      have HFR := Lib.hid hfr
      clear r10 hpa htn hfr hx10 c10
      go_wp2_with fail
      refine hK.out _ _ ⟨m10, y10⟩ (fun hS => ?_)
      clear hK
      refine wpAnyH_done (by kernel_rfl) ?_ _
      clear hS
      go_wp2_with fail
      go_ret
      rw [HE.out]
      have hr := R10.out
      have e1 : giveL (obOf h) vn = ((obOf h).set i none, 0) := by
        rw [HI.out.2.1]
        unfold giveL
        rw [ob_at HH.out.obs HI.out.1]
        dsimp only
        rw [show ((i : Int) + 1 - 1).toNat = i by omega]
      rw [e1] at hr
      have hs9 : w.heap.size ≤ w9.heap.size := T9.out.size
      have hX := HH.out.gone (fn' := fn') (sn' := sn') HI.out.1 (fun x hx => by
        have h1 := HN9.out x hx
        rw [HI.out.2.1] at h1
        exact h1) (by
        rw [HI.out.2.1] at hr
        exact hr)
      exact chg_of hX T10.out (F_drop (fun x hx => (HFR.out x hx).imp id (fun h1 => Nat.le_trans hs9 h1)))
end
end Go.Proofs.YthejclgihhfenaaGreat.Hd
