import Derived.Test.YthejclgihhfenaaGreatCm23
/-
  Layer 14: the developers' heap: the calls that tell of one object.
-/
namespace Go.Proofs.YthejclgihhfenaaGreat.Hd
open Go Go.RowKit Go.Proofs.YthejclgihhfenaaGreat.Pl Go.Proofs.YthejclgihhfenaaGreat.Tb Go.Proofs.YthejclgihhfenaaGreat.Vm Go.Proofs.YthejclgihhfenaaGreat.Hp Go.Proofs.YthejclgihhfenaaGreat.Td

section
variable {w w' : World} {b pb ob tb : Nat} {h : Hp} {nb : Option Nat} {Fp F G : List Nat} {sn : Nat} {ft : ByteArray → Option Int} {fn : Int → Option Unit} {l : ObL}
/-- What find answers, by the heap's data. -/
theorem findV_is (H : HX w b h pb ob tb nb Fp ft sn fn l) (k : Nat) (v : Vl) : (findV l k v = none ∧ (v.kind = k → findH h v = none)) ∨ ∃ p, findV l k v = some p ∧ v.kind = k ∧ hitL l v = some p ∧ 1 ≤ v.n ∧ l[(v.n - 1).toNat]? = some (some p) ∧ p.o.kind = k ∧ findH h v = some ((v.n - 1).toNat, p.o) ∧ ObjC w p ∧ PartAt w p ∧ DataOk p.o := by
  unfold findV
  by_cases hk : v.kind = k
  · rw [if_pos hk]
    cases hh : hitL l v with
    | none => exact .inl ⟨rfl, fun _ => by rw [find_is H.obs, hh]; rfl⟩
    | some p =>
      obtain ⟨h1, h2, h3, _⟩ := hit_some hh
      exact .inr ⟨p, rfl, hk, rfl, h1, h2, by rw [h3, hk], by rw [find_is H.obs, hh]; rfl, (H.rm.each _ p h2).1, (H.rm.each _ p h2).2, H.ok _ p h2⟩
  · rw [if_neg hk]
    exact .inl ⟨rfl, fun e => absurd e hk⟩
theorem max_fn (H : HX w b h pb ob tb nb Fp ft sn fn l) : Calls Tryz.prog 42 #[.pointer (some ⟨b, 0, none⟩)] w (TellSays (.int .i64 h.max) w) := by
  have hs := H.rm.self
  have hm := H.rm.max
  clear H
  go_enter Tryz.func42, Tryz.ntmps42
  go_wp2_with fail
  refine (made_fn b _ hs).mono ?_
  rintro e w1 ⟨rfl, rfl⟩
  go_wp2_with fail
  go_ret
  exact ⟨rfl, Below.refl _ _⟩
theorem used_fn (H : HX w b h pb ob tb nb Fp ft sn fn l) : Calls Tryz.prog 38 #[.pointer (some ⟨b, 0, none⟩)] w (TellSays (.int .i64 (usedH h)) w) := by
  have hs := H.rm.self
  have hm := H.rm.poolc
  obtain ⟨_, _, _, hp, _⟩ := H.rm.pool
  have cu := used_fn' hp
  clear H hp
  rw [show usedH h = usedL (obOf h) from rfl]
  generalize usedL (obOf h) = u at *
  go_enter Tryz.func38, Tryz.ntmps38
  go_wp2_with fail
  refine (made_fn b _ hs).mono ?_
  rintro e w1 ⟨rfl, rfl⟩
  go_wp2_with fail
  refine cu.mono ?_
  rintro e w2 ⟨rfl, hb⟩
  go_wp2_with fail
  go_ret
  exact ⟨rfl, hb⟩
set_option maxRecDepth 100000 in
theorem has_fn (H : HX w b h pb ob tb nb Fp ft sn fn l) (v : Vl) (hv : v.In) : Calls Tryz.prog 46 #[.pointer (some ⟨b, 0, none⟩), v.val] w (TellSays (.bool (hasH h v)) w) := by
  have hwa := (Below.refl w.heap.size w).alloc (Nat.le_refl _) (.cells #[.int .u8 (v.kind : Int), .int .i64 v.n] 37)
  have h1 := H.below hwa
  have ca := at_fn h1.rm v hv
  have HW := Lib.hid hwa
  have hx0 := new_block w (.cells #[.int .u8 (v.kind : Int), .int .i64 v.n] 37)
  have y0 := cell_of hx0 0 _ rfl
  have y1 := cell_of hx0 1 _ rfl
  have hfi := find_is H.obs v
  have ho := H.obs
  obtain ⟨r, hr⟩ : ∃ r, hasH h v = r := ⟨_, rfl⟩
  rw [hr]
  unfold hasH at hr
  rw [hfi, Option.isSome_map] at hr
  clear h1 hwa hx0 H hfi ho
  obtain ⟨vk, vn⟩ := v
  dsimp only at *
  have ca : Calls Tryz.prog 77 #[.pointer (some ⟨b, 0, none⟩), .agg #[.int .u8 (vk : Int), .int .i64 vn]] (w.alloc (.cells #[.int .u8 (vk : Int), .int .i64 vn] 37)) _ := ca
  show Calls Tryz.prog 46 #[.pointer (some ⟨b, 0, none⟩), .agg #[.int .u8 (vk : Int), .int .i64 vn]] w _
  cases hh : hitL l ⟨vk, vn⟩ with
  | none =>
    rw [hh] at hr ca
    simp only [Option.isSome_none, Option.map_none, ptrG] at hr ca
    subst hr
    clear hh
    go_enter Tryz.func46, Tryz.ntmps46
    go_wp2_with fail
    refine ca.mono ?_
    rintro e w1 ⟨rfl, hb⟩
    have HB := Lib.hid (HW.out.trans (hb.mono HW.out.size))
    clear hb ca
    go_wp2_with fail
    go_ret
    exact ⟨rfl, HB.out⟩
  | some p =>
    rw [hh] at hr ca
    simp only [Option.isSome_some, Option.map_some, ptrG] at hr ca
    subst hr
    clear hh
    generalize p.g = g at *
    go_enter Tryz.func46, Tryz.ntmps46
    go_wp2_with fail
    refine ca.mono ?_
    rintro e w1 ⟨rfl, hb⟩
    have HB := Lib.hid (HW.out.trans (hb.mono HW.out.size))
    clear hb ca
    go_wp2_with fail
    go_ret
    exact ⟨rfl, HB.out⟩
set_option maxRecDepth 100000 in
theorem serial_fn (H : HX w b h pb ob tb nb Fp ft sn fn l) (v : Vl) (hv : v.In) : Calls Tryz.prog 50 #[.pointer (some ⟨b, 0, none⟩), v.val] w (TellSays (.int .i64 (serialH h v)) w) := by
  have hwa := (Below.refl w.heap.size w).alloc (Nat.le_refl _) (.cells #[.int .u8 (v.kind : Int), .int .i64 v.n] 37)
  have h1 := H.below hwa
  have ca := at_fn h1.rm v hv
  have HW := Lib.hid hwa
  have hx0 := new_block w (.cells #[.int .u8 (v.kind : Int), .int .i64 v.n] 37)
  have y0 := cell_of hx0 0 _ rfl
  have y1 := cell_of hx0 1 _ rfl
  have hfi := find_is H.obs v
  have ho := H.obs
  obtain ⟨r, hr⟩ : ∃ r, serialH h v = r := ⟨_, rfl⟩
  rw [hr]
  unfold serialH at hr
  rw [hfi] at hr
  have HH := Lib.hid h1
  clear hwa hx0 H hfi ho h1
  obtain ⟨vk, vn⟩ := v
  dsimp only at *
  have ca : Calls Tryz.prog 77 #[.pointer (some ⟨b, 0, none⟩), .agg #[.int .u8 (vk : Int), .int .i64 vn]] (w.alloc (.cells #[.int .u8 (vk : Int), .int .i64 vn] 37)) _ := ca
  show Calls Tryz.prog 50 #[.pointer (some ⟨b, 0, none⟩), .agg #[.int .u8 (vk : Int), .int .i64 vn]] w _
  cases hh : hitL l ⟨vk, vn⟩ with
  | none =>
    rw [hh] at hr ca
    simp only [Option.map_none, ptrG] at hr ca
    subst hr
    clear hh HH
    go_enter Tryz.func50, Tryz.ntmps50
    go_wp2_with fail
    refine ca.mono ?_
    rintro e w1 ⟨rfl, hb⟩
    have HB := Lib.hid (HW.out.trans (hb.mono HW.out.size))
    clear hb ca
    go_wp2_with fail
    go_ret
    exact ⟨rfl, HB.out⟩
  | some p =>
    rw [hh] at hr ca
    simp only [Option.map_some, ptrG] at hr ca
    have HO := Lib.hid (HH.out.rm.each _ p (hit_some hh).2.1).1
    clear hh
    subst hr
    go_enter Tryz.func50, Tryz.ntmps50
    go_wp2_with fail
    refine ca.mono ?_
    rintro e w1 ⟨rfl, hb⟩
    have HB := Lib.hid (HW.out.trans (hb.mono HW.out.size))
    have hser := (HO.out.turns (G := []) (Turns.of_below hb) List.not_mem_nil).serial
    clear hb ca
    generalize p.g = g at *
    generalize p.o.serial = s at *
    go_wp2_with fail
    go_ret
    exact ⟨rfl, HB.out⟩
set_option maxRecDepth 100000 in
theorem text_fn (H : HX w b h pb ob tb nb Fp ft sn fn l) (v : Vl) (hv : v.In) : Calls Tryz.prog 44 #[.pointer (some ⟨b, 0, none⟩), v.val] w (TellSays (.tuple #[.string (textH h v).1, .bool (textH h v).2]) w) := by
  have hwa := (Below.refl w.heap.size w).alloc (Nat.le_refl _) (.cells #[.int .u8 (v.kind : Int), .int .i64 v.n] 37)
  have h1 := H.below hwa
  have ca := find_fn h1.rm 4 v hv
  have HW := Lib.hid hwa
  have hx0 := new_block w (.cells #[.int .u8 (v.kind : Int), .int .i64 v.n] 37)
  have y0 := cell_of hx0 0 _ rfl
  have y1 := cell_of hx0 1 _ rfl
  have hfi := find_is H.obs v
  have ho := H.obs
  clear hfi ho
  rcases findV_is h1 4 v with ⟨f1, f2⟩ | ⟨p, f1, hk, hh, _, _, hpk, f2, hO, hP, _⟩
  · have e : textH h v = (ByteArray.empty, false) := by
      unfold textH
      cases hf : findH h v with
      | none => rfl
      | some q =>
        obtain ⟨i, o⟩ := q
        exact if_neg (fun e => by rw [f2 e] at hf; cases hf)
    rw [e]
    rw [f1] at ca
    simp only [Option.map_none, ptrG] at ca
    clear h1 hwa hx0 H f1 f2 e
    obtain ⟨vk, vn⟩ := v
    dsimp only at *
    have ca : Calls Tryz.prog 62 #[.pointer (some ⟨b, 0, none⟩), .int .u8 4, .agg #[.int .u8 (vk : Int), .int .i64 vn]] (w.alloc (.cells #[.int .u8 (vk : Int), .int .i64 vn] 37)) _ := ca
    show Calls Tryz.prog 44 #[.pointer (some ⟨b, 0, none⟩), .agg #[.int .u8 (vk : Int), .int .i64 vn]] w _
    go_enter Tryz.func44, Tryz.ntmps44
    go_wp2_with fail
    refine ca.mono ?_
    rintro e w1 ⟨rfl, hb⟩
    have HB := Lib.hid (HW.out.trans (hb.mono HW.out.size))
    clear hb ca
    go_wp2_with fail
    go_ret2
    exact ⟨rfl, HB.out⟩
  · have e : textH h v = (p.o.text, true) := by
      unfold textH
      rw [f2]
      exact if_pos hk
    rw [e]
    rw [f1] at ca
    simp only [Option.map_some, ptrG] at ca
    have HO := Lib.hid hO
    clear h1 hwa hx0 H f1 f2 e hO hP hh hk hpk
    obtain ⟨vk, vn⟩ := v
    dsimp only at *
    have ca : Calls Tryz.prog 62 #[.pointer (some ⟨b, 0, none⟩), .int .u8 4, .agg #[.int .u8 (vk : Int), .int .i64 vn]] (w.alloc (.cells #[.int .u8 (vk : Int), .int .i64 vn] 37)) _ := ca
    show Calls Tryz.prog 44 #[.pointer (some ⟨b, 0, none⟩), .agg #[.int .u8 (vk : Int), .int .i64 vn]] w _
    go_enter Tryz.func44, Tryz.ntmps44
    go_wp2_with fail
    refine ca.mono ?_
    rintro e w1 ⟨rfl, hb⟩
    have HB := Lib.hid (HW.out.trans (hb.mono HW.out.size))
    have ht := (HO.out.turns (G := []) (Turns.of_below hb) List.not_mem_nil).text
    clear hb ca
    generalize p.g = g at *
    generalize p.o.text = s at *
    go_wp2_with fail
    go_ret2
    exact ⟨rfl, HB.out⟩
end
end Go.Proofs.YthejclgihhfenaaGreat.Hd

/-
  Layer 14: the developers' heap: an object is noted.
-/
namespace Go.Proofs.YthejclgihhfenaaGreat.Hd
open Go Go.RowKit Go.Proofs.YthejclgihhfenaaGreat.Pl Go.Proofs.YthejclgihhfenaaGreat.Tb Go.Proofs.YthejclgihhfenaaGreat.Vm Go.Proofs.YthejclgihhfenaaGreat.Hp Go.Proofs.YthejclgihhfenaaGreat.Td

/-- What is left when an object was noted. -/
def NoteSays (b : Nat) (h : Hp) (pb ob tb : Nat) (nb : Option Nat) (Fp : List Nat) (st : Nat) (ft : ByteArray → Option Int) (l : ObL) (i : Nat) (p : OP) (w : World) (e : Ending) (w' : World) : Prop :=
  e = .returned (.tuple #[]) ∧ Turns nb.toList w w' ∧ ∃ sn' fn', HXo w' b (setO h i (note h p.o)) pb ob tb nb Fp st ft sn' fn' (l.set i (some (notedP h p)))
section
variable {w w' : World} {b pb ob tb : Nat} {h : Hp} {nb : Option Nat} {Fp F G : List Nat} {sn : Nat} {ft : ByteArray → Option Int} {fn : Int → Option Unit} {l : ObL}
theorem neq_map (nb : Option Nat) (w : World) : (binOp .neq 67 (.map nb) (.map none)).run Tryz.prog w = .ok (.bool nb.isSome) w := by
  have h : ∀ d : Nat, (Op.equalIn (d + 1) 67 (.map nb) (.map none)).run Tryz.prog w = .ok (!nb.isSome) w := fun d => by
    cases nb <;> simp [Op.equalIn, run_underlying Tryz.underlying67]
  simp only [binOp]
  simp [Op.equal, Op.maxDepth, h 9999]
set_option maxRecDepth 100000 in
theorem note_fn {st : Nat} (H : HXo w b h pb ob tb nb Fp st ft sn fn l) {i : Nat} {p : OP} (hi : l[i]? = some (some p)) (v : Vl) (hv : v.In) (hn : v.n = (i : Int) + 1) :
    Calls Tryz.prog 56 #[.pointer (some ⟨b, 0, none⟩), v.val] w (NoteSays b h pb ob tb nb Fp st ft l i p w) := by
  have hwa := (Below.refl w.heap.size w).alloc (Nat.le_refl _) (.cells #[.int .u8 (v.kind : Int), .int .i64 v.n] 37)
  have h1 := H.below hwa
  have hx0 := new_block w (.cells #[.int .u8 (v.kind : Int), .int .i64 v.n] 37)
  have y0 := cell_of hx0 0 _ rfl
  have y1 := cell_of hx0 1 _ rfl
  have hc := h1.rm.notc
  have HW := Lib.hid hwa
  have H1 := Lib.hid h1
  have HN := Lib.hid hn
  have HV := Lib.hid hv
  obtain ⟨β, hβ⟩ : ∃ β, w.heap.size = β := ⟨_, rfl⟩
  have HBE := Lib.hid hβ
  obtain ⟨vk, vn⟩ := v
  dsimp only at *
  show Calls Tryz.prog 56 #[.pointer (some ⟨b, 0, none⟩), .agg #[.int .u8 (vk : Int), .int .i64 vn]] w _
  cases nb with
  | none =>
    have hq := neq_map none (w.alloc (.cells #[.int .u8 (vk : Int), .int .i64 vn] 37))
    simp only [Option.isSome_none] at hq
    clear hwa h1 hx0 H hv hn
    go_enter Tryz.func56, Tryz.ntmps56
    go_wp2_with fail
    refine bodyPost_end (v := .tuple #[]) (by simp [results, Tryz.results56, go_sem]) rfl ?_
    exact ⟨rfl, Turns.of_below HW.out, sn, fn, H1.out.noteOff hi⟩
  | some x =>
    have hq := neq_map (some x) (w.alloc (.cells #[.int .u8 (vk : Int), .int .i64 vn] 37))
    simp only [Option.isSome_some] at hq
    have HHI := Lib.hid hi
    have HLT := Lib.hid H.rm.lt
    clear hwa h1 hx0 H hv hn hi
    go_enter Tryz.func56, Tryz.ntmps56
    go_wp2_with fail
    generalize hW : w.alloc (.cells #[.int .u8 (vk : Int), .int .i64 vn] 37) = w0 at *
    rw [hβ] at y0 y1
    clear hW hβ
    obtain ⟨M, hM, hG⟩ := H1.out.rm.nots x rfl
    obtain ⟨w4, hrun, M4, hgo⟩ := hG.store sn_ok (w := w0.drew) hM (by have := (H1.out.nts x rfl).1; have := H1.out.fewNoted; omega) vn () HV.out.2
    have hrun : (Instr.mapUpdate 67 (.map (some x)) (.int .i64 vn) (.agg #[])).run Tryz.prog w0.drew = .ok () w4 := hrun
    obtain ⟨tag, T⟩ := H1.out.rm.tags
    have hbx : b ∉ [x] := fun hm => by
      have h1 := T.head
      rw [List.mem_singleton.1 hm, T.nots x rfl] at h1
      cases h1
    have hβx : β ∉ [x] := fun hm => by
      have h1 := HLT.out x (in_F.2 (.inr (.inr (.inr (.inl rfl)))))
      rw [← List.mem_singleton.1 hm] at h1
      have h2 := HBE.out
      omega
    have ht4 : Turns [x] w0.drew w4 := hgo.2.2.1
    have o6 : w4.cell? ⟨b, 6, none⟩ = some (.map (some x)) := cell_turns (w := w0.drew) hc ht4 hbx
    have o0 : w4.cell? ⟨β, 0, none⟩ = some (.int .u8 (vk : Int)) := cell_turns (w := w0.drew) y0 ht4 hβx
    have o1 : w4.cell? ⟨β, 1, none⟩ = some (.int .i64 vn) := cell_turns (w := w0.drew) y1 ht4 hβx
    have HGO := Lib.hid hgo
    have HBD := Lib.hid (show Below w.heap.size w w0.drew from HW.out.drew)
    have H2 := Lib.hid (show HXo w0.drew b h pb ob tb (some x) Fp st ft sn fn l from H1.out.below ((Below.refl _ _).drew))
    clear hgo hG hM T hbx hβx ht4
    go_region_held3 (fun w' => w'.cell? ⟨b, 6, none⟩ = some (.map (some x)) ∧ w'.cell? ⟨β, 0, none⟩ = some (.int .u8 (vk : Int)) ∧ w'.cell? ⟨β, 1, none⟩ = some (.int .i64 vn))
      (go_keep)
      (fail)
    go_wp2_with fail
    refine bodyPost_end (v := .tuple #[]) (by simp [results, Tryz.results56, go_sem]) rfl ?_
    have hn := HN.out
    have hgo := HGO.out
    rw [hn] at hgo
    exact ⟨rfl, (Turns.of_below HBD.out).trans hgo.2.2.1 (fun y hy => .inl hy), _, _, H2.out.noteOn HHI.out ⟨M4, hgo⟩⟩
end
end Go.Proofs.YthejclgihhfenaaGreat.Hd

/-
  Layer 14: the developers' heap: Store; what a call leaves.
-/
namespace Go.Proofs.YthejclgihhfenaaGreat.Hd
open Go Go.RowKit Go.Proofs.YthejclgihhfenaaGreat.Pl Go.Proofs.YthejclgihhfenaaGreat.Tb Go.Proofs.YthejclgihhfenaaGreat.Vm Go.Proofs.YthejclgihhfenaaGreat.Hp Go.Proofs.YthejclgihhfenaaGreat.Td

section
variable {w w' : World} {b pb ob tb : Nat} {h h' : Hp} {nb : Option Nat} {Fp Fp' F G : List Nat} {sn sn' : Nat} {ft ft' : ByteArray → Option Int} {fn fn' : Int → Option Unit} {l l' : ObL}
theorem chg_same {r : Value} (H : HX w b h pb ob tb nb Fp ft sn fn l) (hb : Below w.heap.size w w') : ChgSays HP b h (Fof b ob tb nb Fp l) r w (.returned r) w' :=
  ⟨rfl, _, ⟨pb, ob, tb, nb, Fp, ft, sn, fn, l, H.below hb, rfl⟩, Turns.of_below hb, fun _ hx => .inl hx⟩
theorem chg_of {r : Value} (H' : HX w' b h' pb ob tb nb Fp' ft' sn' fn' l') (ht : Turns (Fof b ob tb nb Fp l) w w') (hf : ∀ x ∈ Fof b ob tb nb Fp' l', x ∈ Fof b ob tb nb Fp l ∨ w.heap.size ≤ x) : ChgSays HP b h' (Fof b ob tb nb Fp l) r w (.returned r) w' :=
  ⟨rfl, _, ⟨pb, ob, tb, nb, Fp', ft', sn', fn', l', H', rfl⟩, ht, hf⟩
theorem F_set {i : Nat} {p q : OP} {R : Nat → Prop} (hi : l[i]? = some (some p)) (hg : q.g = p.g) (hG : ∀ x ∈ q.G, x ∈ p.G ∨ R x) : ∀ x ∈ Fof b ob tb nb Fp (l.set i (some q)), x ∈ Fof b ob tb nb Fp l ∨ R x := by
  intro x hx
  rcases in_F.1 hx with e | e | e | e | e | ⟨j, r, hj, e⟩
  · exact .inl (in_F.2 (.inl e))
  · exact .inl (in_F.2 (.inr (.inl e)))
  · exact .inl (in_F.2 (.inr (.inr (.inl e))))
  · exact .inl (in_F.2 (.inr (.inr (.inr (.inl e)))))
  · exact .inl (in_F.2 (.inr (.inr (.inr (.inr (.inl e))))))
  · rw [get_set (idx_lt hi)] at hj
    split at hj
    · injection hj with hj; injection hj with hj
      subst hj
      rcases e with e | e
      · exact .inl (in_F.2 (.inr (.inr (.inr (.inr (.inr ⟨i, p, hi, .inl (e.trans hg)⟩))))))
      · rcases hG x e with e | e
        · exact .inl (in_F.2 (.inr (.inr (.inr (.inr (.inr ⟨i, p, hi, .inr e⟩))))))
        · exact .inr e
    · exact .inl (in_F.2 (.inr (.inr (.inr (.inr (.inr ⟨j, r, hj, e⟩))))))
theorem F_nb (nb : Option Nat) : ∀ x ∈ nb.toList, x ∈ Fof b ob tb nb Fp l := fun _ hx => in_F.2 (.inr (.inr (.inr (.inl (Option.mem_toList.1 hx)))))
theorem F_obj {i : Nat} {p : OP} (hi : l[i]? = some (some p)) : p.g ∈ Fof b ob tb nb Fp l := in_F.2 (.inr (.inr (.inr (.inr (.inr ⟨i, p, hi, .inl rfl⟩)))))
theorem F_part {i : Nat} {p : OP} (hi : l[i]? = some (some p)) : ∀ x ∈ p.G, x ∈ Fof b ob tb nb Fp l := fun _ hx => in_F.2 (.inr (.inr (.inr (.inr (.inr ⟨i, p, hi, .inr hx⟩)))))
theorem setO_set (h : Hp) (i : Nat) (o o' : HO) : setO (setO h i o) i (note (setO h i o) o') = setO h i (note h o') := by
  unfold setO note
  dsimp only
  rw [List.set_set]
theorem idx_val {l : ObL} {v : Vl} {p : OP} (hn : 1 ≤ v.n) (_ : l[(v.n - 1).toNat]? = some (some p)) : v.n = (((v.n - 1).toNat : Nat) : Int) + 1 := by omega
def hasP (p : OP) (v : Vl) : OP := { p with o := { p.o with has := v } }
set_option maxRecDepth 100000 in
set_option maxHeartbeats 1000000 in
theorem store_fn' (H : HX w b h pb ob tb nb Fp ft sn fn l) (c v : Vl) (hc : c.In) (hv : v.In) :
    Calls Tryz.prog 24 #[.pointer (some ⟨b, 0, none⟩), c.val, v.val] w (ChgSays HP b (storeH h c v).1 (Fof b ob tb nb Fp l) (.int .i64 (storeH h c v).2) w) := by
  have hx := box2 w c v
  obtain ⟨β, hβ⟩ : ∃ β, w.heap.size = β := ⟨_, rfl⟩
  have HBE := Lib.hid hβ
  have h0 := H.below (hx.low.mono (Nat.le_refl _))
  have hs := h0.rm.self
  have cf := find_fn h0.rm 9 c hc
  have HH := Lib.hid H
  have H0 := Lib.hid h0
  rw [hβ] at hx
  have HX' := Lib.hid hx
  have HV := Lib.hid (And.intro hc hv)
  have x0 := cell_of hx.at0 0 _ rfl
  have x1 := cell_of hx.at0 1 _ rfl
  rcases findV_is h0 9 c with ⟨f1, f2⟩ | ⟨p, f1, hk, hh, hn, hi, hpk, f2, hO, hP, hD⟩
  · have e : storeH h c v = (h, 151) := by
      unfold storeH
      cases hf : findH h c with
      | none => rfl
      | some q =>
        obtain ⟨i, o⟩ := q
        exact if_neg (fun e => by rw [f2 e] at hf; cases hf)
    rw [e]
    rw [f1] at cf
    simp only [Option.map_none, ptrG] at cf
    clear h0 hx H f1 f2 e hc hv
    obtain ⟨ck, cn⟩ := c
    obtain ⟨vk, vn⟩ := v
    have cf : Calls Tryz.prog 62 #[.pointer (some ⟨b, 0, none⟩), .int .u8 9, .agg #[.int .u8 (ck : Int), .int .i64 cn]] ((w.alloc (.cells #[.int .u8 (ck : Int), .int .i64 cn] 37)).alloc (.cells #[.int .u8 (vk : Int), .int .i64 vn] 37)) _ := cf
    show Calls Tryz.prog 24 #[.pointer (some ⟨b, 0, none⟩), .agg #[.int .u8 (ck : Int), .int .i64 cn], .agg #[.int .u8 (vk : Int), .int .i64 vn]] w _
    dsimp only at *
    go_enter Tryz.func24, Tryz.ntmps24
    go_wp2_with fail
    generalize hW : (w.alloc (.cells #[.int .u8 (ck : Int), .int .i64 cn] 37)).alloc (.cells #[.int .u8 (vk : Int), .int .i64 vn] 37) = w0 at *
    clear hW hβ
    refine (made_fn b _ hs).mono ?_
    rintro e w1 ⟨rfl, rfl⟩
    go_wp2_with fail
    refine cf.mono ?_
    rintro e w2 ⟨rfl, hb⟩
    have HB := Lib.hid (show Below w.heap.size w w2 from by
      have h1 := HX'.out.low
      rw [← HBE.out] at h1
      exact h1.trans (hb.mono h1.size))
    clear hb cf x0 x1
    go_wp2_with fail
    go_ret
    exact chg_same HH.out HB.out
  · obtain ⟨i, hie⟩ : ∃ i, (c.n - 1).toNat = i := ⟨_, rfl⟩
    rw [hie] at hi f2
    have hci : c.n = (i : Int) + 1 := by omega
    have HI := Lib.hid (And.intro hi (And.intro hci (And.intro hpk hD)))
    have HF2 := Lib.hid (And.intro f2 hk)
    rw [f1] at cf
    simp only [Option.map_some, ptrG] at cf
    obtain ⟨R, hR⟩ : ∃ R, storeH h c v = R := ⟨_, rfl⟩
    have HR := Lib.hid hR
    rw [hR]
    clear hR
    obtain ⟨kb, hkb⟩ : ∃ kb, keepB h v = kb := ⟨_, rfl⟩
    have HKB := Lib.hid hkb
    clear h0 hx H f1 f2 hc hv hi hci hpk hD hh hn hie hkb hk hP
    obtain ⟨ck, cn⟩ := c
    obtain ⟨vk, vn⟩ := v
    have cf : Calls Tryz.prog 62 #[.pointer (some ⟨b, 0, none⟩), .int .u8 9, .agg #[.int .u8 (ck : Int), .int .i64 cn]] ((w.alloc (.cells #[.int .u8 (ck : Int), .int .i64 cn] 37)).alloc (.cells #[.int .u8 (vk : Int), .int .i64 vn] 37)) _ := cf
    show Calls Tryz.prog 24 #[.pointer (some ⟨b, 0, none⟩), .agg #[.int .u8 (ck : Int), .int .i64 cn], .agg #[.int .u8 (vk : Int), .int .i64 vn]] w _
    dsimp only at *
    go_enter Tryz.func24, Tryz.ntmps24
    go_wp2_with fail
    generalize hW : (w.alloc (.cells #[.int .u8 (ck : Int), .int .i64 cn] 37)).alloc (.cells #[.int .u8 (vk : Int), .int .i64 vn] 37) = w0 at *
    clear hW hβ
    refine (made_fn b _ hs).mono ?_
    rintro e w1 ⟨rfl, rfl⟩
    go_wp2_with fail
    refine cf.mono ?_
    rintro e w2 ⟨rfl, hb⟩
    have HLOW := Lib.hid (show Below w.heap.size w w1 from by rw [HBE.out]; exact HX'.out.low)
    have HB2 := Lib.hid (HLOW.out.trans (hb.mono HLOW.out.size))
    have H2 := Lib.hid (H0.out.below hb)
    have HX2 := Lib.hid (HX'.out.turns (G := []) (Turns.of_below hb) (fun _ h => absurd h List.not_mem_nil) (HX'.out.low.trans (hb.mono (by rw [← HX'.out.size]; exact HX'.out.low.size))))
    have v0 := cell_of HX2.out.at1 0 _ rfl
    have v1 := cell_of HX2.out.at1 1 _ rfl
    have ckp := keep_fn H2.out.rm ⟨vk, vn⟩ HV.out.2
    rw [H2.out.keepIs, HKB.out] at ckp
    have ckp : Calls Tryz.prog 66 #[.pointer (some ⟨b, 0, none⟩), .agg #[.int .u8 (vk : Int), .int .i64 vn]] w2 _ := ckp
    clear hb cf x0 x1 hs
    obtain ⟨g, hg⟩ : ∃ g, p.g = g := ⟨_, rfl⟩
    have HG := Lib.hid hg
    rw [hg]
    clear hg hO
    cases kb with
    | false =>
      have e : storeH h ⟨ck, cn⟩ ⟨vk, vn⟩ = (h, 150) := by
        unfold storeH
        rw [HF2.out.1]
        dsimp only
        rw [if_pos HF2.out.2, HKB.out, if_neg (by decide)]
      have HE := Lib.hid (HR.out.symm.trans e)
      clear e
      go_wp2_with fail
      refine ckp.mono ?_
      rintro e w3 ⟨rfl, hb⟩
      have HB3 := Lib.hid (HB2.out.trans (hb.mono HB2.out.size))
      clear hb ckp v0 v1
      go_wp2_with fail
      go_ret
      rw [HE.out]
      exact chg_same HH.out HB3.out
    | true =>
      have e : storeH h ⟨ck, cn⟩ ⟨vk, vn⟩ = (setO h i (note h { p.o with has := ⟨vk, vn⟩ }), 0) := by
        unfold storeH
        rw [HF2.out.1]
        dsimp only
        rw [if_pos HF2.out.2, HKB.out, if_pos rfl]
      have HE := Lib.hid (HR.out.symm.trans e)
      clear e
      go_wp2_with fail
      refine ckp.mono ?_
      rintro e w3 ⟨rfl, hb⟩
      have HB3 := Lib.hid (HB2.out.trans (hb.mono HB2.out.size))
      have H3 := Lib.hid (H2.out.below hb)
      have HX3 := Lib.hid (HX2.out.turns (G := []) (Turns.of_below hb) (fun _ h => absurd h List.not_mem_nil) (HX2.out.low.trans (hb.mono (by rw [← HX2.out.size]; exact HX2.out.low.size))))
      clear hb ckp v0 v1
      have v0 := cell_of HX3.out.at1 0 _ rfl
      have v1 := cell_of HX3.out.at1 1 _ rfl
      have x0 := cell_of HX3.out.at0 0 _ rfl
      have x1 := cell_of HX3.out.at0 1 _ rfl
      have hO3 := (H3.out.rm.each i p HI.out.1).1
      have hP3 := (H3.out.rm.each i p HI.out.1).2
      have c8 := hO3.h0
      have c9 := hO3.h1
      have f8 := hO3.shape.free 8
      have f9 := hO3.shape.free 9
      have hgb : g < β := by
        have h1 := HH.out.rm.lt _ (F_obj HI.out.1)
        have h2 := HG.out
        have h3 := HBE.out
        omega
      have hH := hO3.setHas ⟨vk, vn⟩
      have hr := H3.out.rm.setObj (G := [p.g]) (q := hasP p ⟨vk, vn⟩) HI.out.1 (fun x hx => .inl (List.mem_singleton.1 hx)) (turns_two w3 p.g 8 9) ⟨hH, by
        have h1 := hP3.turns (turns_two w3 p.g 8 9 (x := .int .u8 (vk : Int)) (y := .int .i64 vn)) (fun x hx hm => by
          obtain ⟨tag, T⟩ := H3.out.rm.tags
          have h1 := T.obj i p HI.out.1
          have h2 := T.part i p HI.out.1 x hx
          rw [List.mem_singleton.1 hm, h1] at h2
          omega)
        exact ⟨h1.tab, h1.cells, h1.none, h1.thr, h1.lt⟩⟩ rfl (fun x hx => .inl hx) rfl rfl
      have hD := HI.out.2.2.2
      have hX := H3.out.setSame HI.out.1 hr rfl rfl rfl rfl rfl ⟨hD.kind, hD.serial, hD.text, hD.notText, hD.notTab, hD.notFn, fun e => absurd HI.out.2.2.1 e, hD.mtv, HV.out.2, hD.proto, hD.cells⟩
      rw [HG.out] at c8 c9 f8 f9 hX
      have HX4 := Lib.hid hX
      have HTT := Lib.hid (turns_two w3 g 8 9 (x := .int .u8 (vk : Int)) (y := .int .i64 vn))
      have hgβ : g ≠ β := by omega
      have HGB := Lib.hid hgb
      clear hX hr hH hO3 hP3 hD hgb
      go_wp2_with fail
      generalize hW4 : (w3.setCell ⟨g, 8, none⟩ (.int .u8 (vk : Int))).setCell ⟨g, 9, none⟩ (.int .i64 vn) = w4 at *
      clear hW4
      have hi4 : (l.set i (some (hasP p ⟨vk, vn⟩)))[i]? = some (some (hasP p ⟨vk, vn⟩)) := by rw [get_set (idx_lt HI.out.1), if_pos rfl]
      have cno := note_fn HX4.out.toHXo hi4 ⟨ck, cn⟩ HV.out.1 HI.out.2.1
      have cno : Calls Tryz.prog 56 #[.pointer (some ⟨b, 0, none⟩), .agg #[.int .u8 (ck : Int), .int .i64 cn]] w4 _ := cno
      have HI4 := Lib.hid hi4
      clear hi4
      refine cno.mono ?_
      rintro e w5 ⟨rfl, ht5, sn5, fn5, h5⟩
      have h5 := HX4.out.noted HI4.out h5
      rw [setO_set, List.set_set] at h5
      have H5 := Lib.hid h5
      have HT5 := Lib.hid ht5
      clear cno h5 ht5 v0 v1 x0 x1 c8 c9 f8 f9
      go_wp2_with fail
      go_ret
      rw [HE.out]
      have hs3 := HB3.out.size
      refine chg_of H5.out (((Turns.of_below HB3.out).trans HTT.out (fun y hy => .inl ?_)).trans HT5.out (fun y hy => .inl (F_nb nb y hy))) (F_set (R := fun x => w.heap.size ≤ x) HI.out.1 rfl (fun x hx => .inl hx))
      rw [List.mem_singleton.1 hy, ← HG.out]
      exact F_obj HI.out.1
end
end Go.Proofs.YthejclgihhfenaaGreat.Hd
