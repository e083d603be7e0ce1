import Derived.Test.YthejclgihhfenaaGreatCm29
/-
  Layer 14: the developers' heap: Known; a text is cloned.
-/
namespace Go.Proofs.YthejclgihhfenaaGreat.Hd
open Go Go.RowKit Go.Proofs.YthejclgihhfenaaGreat.Pl Go.Proofs.YthejclgihhfenaaGreat.Tb Go.Proofs.YthejclgihhfenaaGreat.Vm Go.Proofs.YthejclgihhfenaaGreat.Hp Go.Proofs.YthejclgihhfenaaGreat.Td

theorem clone_fn (s : ByteArray) (w : World) (hs : s.size ≤ 1000000000) : Calls Tryz.prog 57 #[.string s] w fun e w' => e = .returned (.string s) ∧ Below w.heap.size w w' := by
  have c := fun w => Tryz.stringslite_Clone s w (by omega)
  go_enter Tryz.func57, Tryz.ntmps57
  go_wp2_with fail
  refine (c _).mono ?_
  rintro e w1 ⟨rfl, b1⟩
  go_wp2_with fail
  go_ret
  exact ⟨rfl, b1⟩
section
variable {w w' : World} {b pb ob tb : Nat} {h h' : Hp} {nb : Option Nat} {Fp Fp' F G : List Nat} {sn sn' : Nat} {ft ft' : ByteArray → Option Int} {fn fn' : Int → Option Unit} {l l' : ObL}
/-- The map of texts tells what the heap knows. -/
theorem known_is (ho : h.obs = l.map (Option.map (·.o))) (H : TxtIs ft l) (s : ByteArray) : (∃ (k : Nat) (p : OP), knownH h s = some k ∧ ft s = some ((k : Int) + 1) ∧ l[k]? = some (some p) ∧ p.o.kind = 4 ∧ p.o.text = s) ∨ (knownH h s = none ∧ ft s = none) := by
  have look : ∀ (i : Nat) (hi : i < h.obs.length), isText s h.obs[i] = true → ∃ p, l[i]? = some (some p) ∧ p.o.kind = 4 ∧ p.o.text = s := fun i hi ht => by
    have h1 := obs_at ho i
    rw [List.getElem?_eq_getElem hi] at h1
    cases e : l[i]? with
    | none => rw [e] at h1; cases h1
    | some x =>
      rw [e] at h1
      have h1 := Option.some.inj h1
      rw [h1] at ht
      cases x with
      | none => cases ht
      | some p =>
        have ht : (decide (p.o.kind = 4) && decide (p.o.text = s)) = true := ht
        rw [Bool.and_eq_true] at ht
        exact ⟨p, rfl, of_decide_eq_true ht.1, of_decide_eq_true ht.2⟩
  by_cases hk : h.obs.findIdx (isText s) < h.obs.length
  · left
    have h1 : isText s h.obs[h.obs.findIdx (isText s)] = true := List.findIdx_getElem (w := hk)
    obtain ⟨p, h2, h3, h4⟩ := look _ hk h1
    exact ⟨_, p, if_pos hk, (H s _).2 ⟨_, p, h2, h3, h4, rfl⟩, h2, h3, h4⟩
  · right
    refine ⟨if_neg hk, ?_⟩
    cases e : ft s with
    | none => rfl
    | some n =>
      obtain ⟨i, p, h1, h2, h3, _⟩ := (H s n).1 e
      exfalso
      apply hk
      have hi : i < h.obs.length := by rw [ho, List.length_map]; exact idx_lt h1
      refine List.findIdx_lt_length_of_exists ⟨h.obs[i], List.getElem_mem hi, ?_⟩
      have h5 := obs_at ho i
      rw [List.getElem?_eq_getElem hi, h1] at h5
      rw [Option.some.inj h5]
      show (decide (p.o.kind = 4) && decide (p.o.text = s)) = true
      rw [decide_eq_true h2, decide_eq_true h3]
      rfl
def knownV (o : Option Int) : Vl := match o with
  | some n => ⟨4, n⟩
  | none => nilV
set_option maxRecDepth 100000 in
theorem known_fn' (H : HX w b h pb ob tb nb Fp ft sn fn l) (s : ByteArray) (hs : s.size ≤ 1000000000) :
    Calls Tryz.prog 36 #[.pointer (some ⟨b, 0, none⟩), .string s] w fun e w' => e = .returned (.tuple #[(knownV (ft s)).val, .bool (ft s).isSome]) ∧ Below w.heap.size w w' := by
  obtain ⟨β, hβ⟩ : ∃ β, w.heap.size = β := ⟨_, rfl⟩
  have HBE := Lib.hid hβ
  have hal := (Below.refl w.heap.size w).alloc (Nat.le_refl _) (.cells #[.int .u8 0, .int .i64 0] 37)
  have hx := new_block w (.cells #[.int .u8 0, .int .i64 0] 37)
  rw [hβ] at hx
  have h0 := H.below hal
  have hself := h0.rm.self
  have hm := h0.rm.txtc
  obtain ⟨M, hM, hG⟩ := h0.rm.txts
  have lk : ∀ w' : World, w'.heap[tb]? = some M → (Instr.lookup 66 (.map (some tb)) (.string s) true).run Tryz.prog w' = .ok (.tuple #[.int .i64 ((ft s).getD 0), .bool (ft s).isSome]) w' := fun w' hw' => hG.look_ok st_ok (w := w') hw' s (by show s.size ≤ maxLen; unfold maxLen; omega)
  have HX0 := Lib.hid hx
  have HLOW := Lib.hid hal
  clear h0 hx H hal hG
  have z0 := cell_of HX0.out 0 _ rfl
  have z1 := cell_of HX0.out 1 _ rfl
  have f0 := free_of HX0.out 0
  have f1 := free_of HX0.out 1
  have hle : w.heap.size ≤ β := by omega
  cases hf : ft s with
  | none =>
    rw [hf] at lk
    simp only [Option.getD_none, Option.isSome_none] at lk
    simp only [knownV, nilV, Vl.val, Vl.cells, Option.isSome_none]
    have HLE := Lib.hid hle
    clear hf hle
    go_enter Tryz.func36, Tryz.ntmps36
    go_wp2_with fail
    generalize hW : w.alloc (.cells #[.int .u8 0, .int .i64 0] 37) = w0 at *
    clear hW hβ
    refine (made_fn b _ hself).mono ?_
    rintro e w1 ⟨rfl, rfl⟩
    have lk0 := lk w1 hM
    go_wp2_with fail
    refine bodyPost_ret (v := .tuple #[.agg #[.int .u8 0, .int .i64 0], .bool false]) (by simp [results, Tryz.results36, go_sem, z0, z1]) rfl ?_
    exact ⟨rfl, (HLOW.out.setCell (p := ⟨β, 0, none⟩) HLE.out _).setCell (p := ⟨β, 1, none⟩) HLE.out _⟩
  | some n =>
    rw [hf] at lk
    simp only [Option.getD_some, Option.isSome_some] at lk
    simp only [knownV, Vl.val, Vl.cells, Option.isSome_some]
    have HLE := Lib.hid hle
    clear hf hle
    go_enter Tryz.func36, Tryz.ntmps36
    go_wp2_with fail
    generalize hW : w.alloc (.cells #[.int .u8 0, .int .i64 0] 37) = w0 at *
    clear hW hβ
    refine (made_fn b _ hself).mono ?_
    rintro e w1 ⟨rfl, rfl⟩
    have lk0 := lk w1 hM
    go_wp2_with fail
    refine bodyPost_ret (v := .tuple #[.agg #[.int .u8 4, .int .i64 n], .bool true]) (by simp [results, Tryz.results36, go_sem, z0, z1]) rfl ?_
    exact ⟨rfl, (HLOW.out.setCell (p := ⟨β, 0, none⟩) HLE.out _).setCell (p := ⟨β, 1, none⟩) HLE.out _⟩
end
end Go.Proofs.YthejclgihhfenaaGreat.Hd

/-
  Layer 14: the developers' heap: Str.
-/
namespace Go.Proofs.YthejclgihhfenaaGreat.Hd
open Go Go.RowKit Go.Proofs.YthejclgihhfenaaGreat.Pl Go.Proofs.YthejclgihhfenaaGreat.Tb Go.Proofs.YthejclgihhfenaaGreat.Vm Go.Proofs.YthejclgihhfenaaGreat.Hp Go.Proofs.YthejclgihhfenaaGreat.Td

def textP (s : ByteArray) : OP := { o := { kind := 4, text := s }, g := 0, t := 0, G := [], cv := .slice none 0 0 }
theorem text_part (s : ByteArray) (w : World) : PartAt w (textP s) := ⟨fun h => (by cases h), vls_nil _ _, fun _ _ => rfl, fun h => (by cases h), fun _ h => absurd h List.not_mem_nil⟩
theorem text_data {s : ByteArray} (hs : s.size ≤ 65535) : DataOk (textP s).o := ⟨.inl rfl, in_zero, hs, fun h => absurd rfl h, fun _ => ⟨rfl, rfl⟩, fun _ => ⟨rfl, rfl⟩, fun _ => rfl, nil_in, nil_in, in_zero, ⟨Nat.zero_le _, fun _ h => absurd h List.not_mem_nil⟩⟩
section
variable {w w' : World} {b pb ob tb : Nat} {h h' : Hp} {nb : Option Nat} {Fp Fp' F G : List Nat} {sn sn' : Nat} {ft ft' : ByteArray → Option Int} {fn fn' : Int → Option Unit} {l l' : ObL}
set_option maxRecDepth 100000 in
set_option maxHeartbeats 1000000 in
theorem str_fn' (H : HX w b h pb ob tb nb Fp ft sn fn l) (s : ByteArray) :
    Calls Tryz.prog 10 #[.pointer (some ⟨b, 0, none⟩), .string s] w (ChgSays HP b (strH h s).1 (Fof b ob tb nb Fp l) (two (strH h s).2.1 (strH h s).2.2) w) := by
  obtain ⟨β, hβ⟩ : ∃ β, w.heap.size = β := ⟨_, rfl⟩
  have HBE := Lib.hid hβ
  have hal := (Below.refl w.heap.size w).alloc (Nat.le_refl _) (.cells #[.int .u8 0, .int .i64 0] 37)
  have hx := new_block w (.cells #[.int .u8 0, .int .i64 0] 37)
  rw [hβ] at hx
  have h0 := H.below hal
  have hself := h0.rm.self
  have HH := Lib.hid H
  have H0 := Lib.hid h0
  have HX0 := Lib.hid hx
  have HLOW := Lib.hid hal
  have z0 := cell_of HX0.out 0 _ rfl
  have z1 := cell_of HX0.out 1 _ rfl
  have f0 := free_of HX0.out 0
  have f1 := free_of HX0.out 1
  have hβF : β ∉ Fof b ob tb nb Fp l := fun hm => by have := H.rm.lt _ hm; omega
  have HBF := Lib.hid hβF
  obtain ⟨R, hR⟩ : ∃ R, strH h s = R := ⟨_, rfl⟩
  have HR := Lib.hid hR
  rw [hR]
  clear h0 hx H hR hal hβF
  by_cases hlen : 65535 < s.size
  · have hl : (65535 : Int) < (s.size : Int) := by omega
    have HL := Lib.hid hlen
    clear hlen
    go_enter Tryz.func10, Tryz.ntmps10
    go_wp2_with fail
    generalize hW : w.alloc (.cells #[.int .u8 0, .int .i64 0] 37) = w0 at *
    clear hW hβ
    refine (made_fn b _ hself).mono ?_
    rintro e w1 ⟨rfl, rfl⟩
    go_wp2_with fail
    refine bodyPost_ret (v := .tuple #[.agg #[.int .u8 0, .int .i64 0], .int .i64 3]) (by simp [results, Tryz.results10, go_sem, z0, z1]) rfl ?_
    have e : R = (h, nilV, 3) := by
      rw [← HR.out]
      unfold strH
      exact if_pos HL.out
    rw [e]
    exact chg_box H0.out (Turns.of_below HLOW.out) (fun x hx => .inl hx) HBF.out (by rw [HBE.out]; exact Nat.le_refl _)
  · have hl : ¬ (65535 : Int) < (s.size : Int) := by omega
    have HL := Lib.hid hlen
    have HLI := Lib.hid hl
    clear hlen
    obtain ⟨sz, hsz⟩ : ∃ sz : Int, (s.size : Int) = sz := ⟨_, rfl⟩
    have HSZ := Lib.hid hsz
    have hl2 : ¬ (65535 : Int) < sz := by omega
    have ck := known_fn' H0.out s (by have := HL.out; omega)
    rcases known_is H0.out.obs H0.out.txt s with ⟨k, p, hk1, hk2, hk3, hk4, hk5⟩ | ⟨hk1, hk2⟩
    · rw [hk2] at ck
      simp only [knownV, Vl.val, Vl.cells, Option.isSome_some] at ck
      have ck : Calls Tryz.prog 36 #[.pointer (some ⟨b, 0, none⟩), .string s] (w.alloc (.cells #[.int .u8 0, .int .i64 0] 37)) (fun e w' => e = .returned (.tuple #[.agg #[.int .u8 4, .int .i64 ((k : Int) + 1)], .bool true]) ∧ Below (w.alloc (.cells #[.int .u8 0, .int .i64 0] 37)).heap.size (w.alloc (.cells #[.int .u8 0, .int .i64 0] 37)) w') := ck
      have HK := Lib.hid (And.intro hk1 (And.intro hk2 (And.intro hk3 (And.intro hk4 hk5))))
      have hkin : In64 ((k : Int) + 1) := by
        obtain ⟨_, _, _, h1, _⟩ := HH.out.rm.pool
        have h2 := h1.len
        rw [ob_is HH.out.obs, List.length_map] at h2
        have h3 := idx_lt hk3
        unfold In64
        omega
      obtain ⟨kid, hkid⟩ : ∃ kid : Int, (k : Int) + 1 = kid := ⟨_, rfl⟩
      have HKID := Lib.hid hkid
      rw [hkid] at ck hkin
      have HKIN := Lib.hid hkin
      clear hk1 hk2 hk3 hk4 hk5 hkin hkid hl hsz
      go_enter Tryz.func10, Tryz.ntmps10
      go_wp2_with fail
      generalize hW : w.alloc (.cells #[.int .u8 0, .int .i64 0] 37) = w0 at *
      clear hW hβ
      refine (made_fn b _ hself).mono ?_
      rintro e w1 ⟨rfl, rfl⟩
      rw [← HSZ.out] at hl2
      go_wp2_with fail
      refine ck.mono ?_
      rintro e w2 ⟨rfl, hb⟩
      clear ck
      have hal2 : Below w2.heap.size w2 (w2.alloc (.cells #[.int .u8 4, .int .i64 kid] 37)) := (Below.refl _ _).alloc (Nat.le_refl _) _
      have hb3 := hb.trans (hal2.mono hb.size)
      have H3 := Lib.hid (H0.out.below hb3)
      have hg := new_block w2 (.cells #[.int .u8 4, .int .i64 kid] 37)
      have hx3 := (hb3.block β (lt_of_get HX0.out)).trans HX0.out
      have HB3 := Lib.hid (HLOW.out.trans (hb3.mono HLOW.out.size))
      obtain ⟨γ, hγ⟩ : ∃ γ, w2.heap.size = γ := ⟨_, rfl⟩
      have HGB := Lib.hid (show β < γ from by
        have h1 := lt_of_get HX0.out
        have h2 := hb.size
        omega)
      have hlt2 : ∀ x ∈ Fof b ob tb nb Fp l, x < γ := fun x hx => by
        have h1 := H0.out.rm.lt x hx
        have h2 := hb.size
        omega
      have HLT := Lib.hid hlt2
      rw [hγ] at hg
      have cno := note_fn H3.out.toHXo HK.out.2.2.1 ⟨4, kid⟩ ⟨show (4 : Nat) < 256 by decide, HKIN.out⟩ HKID.out.symm
      have cno : Calls Tryz.prog 56 #[.pointer (some ⟨b, 0, none⟩), .agg #[.int .u8 4, .int .i64 kid]] (w2.alloc (.cells #[.int .u8 4, .int .i64 kid] 37)) _ := cno
      clear hb hal2 hb3 hlt2 z0 z1 f0 f1
      go_wp2_with fail
      generalize hW3 : w2.alloc (.cells #[.int .u8 4, .int .i64 kid] 37) = w3 at *
      clear hW3 hγ
      refine cno.mono ?_
      rintro e w4 ⟨rfl, ht4, sn4, fn4, h4⟩
      have h4 := H3.out.noted HK.out.2.2.1 h4
      have hg4 := (ht4.block γ (lt_of_get hg) (fun hm => Nat.lt_irrefl _ (HLT.out γ (F_nb nb γ hm)))).trans hg
      have hx4 := (ht4.block β (lt_of_get hx3) (fun hm => HBF.out (F_nb nb β hm))).trans hx3
      have g0 := cell_of hg4 0 _ rfl
      have g1 := cell_of hg4 1 _ rfl
      have z0 := cell_of hx4 0 _ rfl
      have z1 := cell_of hx4 1 _ rfl
      have f0 := free_of hx4 0
      have f1 := free_of hx4 1
      have H4 := Lib.hid h4
      have HT4 := Lib.hid ht4
      have hne : γ ≠ β := by have := HGB.out; omega
      clear h4 ht4 cno hg hg4 hx3 hx4
      go_wp2_with fail
      refine bodyPost_ret (v := .tuple #[.agg #[.int .u8 4, .int .i64 kid], .int .i64 0]) (by simp [results, Tryz.results10, go_sem, z0, z1]) rfl ?_
      have e : R = (setO h k (note h p.o), ⟨4, kid⟩, 0) := by
        rw [← HR.out, ← HKID.out]
        unfold strH
        rw [if_neg HL.out, HK.out.1]
        dsimp only
        rw [obs_at HH.out.obs, HK.out.2.2.1]
        rfl
      rw [e]
      have hFs := F_set (q := notedP h p) (b := b) (ob := ob) (tb := tb) (nb := nb) (Fp := Fp) (R := fun x => w.heap.size ≤ x ∧ x ≠ β) HK.out.2.2.1 rfl (fun x hx => .inl hx)
      exact chg_box H4.out ((Turns.of_below HB3.out).trans HT4.out (fun x hx => .inl (F_nb nb x hx))) (fun x hx => (hFs x hx).imp id (·.1)) (fun hm => (hFs β hm).elim HBF.out (fun e => e.2 rfl)) (by rw [HBE.out]; exact Nat.le_refl _)
    · rw [hk2] at ck
      simp only [knownV, nilV, Vl.val, Vl.cells, Option.isSome_none] at ck
      have ck : Calls Tryz.prog 36 #[.pointer (some ⟨b, 0, none⟩), .string s] (w.alloc (.cells #[.int .u8 0, .int .i64 0] 37)) (fun e w' => e = .returned (.tuple #[.agg #[.int .u8 0, .int .i64 0], .bool false]) ∧ Below (w.alloc (.cells #[.int .u8 0, .int .i64 0] 37)).heap.size (w.alloc (.cells #[.int .u8 0, .int .i64 0] 37)) w') := ck
      have HK := Lib.hid (And.intro hk1 hk2)
      clear hk1 hk2 hl hsz
      go_enter Tryz.func10, Tryz.ntmps10
      go_wp2_with fail
      generalize hW : w.alloc (.cells #[.int .u8 0, .int .i64 0] 37) = w0 at *
      clear hW hβ
      refine (made_fn b _ hself).mono ?_
      rintro e w1 ⟨rfl, rfl⟩
      rw [← HSZ.out] at hl2
      go_wp2_with fail
      refine ck.mono ?_
      rintro e w2 ⟨rfl, hb⟩
      clear ck
      have hal2 : Below w2.heap.size w2 (w2.alloc (.cells #[.int .u8 0, .int .i64 0] 37)) := (Below.refl _ _).alloc (Nat.le_refl _) _
      have hb3 := hb.trans (hal2.mono hb.size)
      have HB3 := Lib.hid hb3
      have ccl := clone_fn s (w2.alloc (.cells #[.int .u8 0, .int .i64 0] 37)) (by have := HL.out; omega)
      clear hb hal2 hb3 z0 z1 f0 f1
      go_wp2_with fail
      generalize hW3 : w2.alloc (.cells #[.int .u8 0, .int .i64 0] 37) = w3 at *
      clear hW3
      refine ccl.mono ?_
      rintro e w4 ⟨rfl, hb⟩
      have hb4 := HB3.out.trans (hb.mono HB3.out.size)
      have H4 := Lib.hid (H0.out.below hb4)
      have hx4 := (hb4.block β (lt_of_get HX0.out)).trans HX0.out
      have HX4 := Lib.hid hx4
      have HB4 := Lib.hid (HLOW.out.trans (hb4.mono HLOW.out.size))
      have ca := add_fn H4.out.toHXo (textP s) rfl rfl (text_part _ _) (text_data (by have := HL.out; omega)) (fun _ hx => absurd hx List.not_mem_nil) (fun e => (by cases e)) (fun _ _ _ _ => ⟨List.not_mem_nil, fun e => (by cases e)⟩)
      have ca : Calls Tryz.prog 58 #[.pointer (some ⟨b, 0, none⟩), .agg #[.int .u8 4, .int .i64 0, .string s, .pointer none, .int .u8 0, .int .i64 0, .int .i64 0, .slice none 0 0, .int .u8 0, .int .i64 0, .pointer none]] w4 _ := ca
      clear hb hb4 ccl hx4
      go_wp2_with fail
      refine ca.mono ?_
      intro e w5 h5
      clear ca
      have hse : strH h s = addH h (textP s).o := by
        unfold strH
        rw [if_neg HL.out, HK.out.1]
        rfl
      have HSE := Lib.hid hse
      clear hse
      rcases h5 with ⟨hc, rfl, Fp', sn', fn', hx, ht, hf⟩ | ⟨hc, rfl, Fp', sn', fn', q, hx, hq, hg, hG, hqt, ht, hf⟩
      · have e1 : R = (h, nilV, 152) := by
          rw [← HR.out, HSE.out]
          unfold addH
          exact if_pos hc
        have HE := Lib.hid e1
        have hnb : β ∉ Fof b ob tb nb Fp' l := fun hm => by
          rcases F_pool (R := fun x => w4.heap.size ≤ x) hf β hm with h1 | h1
          · exact HBF.out h1
          · have h2 := lt_of_get HX4.out
            omega
        have hx5 := (ht.block β (lt_of_get HX4.out) HBF.out).trans HX4.out
        have z0 := cell_of hx5 0 _ rfl
        have z1 := cell_of hx5 1 _ rfl
        have f0 := free_of hx5 0
        have f1 := free_of hx5 1
        have hne : w5.heap.size ≠ β := by have := lt_of_get hx5; omega
        have H5 := Lib.hid (show HX w5 b h pb ob tb nb Fp' ft sn' fn' l from ⟨hx, H4.out.txt⟩)
        have HT5 := Lib.hid ht
        have HF5 := Lib.hid hf
        have HNB := Lib.hid hnb
        have hal5 : Below w5.heap.size w5 (w5.alloc (.cells #[.int .u8 0, .int .i64 0] 37)) := (Below.refl _ _).alloc (Nat.le_refl _) _
        have HA5 := Lib.hid hal5
        have hx6 := (hal5.block β (lt_of_get hx5)).trans hx5
        have y0 := cell_of hx6 0 _ rfl
        have y1 := cell_of hx6 1 _ rfl
        have k0 := free_of hx6 0
        have k1 := free_of hx6 1
        clear hx ht hf hnb e1 hc hx5 hal5 hx6
        unfold two nilV Vl.val Vl.cells
        dsimp only
        go_wp2_with fail
        refine bodyPost_ret (v := .tuple #[.agg #[.int .u8 0, .int .i64 0], .int .i64 152]) (by simp [results, Tryz.results10, go_sem, y0, y1]) rfl ?_
        rw [HE.out]
        have hb4 := HB4.out.size
        exact chg_box (H5.out.below HA5.out) (((Turns.of_below HB4.out).trans HT5.out (fun x hx => .inl hx)).trans (Turns.of_below (F := []) HA5.out) (fun x hx => absurd hx List.not_mem_nil)) (fun x hx => F_pool (R := fun x => w.heap.size ≤ x) (fun x hx => (HF5.out x hx).imp id (fun h1 => Nat.le_trans hb4 h1)) x hx) HNB.out (by rw [HBE.out]; exact Nat.le_refl _)
      · obtain ⟨kid, hkid⟩ : ∃ kid : Int, (leastL (obOf h) : Int) + 1 = kid := ⟨_, rfl⟩
        have HKID := Lib.hid hkid
        have e1 : R = ({ h with obs := putO h.obs (leastL (obOf h)) { (textP s).o with serial := serN h (textP s).o.kind, noted := h.watch }, made := madeN h (textP s).o.kind }, ⟨4, kid⟩, 0) := by
          rw [← HR.out, HSE.out, ← hkid]
          unfold addH
          rw [if_neg hc]
          rfl
        have HE := Lib.hid e1
        rw [show two (valO (leastL (obOf h)) (textP s).o) 0 = .tuple #[.agg #[.int .u8 4, .int .i64 kid], .int .i64 0] from by rw [← hkid]; rfl]
        have hem := least_empty HH.out.obs
        have hkin : In64 kid := by
          rw [← hkid]
          obtain ⟨_, _, _, h1, _⟩ := HH.out.rm.pool
          have h2 := h1.len
          have h3 := least_le (obOf h)
          unfold In64
          omega
        have hfp : ∀ x ∈ Fof b ob tb nb Fp' (putP l (leastL (obOf h)) q), x ∈ Fof b ob tb nb Fp l ∨ w4.heap.size ≤ x := fun x hx => F_put (R := fun x => w4.heap.size ≤ x) hem hf hg (fun x hx => by rw [hG] at hx; cases hx) x hx
        have hnb : β ∉ Fof b ob tb nb Fp' (putP l (leastL (obOf h)) q) := fun hm => by
          rcases hfp β hm with h1 | h1
          · exact HBF.out h1
          · have h2 := lt_of_get HX4.out
            omega
        have hx5 := (ht.block β (lt_of_get HX4.out) HBF.out).trans HX4.out
        obtain ⟨γ, hγ⟩ : ∃ γ, w5.heap.size = γ := ⟨_, rfl⟩
        have hne : γ ≠ β := by have := lt_of_get hx5; omega
        have hal5 : Below w5.heap.size w5 (w5.alloc (.cells #[.int .u8 4, .int .i64 kid] 37)) := (Below.refl _ _).alloc (Nat.le_refl _) _
        have hx6 := (hal5.block β (lt_of_get hx5)).trans hx5
        have hg6 := new_block w5 (.cells #[.int .u8 4, .int .i64 kid] 37)
        rw [hγ] at hg6
        have h6 := hx.below hal5
        have hlt : ∀ x ∈ Fof b ob tb nb Fp' (putP l (leastL (obOf h)) q), x < γ := fun x hm => by have := hx.rm.lt x hm; omega
        have t6 := ((Turns.of_below HB4.out).trans ht (fun x hx => .inl hx)).trans (Turns.of_below (F := []) hal5) (fun x hx => absurd hx List.not_mem_nil)
        have HT6 := Lib.hid t6
        have HFP := Lib.hid hfp
        have HNB := Lib.hid hnb
        have HLT := Lib.hid hlt
        have HQ := Lib.hid (And.intro hq hem)
        have HX6 := Lib.hid h6
        have m6 := h6.rm.txtc
        clear hx ht hf e1 hc hx5 hal5 h6 t6 hfp hnb hlt hq hem hg hG hqt hkid
        go_upto_region 12 with fail
        generalize hW6 : w5.alloc (.cells #[.int .u8 4, .int .i64 kid] 37) = w6 at *
        clear hW6 hγ
        have g1 := cell_of hg6 1 _ rfl
        obtain ⟨M, hM, hGM⟩ := HX6.out.rm.txts
        obtain ⟨w7, hrun, M7, hgo⟩ := hGM.store st_ok (w := w6.drew) hM (by have h1 := HH.out.fewText; omega) s kid (by show s.size ≤ maxLen; unfold maxLen; have := HL.out; omega)
        rw [HK.out.2, if_neg (show ¬ (none : Option Int).isSome = true from by decide)] at hgo
        have hrun : (Instr.mapUpdate 66 (.map (some tb)) (.string s) (.int .i64 kid)).run Tryz.prog w6.drew = .ok () w7 := hrun
        have ht7 : Turns [tb] w6.drew w7 := hgo.2.2.1
        have htF : tb ∈ Fof b ob tb nb Fp' (putP l (leastL (obOf h)) q) := in_F.2 (.inr (.inr (.inl rfl)))
        have hγt : γ ∉ [tb] := fun hm => by have h1 := HLT.out tb htF; rw [← List.mem_singleton.1 hm] at h1; exact Nat.lt_irrefl _ h1
        have hβt : β ∉ [tb] := fun hm => HNB.out (by rw [List.mem_singleton.1 hm]; exact htF)
        have hbt : b ∉ [tb] := fun hm => by
          obtain ⟨tag, T⟩ := HX6.out.rm.tags
          have h1 := T.head
          rw [List.mem_singleton.1 hm, T.txts] at h1
          cases h1
        have m7 : w7.cell? ⟨b, 4, none⟩ = some (.map (some tb)) := cell_turns (w := w6.drew) m6 ht7 hbt
        have hg7 := (ht7.block γ (lt_of_get hg6) hγt).trans hg6
        have n1 := cell_of hg7 1 _ rfl
        have hx7 := (ht7.block β (lt_of_get hx6) hβt).trans hx6
        have r7 := (HX6.out.rm.below ((Below.refl _ _).drew)).setTxts ⟨M7, hgo⟩
        have t7 := (HT6.out.trans (Turns.of_below (F := []) ((Below.refl w6.heap.size w6).drew)) (fun x hx => absurd hx List.not_mem_nil)).trans ht7 (fun x hx => .inl (by rw [List.mem_singleton.1 hx]; exact in_F.2 (.inr (.inr (.inl rfl)))))
        have hqk : q.o.kind = 4 := by rw [HQ.out.1]; rfl
        have hqs : q.o.text = s := by rw [HQ.out.1]; rfl
        have h7 : HX w7 b { h with obs := putO h.obs (leastL (obOf h)) { (textP s).o with serial := serN h (textP s).o.kind, noted := h.watch }, made := madeN h (textP s).o.kind } pb ob tb nb Fp' (fun j => if j = s then some kid else ft j) sn' fn' (putP l (leastL (obOf h)) q) := by
          refine ⟨{ HX6.out with rm := ?_ }, ?_⟩
          · rw [cnt_putP textO rfl HQ.out.2, show textO (some q) = true from decide_eq_true hqk]
            exact r7
          · have h8 := txt_more (q := q) H4.out.txt HQ.out.2 hqk (by rw [hqs]; exact HK.out.2)
            rw [hqs, HKID.out] at h8
            exact h8
        have H7 := Lib.hid h7
        have HT7 := Lib.hid t7
        have HG7 := Lib.hid hg7
        have HX7 := Lib.hid hx7
        clear hgo hM hGM ht7 htF hγt hβt hbt r7 t7 h7 hqk hqs hg7 hx7 hx6 hg6 hkin
        go_region_held3 (fun w' => w'.cell? ⟨b, 4, none⟩ = some (.map (some tb)) ∧ w'.cell? ⟨γ, 1, none⟩ = some (.int .i64 kid))
          (go_keep)
          (fail)
        clear hrun m6 m7 g1 n1
        have g0 := cell_of HG7.out 0 _ rfl
        have g1 := cell_of HG7.out 1 _ rfl
        have z0 := cell_of HX7.out 0 _ rfl
        have z1 := cell_of HX7.out 1 _ rfl
        have f0 := free_of HX7.out 0
        have f1 := free_of HX7.out 1
        go_wp2_with fail
        refine bodyPost_ret (v := .tuple #[.agg #[.int .u8 4, .int .i64 kid], .int .i64 0]) (by simp [results, Tryz.results10, go_sem, z0, z1]) rfl ?_
        rw [HE.out]
        have hb4 := HB4.out.size
        exact chg_box H7.out HT7.out (fun x hx => (HFP.out x hx).imp id (fun h1 => Nat.le_trans hb4 h1)) HNB.out (by rw [HBE.out]; exact Nat.le_refl _)
end
end Go.Proofs.YthejclgihhfenaaGreat.Hd
