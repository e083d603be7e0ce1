import Derived.Test.YthejclgihhfenaaGreatCm33
/-
  Lists of values that a call makes of its own: one more at the end; what a list in such a block says.
-/
namespace Go.Proofs.YthejclgihhfenaaGreat.Hd
open Go Go.RowKit Go.Proofs.YthejclgihhfenaaGreat.Pl Go.Proofs.YthejclgihhfenaaGreat.Tb Go.Proofs.YthejclgihhfenaaGreat.Vm Go.Proofs.YthejclgihhfenaaGreat.Hp Go.Proofs.YthejclgihhfenaaGreat.Td

def vcl (L : List Vl) : List Value := L.flatMap (fun v => [.int .u8 (v.kind : Int), .int .i64 v.n])
theorem vcl_len (L : List Vl) : (vcl L).length = L.length * 2 := by
  induction L with
  | nil => rfl
  | cons a L ih =>
    show (_ :: _ :: vcl L).length = _
    rw [List.length_cons, List.length_cons, ih, List.length_cons]; omega
theorem vcl_get : ∀ (L : List Vl) (j : Nat) (h : j < L.length), (vcl L)[j * 2]? = some (.int .u8 (L[j].kind : Int)) ∧ (vcl L)[j * 2 + 1]? = some (.int .i64 L[j].n)
  | [], j, h => absurd h (Nat.not_lt_zero _)
  | a :: L, 0, h => ⟨rfl, rfl⟩
  | a :: L, j + 1, h => by
    have ih := vcl_get L j (Nat.lt_of_succ_lt_succ h)
    rw [show (j + 1) * 2 = j * 2 + 1 + 1 by omega]
    exact ih
theorem infoVl : (Tryz.prog.info? 37).map (fun i => (i.zero, i.size, i.bytes)) = some (some (.agg #[.int .u8 0, .int .i64 0]), 2, 16) := by kernel_rfl
/-- v is a list of the values L, in a block of its own from B on. -/
def OwnV (B : Nat) (w : World) (v : Value) (L : List Vl) : Prop := w.ownsRow B 37 2 v L.length (vcl L)
section
variable {w w' : World} {B : Nat} {v : Value} {L : List Vl}
theorem OwnV.slice (h : OwnV B w v L) : ∃ ao c, v = .slice ao L.length c := own_slice h
theorem OwnV.vls (h : OwnV B w v L) (hl : L.length ≤ 1000000) : VlsAt B w v L := by
  have h0 := h
  rcases h.2 with ⟨rfl, h1⟩ | ⟨g, cap, cur, rfl, hb, hg, hcap, hr⟩
  · have e : L = [] := List.eq_nil_of_length_eq_zero h1
    subst e
    exact ⟨none, 0, rfl, ⟨Nat.le_refl _, Nat.zero_le _⟩, fun hn => absurd rfl hn⟩
  · refine ⟨some ⟨g, 0, none⟩, cap, rfl, ⟨hcap, by unfold Len; omega⟩, fun _ => ⟨g, 0, hb, lt_of_get hg, rfl, fun j hj => ?_⟩⟩
    obtain ⟨h1, h2⟩ := vcl_get L j hj
    have h3 := h0.cellAt (j * 2) (by omega)
    have h4 := h0.cellAt (j * 2 + 1) (by omega)
    rw [h1] at h3
    rw [h2] at h4
    rw [show 0 + j * 2 = j * 2 by omega]
    exact ⟨h3, h4⟩
theorem OwnV.below (h : OwnV B w v L) (hb : Below w.heap.size w w') : OwnV B w' v L := by
  refine ⟨h.1, ?_⟩
  rcases h.2 with h1 | ⟨g, cap, cur, hv, hB, hg, hr⟩
  · exact .inl h1
  · exact .inr ⟨g, cap, cur, hv, hB, (hb.block g (lt_of_get hg)).trans hg, hr⟩
theorem OwnV.turns {G : List Nat} (h : OwnV B w v L) (ht : Turns G w w') (hn : ∀ x, v.ownBlock = some x → x ∉ G) : OwnV B w' v L := by
  refine ⟨h.1, ?_⟩
  rcases h.2 with h1 | ⟨g, cap, cur, hv, hB, hg, hr⟩
  · exact .inl h1
  · exact .inr ⟨g, cap, cur, hv, hB, (ht.block g (lt_of_get hg) (hn g (by rw [hv]; rfl))).trans hg, hr⟩
theorem ownV_nil (B : Nat) (w : World) : OwnV B w (.slice none 0 0) [] := ⟨rfl, .inl ⟨rfl, rfl⟩⟩
theorem OwnV.lt (h : OwnV B w v L) {g : Nat} (hg : v.ownBlock = some g) : B ≤ g ∧ g < w.heap.size := by
  rcases h.2 with ⟨rfl, _⟩ | ⟨g2, cap, cur, rfl, hb, hh, _⟩
  · cases hg
  · injection hg with hg
    dsimp only at hg
    subst hg
    exact ⟨hb, lt_of_get hh⟩
/-- 'l = append(l, u)'. -/
theorem wpList_append_vl {ops : Array Oper} {rest : List Oper} {o : Oper} {a : Act} {Q : Exit → Act → World → Prop} (hgd : o.guard = none) (s x : Operand)
    (ho : o.op = .call { callee := .builtin .append, args := #[s, x], argTypes := #[31, 31] }) (hv : a.eval s = v) (hown : OwnV B w v L) (hB : B ≤ w.heap.size) (u : Vl) (hx : a.eval x = .slice (some ⟨w.heap.size, 0, none⟩) 1 1) (hl : L.length ≤ 500000)
    (hQ : ∀ v' w', OwnV B w' v' (L ++ [u]) → (w.alloc (.cells #[.int .u8 (u.kind : Int), .int .i64 u.n] 37)).grownBy w' v.ownBlock → (v'.ownBlock = v.ownBlock ∨ v'.ownBlock = some (w.heap.size + 1)) → wpList Tryz.prog ops Q rest (a.put o.dst v') w') : wpList Tryz.prog ops Q (o :: rest) a (w.alloc (.cells #[.int .u8 (u.kind : Int), .int .i64 u.n] 37)) := by
  obtain ⟨i, hi, hz, hsize, hby⟩ := info_parts infoVl
  have e : vcl (L ++ [u]) = vcl L ++ [.int .u8 (u.kind : Int), .int .i64 u.n] := by unfold vcl; rw [List.flatMap_append]; rfl
  refine wpList_append_own_at (w := w.alloc (.cells #[.int .u8 (u.kind : Int), .int .i64 u.n] 37)) hgd s x 31 ho B 37 i (.agg #[.int .u8 0, .int .i64 0]) 2 16 Tryz.underlying31 hi hz hsize hby rfl (by decide) v L.length (vcl L) hv (World.ownsRow.alloc hown _) ⟨w.heap.size, 0, none⟩ 1 1 [.int .u8 (u.kind : Int), .int .i64 u.n] hx rfl (fun j y hj => ?_) (fun y hy => ?_) (Nat.le_trans (m := 500001) (by omega) (by decide)) (Nat.le_trans (Nat.mul_le_mul_right 16 (m := 500001) (by omega)) (by decide)) (by simp; omega) (fun v' w' q1 q2 _ q4 => hQ v' w' ?_ q2 (by simpa using q4))
  · have hnb := new_block w (.cells #[.int .u8 (u.kind : Int), .int .i64 u.n] 37)
    match j, hj with
    | 0, hj => simp at hj; subst hj; exact cell_of hnb 0 _ rfl
    | 1, hj => simp at hj; subst hj; exact cell_of hnb 1 _ rfl
  · simp at hy
    rcases hy with rfl | rfl <;> rfl
  · unfold OwnV
    rw [e, List.length_append]
    exact q1
end
end Go.Proofs.YthejclgihhfenaaGreat.Hd

/-
  Layer 14: the developers' heap: Objects.
-/
namespace Go.Proofs.YthejclgihhfenaaGreat.Hd
open Go Go.RowKit Go.Proofs.YthejclgihhfenaaGreat.Pl Go.Proofs.YthejclgihhfenaaGreat.Tb Go.Proofs.YthejclgihhfenaaGreat.Vm Go.Proofs.YthejclgihhfenaaGreat.Hp Go.Proofs.YthejclgihhfenaaGreat.Td

theorem objs_ids : ∀ (k : Nat) (L : List (Option HO)), (objectsL k L).map (·.n) = idsL ((k : Int) + 1) (L.map (Option.map sizeO))
  | _, [] => rfl
  | k, none :: L => by
    show (objectsL (k + 1) L).map (·.n) = idsL ((k : Int) + 1 + 1) _
    have := objs_ids (k + 1) L
    rw [this]
    rw [show (((k + 1 : Nat) : Int) + 1) = (k : Int) + 1 + 1 by omega]
  | k, some o :: L => by
    show ((k : Int) + 1) :: (objectsL (k + 1) L).map (·.n) = ((k : Int) + 1) :: idsL ((k : Int) + 1 + 1) _
    rw [objs_ids (k + 1) L, show (((k + 1 : Nat) : Int) + 1) = (k : Int) + 1 + 1 by omega]
theorem objs_mem : ∀ (k : Nat) (L : List (Option HO)), ∀ v ∈ objectsL k L, ∃ (j : Nat) (o : HO), L[j]? = some (some o) ∧ v = valO (k + j) o
  | _, [] => fun v h => by cases h
  | k, none :: L => fun v h => by
    obtain ⟨j, o, h1, h2⟩ := objs_mem (k + 1) L v h
    exact ⟨j + 1, o, h1, by rw [h2, show k + 1 + j = k + (j + 1) by omega]⟩
  | k, some o :: L => fun v h => by
    rcases List.mem_cons.1 h with e | h
    · exact ⟨0, o, rfl, e⟩
    · obtain ⟨j, o2, h1, h2⟩ := objs_mem (k + 1) L v h
      exact ⟨j + 1, o2, h1, by rw [h2, show k + 1 + j = k + (j + 1) by omega]⟩
/-- A list of numbers beside a list of the call's own. -/
def IdsAt (wr : World) (ai : Option Addr) (V : List Vl) (v : Value) : Prop := ∀ (j : Nat) (hj : j < V.length), ∃ g off, ai = some ⟨g, off, none⟩ ∧ v.ownBlock ≠ some g ∧ g < wr.heap.size ∧ wr.cell? ⟨g, off + j, none⟩ = some (.int .i64 V[j].n)
theorem IdsAt.turns {w w' : World} {ai : Option Addr} {V : List Vl} {v v' : Value} (h : IdsAt w ai V v) (hb : ∀ k, k < w.heap.size → v.ownBlock ≠ some k → w'.heap[k]? = w.heap[k]?) (hs : w.heap.size ≤ w'.heap.size) (hv : v'.ownBlock = v.ownBlock ∨ ∃ x, v'.ownBlock = some x ∧ w.heap.size ≤ x) : IdsAt w' ai V v' := fun j hj => by
  obtain ⟨g, off, h1, h2, h3, h4⟩ := h j hj
  refine ⟨g, off, h1, ?_, Nat.lt_of_lt_of_le h3 hs, (World.cell?_of_block (w := w) (w' := w') (a := ⟨g, off + j, none⟩) (hb g h3 h2)).trans h4⟩
  rcases hv with e | ⟨x, e, hx⟩
  · rw [e]; exact h2
  · rw [e]
    intro e2
    have e2 := Option.some.inj e2
    omega
theorem take_more (V : List Vl) (k : Nat) (hk : k < V.length) : V.take k ++ [V[k]] = V.take (k + 1) := by
  rw [List.take_add_one, List.getElem?_eq_getElem hk]; rfl
section
variable {w w' : World} {b pb ob tb : Nat} {h h' : Hp} {nb : Option Nat} {Fp Fp' F G : List Nat} {st sn sn' : Nat} {ft ft' : ByteArray → Option Int} {fn fn' : Int → Option Unit} {l l' : ObL}
set_option maxRecDepth 100000 in
theorem valueOf_fn {st : Nat} (H : HXo w b h pb ob tb nb Fp st ft sn fn l) (n : Int) (hn : In64 n) (p : OP) (hp : atL l n = some p) :
    Calls Tryz.prog 81 #[.pointer (some ⟨b, 0, none⟩), .int .i64 n] w fun e w' => e = .returned (.agg #[.int .u8 (p.o.kind : Int), .int .i64 n]) ∧ Below w.heap.size w w' := by
  have hal := (Below.refl w.heap.size w).alloc (Nat.le_refl _) (.cells #[.int .u8 0, .int .i64 0] 37)
  have hx := new_block w (.cells #[.int .u8 0, .int .i64 0] 37)
  obtain ⟨β, hβ⟩ : ∃ β, w.heap.size = β := ⟨_, rfl⟩
  rw [hβ] at hx
  have h0 := H.below hal
  have hm := h0.rm.objc
  obtain ⟨M, hM, hG⟩ := h0.rm.objs
  have lk := hG.look so_ok hM n hn
  rw [show (foL l n) = some (some p.g) from by unfold foL; rw [hp]; rfl] at lk
  have lk : (Instr.lookup 65 (.map (some ob)) (.int .i64 n) false).run Tryz.prog (w.alloc (.cells #[.int .u8 0, .int .i64 0] 37)) = .ok (.pointer (some ⟨p.g, 0, none⟩)) (w.alloc (.cells #[.int .u8 0, .int .i64 0] 37)) := lk
  obtain ⟨h1, h2⟩ := at_some hp
  have hk := (h0.rm.each _ p h2).1.kind
  have hgb : p.g ≠ β := fun e => by have h3 := H.rm.lt _ (F_obj h2); omega
  have z0 := cell_of hx 0 _ rfl
  have z1 := cell_of hx 1 _ rfl
  have f0 := free_of hx 0
  have f1 := free_of hx 1
  clear h0 hG hM H h1 h2 hp hal hx
  generalize p.g = g at *
  generalize (p.o.kind : Int) = pk at *
  have hz := new_block w (.cells #[.int .u8 pk, .int .i64 n] 37)
  rw [hβ] at hz
  have y0 := cell_of hz 0 _ rfl
  have y1 := cell_of hz 1 _ rfl
  clear hz
  go_enter Tryz.func81, Tryz.ntmps81
  go_wp2_with fail
  refine bodyPost_ret (v := .agg #[.int .u8 pk, .int .i64 n]) (by simp [results, Tryz.results81, go_sem, y0, y1]) rfl ?_
  exact ⟨rfl, (Below.refl _ _).alloc (Nat.le_refl _) _⟩
set_option maxRecDepth 100000 in
set_option maxHeartbeats 1000000 in
theorem objects_fn (H : HX w b h pb ob tb nb Fp ft sn fn l) : Calls Tryz.prog 41 #[.pointer (some ⟨b, 0, none⟩)] w (ListSays (objectsL 0 h.obs) w) := by
  have hself := H.rm.self
  have hpc := H.rm.poolc
  obtain ⟨_, _, _, hpa, _⟩ := H.rm.pool
  have hlen := hpa.len
  have hcl := cnt_le (obOf h)
  have cc := count_fn hpa
  obtain ⟨V, hV⟩ : ∃ V, objectsL 0 h.obs = V := ⟨_, rfl⟩
  have hids : V.map (·.n) = idsL 1 (obOf h) := by rw [← hV]; exact objs_ids 0 h.obs
  have hmem : ∀ v ∈ V, ∃ p, atL l v.n = some p ∧ p.o.kind = v.kind := fun v hv => by
    rw [← hV] at hv
    obtain ⟨j, o, h1, h2⟩ := objs_mem 0 h.obs v hv
    rw [obs_at H.obs] at h1
    cases e : l[j]? with
    | none => rw [e] at h1; cases h1
    | some x =>
      rw [e] at h1
      cases x with
      | none => cases h1
      | some p =>
        have h1 := Option.some.inj (Option.some.inj h1)
        refine ⟨p, ?_, ?_⟩
        · rw [h2, Nat.zero_add]
          exact at_of e
        · rw [h2, ← h1]
          rfl
  have hvl : V.length ≤ 65536 := by
    have h1 := congrArg List.length hids
    rw [List.length_map] at h1
    have h2 := ids_le 1 (obOf h)
    omega
  rw [hV]
  have HH := Lib.hid H
  have HM := Lib.hid hmem
  have HI := Lib.hid hids
  have HVL := Lib.hid hvl
  obtain ⟨c, hc⟩ : ∃ c, c = cntL (obOf h) := ⟨_, rfl⟩
  rw [← hc] at cc hcl
  obtain ⟨MC, hMC⟩ : ∃ MC, MC = madeCells #[Value.int .u8 0, Value.int .i64 0] (c * 2) := ⟨_, rfl⟩
  obtain ⟨iB, hiB, hzB, hsB, hbB⟩ := info_parts infoVl
  have hmk : ∀ W : World, (Instr.makeSlice 31 (.int .i64 0) (.int .i64 (c : Int))).run Tryz.prog W = .ok (.slice (some ⟨W.heap.size, 0, none⟩) 0 c) (W.alloc (.cells MC 37)) := fun W => by
    have := run_make (P := Tryz.prog) W 31 37 iB (.agg #[.int .u8 0, .int .i64 0]) Tryz.underlying31 hiB hzB .i64 .i64 0 (c : Int) (by omega) (by omega) (by rw [hbB]; omega) (by omega)
    rw [hsB] at this
    simp only [Int.toNat_natCast, Int.toNat_zero] at this
    rw [this, hMC]
    rfl
  have hd : Below w.heap.size w w.drew := (Below.refl _ _).drew
  have HOW := Lib.hid (World.ownsRow_made (base := w.heap.size) (size := 2) (e := 37) w MC c (Nat.le_refl _) (Nat.le_trans (m := 65536) (by omega) (by decide)) (by rw [hMC, size_madeCells]))
  clear hMC hiB hzB hsB hbB hc H hmem hids hvl hd hV
  go_enter Tryz.func41, Tryz.ntmps41
  go_wp2_with fail
  refine (made_fn b w hself).mono ?_
  rintro e w1 ⟨rfl, hw⟩
  subst hw
  go_wp2_with fail
  refine cc.mono ?_
  rintro e w2 ⟨rfl, hw⟩
  subst hw
  clear cc
  have hb3 : Below w1.heap.size w1 (w1.alloc (.cells MC 37)).drew := ((Below.refl _ _).alloc (Nat.le_refl _) _).drew
  have hown : OwnV w1.heap.size (w1.alloc (.cells MC 37)).drew (.slice (some ⟨w1.heap.size, 0, none⟩) 0 c) [] := by
    have h1 := HOW.out
    unfold OwnV
    exact h1
  have H3 := Lib.hid (HH.out.below hb3)
  have HB3 := Lib.hid hb3
  have HOW3 := Lib.hid hown
  have hp3 : (w1.alloc (.cells MC 37)).cell? ⟨b, 2, none⟩ = some (.pointer (some ⟨pb, 0, none⟩)) := H3.out.rm.poolc
  obtain ⟨_, _, _, hpa, _⟩ := H3.out.rm.pool
  have ci := ids_own hpa
  clear hown hb3 hpa
  go_wp2_with fail
  clear hp3 hmk
  generalize hW : (w1.alloc (.cells MC 37)).drew = w3 at *
  clear hW
  refine ci.mono ?_
  rintro e w4 ⟨vi, rfl, hli, hb⟩
  clear ci
  rw [← HI.out] at hli
  obtain ⟨ai, cpi, rfl, hl, hxi⟩ := hli
  have hlen2 : (ints (V.map (·.n))).length = V.length := by rw [ints_len, List.length_map]
  have hids4 : IdsAt w4 ai V (.slice (some ⟨w1.heap.size, 0, none⟩) 0 c) := fun j hj => by
    obtain ⟨g, off, h1, h2, h3, h4⟩ := hxi (fun e => by rw [e] at hlen2; simp at hlen2; omega)
    refine ⟨g, off, h3, fun e => ?_, h2, ?_⟩
    · have e := Option.some.inj e
      have h5 := (HOW3.out.lt (g := w1.heap.size) rfl).2
      dsimp only at e
      omega
    · have h5 := h4 j (by rw [hlen2]; exact hj)
      rw [ints_get _ j (by rw [List.length_map]; exact hj), List.getElem_map] at h5
      exact h5
  have HID := Lib.hid hids4
  have HB4 := Lib.hid (HB3.out.trans (hb.mono HB3.out.size))
  have HOW4 := Lib.hid (HOW3.out.below hb)
  have HCI := Lib.hid hl
  rw [hlen2]
  clear hids4 hl hxi hlen2 hb
  obtain ⟨n, hn⟩ : ∃ n, n = V.length := ⟨_, rfl⟩
  rw [← hn]
  have HN := Lib.hid hn
  have hnl : n ≤ 65536 := by rw [hn]; exact HVL.out
  clear hn
  go_wp2_with fail
  go_loopg [21, 3] n (fun r i v wr => ∃ (k : Nat) (ao : Option Addr) (mm cc : Nat), r = n - k ∧ i = .int .i64 k ∧ k ≤ n ∧ v = .slice ao mm cc ∧ OwnV w1.heap.size wr (.slice ao mm cc) (V.take k) ∧ IdsAt wr ai V (.slice ao mm cc) ∧ Below w1.heap.size w1 wr)
  case atStart => exact ⟨0, _, _, _, rfl, rfl, Nat.zero_le _, rfl, HOW4.out, HID.out, HB4.out⟩
  case round =>
    obtain ⟨k, ao, mm, cc, rfl, rfl, hk, rfl, hown, hid, hb⟩ := hrel
    have HO := Lib.hid hown
    have HD := Lib.hid hid
    have HB := Lib.hid hb
    clear hown hid hb
    have e0 := IntWalk.i64_in ((k : Int) + 1) (by omega)
    by_cases hlt : k < n
    · have hlt' : (k : Int) < n := by omega
      have hkl : k < V.length := by have := HN.out; omega
      obtain ⟨g, off, rfl, hne, hgl, hx⟩ := HD.out k hkl
      obtain ⟨u, hu⟩ : ∃ u, V[k] = u := ⟨_, rfl⟩
      have hum : u ∈ V := by rw [← hu]; exact List.getElem_mem hkl
      obtain ⟨p, hp1, hp2⟩ := HM.out u hum
      have hin : In64 u.n := by
        obtain ⟨h1, h2⟩ := at_some hp1
        have h3 := idx_lt h2
        obtain ⟨_, _, _, h4, _⟩ := HH.out.rm.pool
        have h5 := h4.len
        rw [ob_is HH.out.obs, List.length_map] at h5
        unfold In64
        omega
      have cv := valueOf_fn (HH.out.below HB.out).toHXo u.n hin p hp1
      rw [hp2] at cv
      rw [hu] at hx
      have HT := Lib.hid (show V.take k ++ [u] = V.take (k + 1) by rw [← hu]; exact take_more V k hkl)
      have HNE := Lib.hid hne
      have HLT2 := Lib.hid (show (V.take k).length ≤ 500000 by rw [List.length_take]; omega)
      obtain ⟨uk, un⟩ := u
      dsimp only at cv hx
      clear hp1 hp2 hum hin hne hu
      go_wp2_with fail
      refine cv.mono ?_
      rintro e w5 ⟨rfl, hb5⟩
      have HO5 := Lib.hid (HO.out.below hb5)
      have HB5 := Lib.hid (HB.out.trans (hb5.mono HB.out.size))
      have HD5 := Lib.hid (HD.out.turns (v' := .slice ao mm cc) (fun k hk _ => hb5.block k hk) hb5.size (.inl rfl))
      clear cv hb5 hx
      go_wp2_with (at_builtin; go_loud (refine wpList_append_vl rfl (.tmp 25) (.tmp 29) rfl (v := .slice ao mm cc) (L := V.take k) rfl HO5.out HB5.out.size ⟨uk, un⟩ rfl HLT2.out ?_))
      intro v1 w6 h1 h2 h3
      rw [HT.out] at h1
      obtain ⟨ao2, c2, rfl⟩ := h1.slice
      have hb6 := HB5.out.trans (below_appended HO5.out h2 HB5.out.size)
      have hd6 := HD5.out.turns (w' := w6) (v' := .slice ao2 (V.take (k + 1)).length c2) (fun j hj hne => (h2.block j (by simp; omega) (fun e => hne e.symm)).trans (heap_alloc_old _ _ hj)) (by have h4 := h2.size; simp at h4; omega) (h3.imp id (fun e => ⟨_, e, Nat.le_succ _⟩))
      have HO6 := Lib.hid h1
      have HB6 := Lib.hid hb6
      have HD6 := Lib.hid hd6
      clear h1 h2 h3 hb6 hd6
      go_wp2_with fail
      go_roundg (n - (k + 1))
      case measure => omega
      case rel => exact ⟨k + 1, _, _, _, rfl, by go_num, by omega, rfl, HO6.out, HD6.out, HB6.out⟩
    · have hkn : k = n := by omega
      have HK := Lib.hid (show V.take k = V from List.take_of_length_le (by have := HN.out; omega))
      go_wp2_with fail
      go_ret
      have ho := HO.out
      rw [HK.out] at ho
      exact ⟨_, rfl, ho.vls (by have := HN.out; omega), HB.out⟩
end
end Go.Proofs.YthejclgihhfenaaGreat.Hd
