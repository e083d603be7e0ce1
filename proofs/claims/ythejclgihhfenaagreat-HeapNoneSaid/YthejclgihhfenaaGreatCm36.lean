import Derived.Test.YthejclgihhfenaaGreatCm35
/-
  Layer 14: the developers' heap: Kids, but of threads.
-/
namespace Go.Proofs.YthejclgihhfenaaGreat.Hd
open Go Go.RowKit Go.Proofs.YthejclgihhfenaaGreat.Pl Go.Proofs.YthejclgihhfenaaGreat.Tb Go.Proofs.YthejclgihhfenaaGreat.Vm Go.Proofs.YthejclgihhfenaaGreat.Hp Go.Proofs.YthejclgihhfenaaGreat.Td

theorem objB_is (u : Vl) : objB u = objK u.kind := by
  unfold objB objK
  by_cases h : u.kind = 4 ∨ u.kind = 5 ∨ u.kind = 6 ∨ u.kind = 8 ∨ u.kind = 9
  · rcases h with e | e | e | e | e <;> rw [e] <;> rfl
  · have e1 : (decide (4 ≤ u.kind) && decide (u.kind ≤ 6)) = false := by
      rw [Bool.and_eq_false_iff]
      by_cases h4 : 4 ≤ u.kind
      · exact .inr (decide_eq_false (by omega))
      · exact .inl (decide_eq_false h4)
    rw [e1, decide_eq_false (by omega), decide_eq_false (by omega), decide_eq_false (by omega), decide_eq_false (by omega), decide_eq_false (by omega)]
    rfl
theorem valuesT_len (t : Tbl) : (valuesT t).length = 2 * t.length := by
  induction t with
  | nil => rfl
  | cons q l ih =>
    show (_ :: _ :: valuesT l).length = _
    rw [List.length_cons, List.length_cons, ih, List.length_cons]; omega
abbrev kidC (κ : Nat) : Value := .func (.func 92) #[] #[.pointer (some ⟨κ, 0, none⟩)]
section
variable {w w' : World} {κ B : Nat} {L : List Vl} {v : Value}
set_option maxRecDepth 100000 in
theorem kid_fn (u : Vl) (hK : Kd w κ B L v) (hl : L.length ≤ 500000) (hB : B ≤ w.heap.size) :
    Calls Tryz.prog 92 #[u.val, .pointer (some ⟨κ, 0, none⟩)] w fun e w' => e = .returned (.tuple #[]) ∧ KS κ B v w (L ++ [u].filter objB) w' := by
  have hal := (Below.refl w.heap.size w).alloc (Nat.le_refl _) (.cells #[.int .u8 (u.kind : Int), .int .i64 u.n] 37)
  have hx := new_block w (.cells #[.int .u8 (u.kind : Int), .int .i64 u.n] 37)
  obtain ⟨W, hW⟩ : ∃ W, w.alloc (.cells #[.int .u8 (u.kind : Int), .int .i64 u.n] 37) = W := ⟨_, rfl⟩
  rw [hW] at hal hx
  have x0 := cell_of hx 0 _ rfl
  have x1 := cell_of hx 1 _ rfl
  have hK1 := hK.below hal
  have ci := isobj_fn u.kind W
  have HB := Lib.hid (Nat.le_trans hB hal.size)
  have HAL := Lib.hid hal
  have HK := Lib.hid hK1
  have HL := Lib.hid hl
  have kc := hK1.cell
  clear hK1 hK hl hB hx hal
  have hfil : [u].filter objB = if objK u.kind then [u] else [] := by
    rw [List.filter_cons, objB_is]
    split <;> rfl
  rw [hfil]
  obtain ⟨uk, un⟩ := u
  dsimp only at *
  show Calls Tryz.prog 92 #[.agg #[.int .u8 (uk : Int), .int .i64 un], .pointer (some ⟨κ, 0, none⟩)] w _
  obtain ⟨ob, hob⟩ : ∃ ob, objK uk = ob := ⟨_, rfl⟩
  rw [hob] at ci ⊢
  clear hob hfil
  go_enter Tryz.func92, Tryz.ntmps92
  go_wp2_with fail
  refine ci.mono ?_
  rintro e w1 ⟨rfl, rfl⟩
  clear hW ci
  cases ob with
  | false =>
    go_wp2_with fail
    refine bodyPost_end (v := .tuple #[]) (by simp [results, Tryz.results92, go_sem]) rfl ?_
    exact ⟨rfl, by simpa using KS.from HAL.out (KS.refl HK.out)⟩
  | true =>
    go_wp2_with (at_builtin; go_loud (refine wpList_append_vl rfl (.tmp 6) (.tmp 8) rfl (v := v) (L := L) rfl HK.out.own HB.out ⟨uk, un⟩ rfl HL.out ?_))
    intro v1 w6 h1 h2 h3
    obtain ⟨ao2, c2, he⟩ := h1.slice
    rw [List.length_append, List.length_singleton] at he
    subst he
    have ht : Turns v.ownBlock.toList w1 w6 := (Turns.of_below (F := v.ownBlock.toList) ((Below.refl w1.heap.size w1).alloc (Nat.le_refl _) (.cells #[.int .u8 (uk : Int), .int .i64 un] 37))).trans ⟨h2.os, h2.tape, h2.output, h2.size, fun j hj hn => h2.block j hj (fun e => hn (Option.mem_toList.2 e.symm))⟩ (fun x hx => .inl hx)
    have hks := kd_store HK.out ht h1 (h3.imp id (fun e => ⟨_, e, Nat.le_succ _⟩))
    have hκ : κ ∉ v.ownBlock.toList := fun hm => HK.out.ne (Option.mem_toList.1 hm)
    have kc2 := cell_turns HK.out.cell ht hκ
    have kf2 := (HK.out.shape.turns ht hκ).free 0
    have HKS := Lib.hid hks
    clear hks ht hκ h1 h2 h3
    go_wp2_with fail
    refine bodyPost_end (v := .tuple #[]) (by simp [results, Tryz.results92, go_sem]) rfl ?_
    exact ⟨rfl, KS.from HAL.out HKS.out⟩
set_option maxRecDepth 100000 in
theorem all_fn {ω : Nat} {lv : Value} {l : List Vl} (hK : Kd w κ B L v) (hω : w.cell? ⟨ω, 0, none⟩ = some (kidC κ)) (hn : ω ∉ kF κ v) (hl : VlsP (· ∉ kF κ v) w lv l) (hlen : L.length + l.length ≤ 400000) (hB : B ≤ w.heap.size) :
    Calls Tryz.prog 125 #[lv, .pointer (some ⟨ω, 0, none⟩)] w fun e w' => e = .returned (.tuple #[]) ∧ KS κ B v w (L ++ l.filter objB) w' := by
  obtain ⟨ao, cap, rfl, ⟨hcap, hln⟩, hx⟩ := hl
  have HX := Lib.hid hx
  have HK := Lib.hid hK
  have HO := Lib.hid (And.intro hω hn)
  have HL := Lib.hid hlen
  have HB := Lib.hid hB
  obtain ⟨n, hnn⟩ : ∃ n, n = l.length := ⟨_, rfl⟩
  rw [← hnn] at hcap hln ⊢
  have HN := Lib.hid hnn
  have hsm : n ≤ 400000 := by omega
  clear hx hK hω hn hlen hB hnn hln
  go_enter Tryz.func125, Tryz.ntmps125
  go_wp2_with fail
  go_loopg [7] n (fun r i wr => ∃ k : Nat, r = n - k ∧ i = .int .i64 k ∧ k ≤ n ∧ KS κ B v w (L ++ (l.take k).filter objB) wr)
  case atStart => exact ⟨0, rfl, rfl, Nat.zero_le _, by rw [List.take_zero]; show KS κ B v w (L ++ []) w; rw [List.append_nil]; exact KS.refl HK.out⟩
  case round =>
    obtain ⟨k, rfl, rfl, hk, hks⟩ := hrel
    have HKS := Lib.hid hks
    clear hks
    have e0 := IntWalk.i64_in ((k : Int) + 1) (by omega)
    by_cases hlt : k < n
    · have hlt' : (k : Int) < n := by omega
      have hkl : k < l.length := by have := HN.out; omega
      obtain ⟨g, off, hg1, hg2, rfl, hc⟩ := HX.out (fun e => by rw [e] at hkl; exact absurd hkl (Nat.not_lt_zero _))
      obtain ⟨u, hu⟩ : ∃ u, l[k] = u := ⟨_, rfl⟩
      have c0 := (hc k hkl).1
      have c1 := (hc k hkl).2
      rw [hu] at c0 c1
      have d0 := cell_turns c0 HKS.out.turns hg1
      have d1 := cell_turns c1 HKS.out.turns hg1
      have dω := cell_turns HO.out.1 HKS.out.turns HO.out.2
      have hT : (l.take k).filter objB ++ [u].filter objB = (l.take (k + 1)).filter objB := by
        rw [← List.filter_append, ← hu, take_more l k hkl]
      have HT := Lib.hid hT
      obtain ⟨v', hkd, hsub⟩ := HKS.out.kd
      have hlf : (L ++ (l.take k).filter objB).length ≤ 500000 := by
        have h1 := List.length_filter_le objB (l.take k)
        rw [List.length_take] at h1
        have h2 := HL.out
        have h3 := HN.out
        rw [List.length_append]
        omega
      have hal := (Below.refl wr.heap.size wr).alloc (Nat.le_refl _) (.cells #[.int .u8 (u.kind : Int), .int .i64 u.n] 37)
      have ck := kid_fn u (hkd.below hal) hlf (Nat.le_trans (Nat.le_trans HB.out HKS.out.turns.size) hal.size)
      have HKD := Lib.hid hkd
      have HAL := Lib.hid hal
      obtain ⟨uk, un⟩ := u
      dsimp only at *
      have dω2 := (HAL.out.cell (p := ⟨ω, 0, none⟩) (World.block_lt_of_cell? _ _ dω)).trans dω
      unfold kidC at dω2 dω
      have ck : Calls Tryz.prog 92 #[.agg #[.int .u8 (uk : Int), .int .i64 un], .pointer (some ⟨κ, 0, none⟩)] (wr.alloc (.cells #[.int .u8 (uk : Int), .int .i64 un] 37)) _ := ck
      clear hc c0 c1 hT hkd hsub hlf hal hg1 hu
      go_wp2_with fail
      refine ck.mono ?_
      rintro e w5 ⟨rfl, hks⟩
      have hks2 := HKS.out.then HKD.out (KS.from HAL.out hks)
      rw [List.append_assoc, HT.out] at hks2
      have HKS2 := Lib.hid hks2
      clear hks hks2 ck d0 d1 dω dω2
      go_wp2_with fail
      go_roundg (n - (k + 1))
      case measure => omega
      case rel => exact ⟨k + 1, rfl, by go_num, by omega, HKS2.out⟩
    · have hkn : k = n := by omega
      have HKK := Lib.hid (show l.take k = l from List.take_of_length_le (by have := HN.out; omega))
      go_wp2_with fail
      refine bodyPost_end (v := .tuple #[]) (by simp [results, Tryz.results125, go_sem]) rfl ?_
      exact ⟨rfl, by have h1 := HKS.out; rw [HKK.out] at h1; exact h1⟩
/-- What an object that is no thread leads to, in its order. -/
def leadsO (o : HO) : List Vl := if o.kind = 5 then o.mtv :: valuesT o.tab else if o.kind = 6 then o.cells else if o.kind = 9 then [o.has] else []
set_option maxRecDepth 100000 in
set_option maxHeartbeats 1000000 in
theorem tell_fn {p : OP} (hO : ObjC w p) (hP : PartAt w p) (hD : DataOk p.o) (h8 : p.o.kind ≠ 8) (hK : Kd w κ B [] v) (hg : p.g ∉ kF κ v) (hG : ∀ x ∈ p.G, x ∉ kF κ v) (hB : B ≤ w.heap.size) :
    Calls Tryz.prog 91 #[.pointer (some ⟨p.g, 0, none⟩), kidC κ] w fun e w' => e = .returned (.tuple #[]) ∧ KS κ B v w ((leadsO p.o).filter objB) w' := by
  obtain ⟨W, hW⟩ : ∃ W, w.alloc (.cells #[kidC κ] 86) = W := ⟨_, rfl⟩
  have hal : Below w.heap.size w W := by rw [← hW]; exact (Below.refl _ _).alloc (Nat.le_refl _) _
  have hx : W.heap[w.heap.size]? = some (.cells #[kidC κ] 86 (0, 0)) := by rw [← hW]; exact new_block _ _
  have hω := cell_of hx 0 _ rfl
  have hωF : w.heap.size ∉ kF κ v := fun hm => Nat.lt_irrefl _ (hK.lt _ hm)
  have hO1 := hO.turns (G := []) (Turns.of_below hal) List.not_mem_nil
  have hP1 := hP.turns (G := []) (Turns.of_below hal) (fun _ _ => List.not_mem_nil)
  have hK1 := hK.below hal
  have hBW := Nat.le_trans hB hal.size
  have hkd := hO1.kind
  have HAL := Lib.hid hal
  have HK := Lib.hid hK1
  have HO := Lib.hid hO1
  have HP := Lib.hid hP1
  have HF := Lib.hid (And.intro hωF (And.intro hg hG))
  have HB := Lib.hid hBW
  have HW := Lib.hid hω
  have HD := Lib.hid hD
  obtain ⟨ω, hωe⟩ : ∃ ω, w.heap.size = ω := ⟨_, rfl⟩
  rw [hωe] at hω HF HW
  unfold kidC at hW hω
  clear hal hx hωF hO1 hP1 hK1 hBW hK hO hP hg hG hB hD
  show Calls Tryz.prog 91 #[.pointer (some ⟨p.g, 0, none⟩), .func (.func 92) #[] #[.pointer (some ⟨κ, 0, none⟩)]] w _
  rcases HD.out.kind with e | e | e | e | e
  · have hl : leadsO p.o = [] := by unfold leadsO; rw [if_neg (by omega), if_neg (by omega), if_neg (by omega)]
    rw [hl]
    rw [e] at hkd
    clear hl e
    go_enter Tryz.func91, Tryz.ntmps91
    go_wp2_with fail
    refine bodyPost_end (v := .tuple #[]) (by simp [results, Tryz.results91, go_sem]) rfl ?_
    exact ⟨rfl, KS.from HAL.out (KS.refl HK.out)⟩
  · have hl : leadsO p.o = p.o.mtv :: valuesT p.o.tab := by unfold leadsO; rw [if_pos e]
    rw [hl]
    rw [e] at hkd
    have hm0 := HO.out.m0
    have hm1 := HO.out.m1
    have htb := HO.out.tab
    unfold tabV at htb
    rw [if_pos e] at htb
    have hd : Below W.heap.size W W.drew := (Below.refl _ _).drew
    have ck := kid_fn p.o.mtv (HK.out.below hd) (Nat.zero_le _) HB.out
    obtain ⟨u, hu⟩ : ∃ u, p.o.mtv = u := ⟨_, rfl⟩
    rw [hu] at hm0 hm1 ck ⊢
    have HE := Lib.hid e
    obtain ⟨g, hge⟩ : ∃ g, p.g = g := ⟨_, rfl⟩
    have HG := Lib.hid hge
    rw [hge] at hm0 hm1 htb hkd ⊢
    obtain ⟨t, hte⟩ : ∃ t, p.t = t := ⟨_, rfl⟩
    have HT := Lib.hid hte
    rw [hte] at htb
    obtain ⟨uk, un⟩ := u
    have ck : Calls Tryz.prog 92 #[.agg #[.int .u8 (uk : Int), .int .i64 un], .pointer (some ⟨κ, 0, none⟩)] W.drew _ := ck
    have HD' := Lib.hid hd
    clear hl e hge hte hd hu
    go_enter Tryz.func91, Tryz.ntmps91
    go_upto_region 4 with fail
    refine wp_region_held_drew (S := fun w' => w'.cell? ⟨ω, 0, none⟩ = some (.func (.func 92) #[] #[.pointer (some ⟨κ, 0, none⟩)]) ∧ w'.cell? ⟨g, 4, none⟩ = some (.int .u8 (uk : Int)) ∧ w'.cell? ⟨g, 5, none⟩ = some (.int .i64 un)) mixed ⟨hω, hm0, hm1⟩ (fun hS => ?_)
    refine wpAnyH_take (i := 0) (v := ?va0) rfl (by kernel_rfl) (by kernel_rfl) (by kernel_rfl) (fun _ _ _ h => h) (.inl ⟨by rfl, ?ha0⟩) hS ?ra0
    case ha0 =>
      intro w' hs
      (try dsimp only at hs)
      go_split_ands
      go_simp
      try with_reducible rfl
    simp only [List.getElem_toArray, List.getElem_cons_zero, Act.put, List.setIfInBounds_toArray, List.set_cons_zero, List.set_cons_succ]
    refine wpAnyH_take (i := 1) (v := ?va1) rfl (by kernel_rfl) (by kernel_rfl) (by kernel_rfl) (fun _ _ _ h => h) (.inl ⟨by rfl, ?ha1⟩) hS ?ra1
    case ha1 =>
      intro w' hs
      (try dsimp only at hs)
      go_split_ands
      go_simp
      try with_reducible rfl
    simp only [List.getElem_toArray, List.getElem_cons_succ, List.getElem_cons_zero, Act.put, List.setIfInBounds_toArray, List.set_cons_zero, List.set_cons_succ]
    refine wpAnyH_take (i := 2) (v := ?va2) rfl (by kernel_rfl) (by kernel_rfl) (by kernel_rfl) (fun _ _ _ h => h) (.inl ⟨by rfl, ?ha2⟩) hS ?ra2
    case ha2 =>
      intro w' hs
      (try dsimp only at hs)
      go_split_ands
      go_simp
      try with_reducible rfl
    simp only [List.getElem_toArray, List.getElem_cons_succ, List.getElem_cons_zero, Act.put, List.setIfInBounds_toArray, List.set_cons_zero, List.set_cons_succ]
    refine wpAnyH_take (i := 3) (v := ?va3) rfl (by kernel_rfl) (by kernel_rfl) (by kernel_rfl) (fun _ _ _ h => h) (.inl ⟨by rfl, ?ha3⟩) hS ?ra3
    case ha3 =>
      intro w' hs
      (try dsimp only at hs)
      go_split_ands
      go_simp
      try with_reducible rfl
    simp only [List.getElem_toArray, List.getElem_cons_succ, List.getElem_cons_zero, Act.put, List.setIfInBounds_toArray, List.set_cons_zero, List.set_cons_succ]
    refine wpAnyH_take (i := 4) (v := ?va4) rfl (by kernel_rfl) (by kernel_rfl) (by kernel_rfl) (fun _ _ _ h => h) (.inl ⟨by rfl, ?ha4⟩) hS ?ra4
    case ha4 =>
      intro w' hs
      (try dsimp only at hs)
      go_split_ands
      go_simp
      try with_reducible rfl
    simp only [List.getElem_toArray, List.getElem_cons_succ, List.getElem_cons_zero, Act.put, List.setIfInBounds_toArray, List.set_cons_zero, List.set_cons_succ]
    refine wpAnyH_ready (rs := [5]) (by kernel_rfl) (by simp) (AllReadyH.cons rfl (fun K hK => ?_) AllReadyH.nil)
    go_simp
    refine ck.mono ?_
    rintro e w1 ⟨rfl, hks⟩
    have hgF : g ∉ kF κ v := by rw [← HG.out]; exact HF.out.2.1
    have s1 := cell_turns (w := W.drew) hω hks.turns HF.out.1
    have s2 := cell_turns (w := W.drew) hm0 hks.turns hgF
    have s3 := cell_turns (w := W.drew) hm1 hks.turns hgF
    have htb1 := cell_turns (w := W.drew) htb hks.turns hgF
    have hta := (((HP.out.tab HE.out).1).keep (G := []) (Turns.of_below HD'.out) (fun _ _ => List.not_mem_nil)).keep hks.turns HF.out.2.2
    have cv := values_fn hta (HP.out.tab HE.out).2
    rw [HT.out] at cv
    have HKS := Lib.hid hks
    have HW1 := Lib.hid s1
    clear ck hta hgF hks
    go_wp2_with fail
    refine hK.out _ _ ⟨s1, s2, s3⟩ (fun hS => ?_)
    clear hK
    refine wpAnyH_done (by kernel_rfl) ?_ _
    clear hS
    go_wp2_with fail
    refine cv.mono ?_
    rintro e w2 ⟨lv, rfl, hov, hb⟩
    have hvl0 : (valuesT p.o.tab).length ≤ 131072 := by
      have h1 := (HP.out.tab HE.out).2
      have h2 := valuesT_len p.o.tab
      omega
    obtain ⟨v', hkd', hsub⟩ := HKS.out.kd
    have hvls := hov.vls (by omega)
    have hlt1 := hkd'.lt
    have hvp : VlsP (· ∉ kF κ v') w2 lv (valuesT p.o.tab) := by
      obtain ⟨ao, cap, a1, a2, a3⟩ := hvls
      refine ⟨ao, cap, a1, a2, fun hne => ?_⟩
      obtain ⟨g2, off, b1, b2⟩ := a3 hne
      exact ⟨g2, off, fun hm => by have := hlt1 _ hm; omega, b2⟩
    have hω1 : ω ∉ kF κ v' := fun hm => by
      rcases hsub _ hm with h1 | h1
      · exact HF.out.1 h1
      · have h2 := World.block_lt_of_cell? _ _ hω
        have h3 : W.drew.heap.size ≤ ω := h1
        have h4 : W.drew.heap.size = W.heap.size := rfl
        dsimp only at h2
        omega
    have hω2 := (hb.cell (p := ⟨ω, 0, none⟩) (World.block_lt_of_cell? _ _ HW1.out)).trans HW1.out
    have hfl : ([] ++ [(⟨uk, un⟩ : Vl)].filter objB).length ≤ 1 := by
      rw [List.nil_append]
      exact List.length_filter_le _ _
    have ca := all_fn (hkd'.below hb) hω2 hω1 hvp (by omega) (Nat.le_trans (Nat.le_trans HB.out (show W.heap.size ≤ w1.heap.size from HKS.out.turns.size)) hb.size)
    have HKD := Lib.hid hkd'
    have HB2 := Lib.hid hb
    obtain ⟨ao, c2, rfl⟩ := hov.slice
    clear hov hb hvl0 hkd' hsub hvls hlt1 hvp hω1 hω2 hfl cv htb1 s1 s2 s3
    go_wp2_with fail
    refine ca.mono ?_
    rintro e w3 ⟨rfl, hks2⟩
    have h3 := HKS.out.then HKD.out (KS.from HB2.out hks2)
    have HK3 := Lib.hid h3
    clear hks2 h3 ca
    go_wp2_with fail
    refine bodyPost_end (v := .tuple #[]) (by simp [results, Tryz.results91, go_sem]) rfl ?_
    have e1 : (⟨uk, un⟩ :: valuesT p.o.tab).filter objB = [] ++ [(⟨uk, un⟩ : Vl)].filter objB ++ (valuesT p.o.tab).filter objB := by
      rw [List.nil_append, ← List.filter_append]; rfl
    rw [e1]
    exact ⟨rfl, KS.from HAL.out (KS.from HD'.out HK3.out)⟩
  · have hl : leadsO p.o = p.o.cells := by unfold leadsO; rw [if_neg (by omega), if_pos e]
    rw [hl]
    rw [e] at hkd
    have hcv := HO.out.cells
    have hvl : VlsP (· ∉ kF κ v) W p.cv p.o.cells := by
      obtain ⟨ao, cap, a1, a2, a3⟩ := HP.out.cells
      refine ⟨ao, cap, a1, a2, fun hne => ?_⟩
      obtain ⟨g, off, b1, b2⟩ := a3 hne
      exact ⟨g, off, HF.out.2.2 g b1, b2⟩
    have ca := all_fn HK.out HW.out HF.out.1 hvl (by have := HD.out.cells.1; show 0 + _ ≤ _; omega) HB.out
    obtain ⟨ao, cap, hcve, hcl, _⟩ := hvl
    rw [hcve] at hcv ca
    clear hl e hcve
    go_enter Tryz.func91, Tryz.ntmps91
    go_wp2_with fail
    refine ca.mono ?_
    rintro e w1 ⟨rfl, hks⟩
    have HKS := Lib.hid hks
    clear ca hks
    go_wp2_with fail
    refine bodyPost_end (v := .tuple #[]) (by simp [results, Tryz.results91, go_sem]) rfl ?_
    exact ⟨rfl, KS.from HAL.out HKS.out⟩
  · exact absurd e h8
  · have hl : leadsO p.o = [p.o.has] := by unfold leadsO; rw [if_neg (by omega), if_neg (by omega), if_pos e]
    rw [hl]
    rw [e] at hkd
    have hm0 := HO.out.h0
    have hm1 := HO.out.h1
    have hd : Below W.heap.size W W.drew := (Below.refl _ _).drew
    have ck := kid_fn p.o.has (HK.out.below hd) (Nat.zero_le _) HB.out
    obtain ⟨u, hu⟩ : ∃ u, p.o.has = u := ⟨_, rfl⟩
    rw [hu] at hm0 hm1 ck ⊢
    obtain ⟨g, hge⟩ : ∃ g, p.g = g := ⟨_, rfl⟩
    have HG := Lib.hid hge
    rw [hge] at hm0 hm1 hkd ⊢
    obtain ⟨uk, un⟩ := u
    have ck : Calls Tryz.prog 92 #[.agg #[.int .u8 (uk : Int), .int .i64 un], .pointer (some ⟨κ, 0, none⟩)] W.drew _ := ck
    have HD' := Lib.hid hd
    clear hl e hge hd hu
    go_enter Tryz.func91, Tryz.ntmps91
    go_upto_region 9 with fail
    refine wp_region_held_drew (S := fun w' => w'.cell? ⟨ω, 0, none⟩ = some (.func (.func 92) #[] #[.pointer (some ⟨κ, 0, none⟩)]) ∧ w'.cell? ⟨g, 8, none⟩ = some (.int .u8 (uk : Int)) ∧ w'.cell? ⟨g, 9, none⟩ = some (.int .i64 un)) mixed ⟨hω, hm0, hm1⟩ (fun hS => ?_)
    refine wpAnyH_take (i := 0) (v := ?vb0) rfl (by kernel_rfl) (by kernel_rfl) (by kernel_rfl) (fun _ _ _ h => h) (.inl ⟨by rfl, ?hb0⟩) hS ?rb0
    case hb0 =>
      intro w' hs
      (try dsimp only at hs)
      go_split_ands
      go_simp
      try with_reducible rfl
    simp only [List.getElem_toArray, List.getElem_cons_zero, Act.put, List.setIfInBounds_toArray, List.set_cons_zero, List.set_cons_succ]
    refine wpAnyH_take (i := 1) (v := ?vb1) rfl (by kernel_rfl) (by kernel_rfl) (by kernel_rfl) (fun _ _ _ h => h) (.inl ⟨by rfl, ?hb1⟩) hS ?rb1
    case hb1 =>
      intro w' hs
      (try dsimp only at hs)
      go_split_ands
      go_simp
      try with_reducible rfl
    simp only [List.getElem_toArray, List.getElem_cons_succ, List.getElem_cons_zero, Act.put, List.setIfInBounds_toArray, List.set_cons_zero, List.set_cons_succ]
    refine wpAnyH_take (i := 2) (v := ?vb2) rfl (by kernel_rfl) (by kernel_rfl) (by kernel_rfl) (fun _ _ _ h => h) (.inl ⟨by rfl, ?hb2⟩) hS ?rb2
    case hb2 =>
      intro w' hs
      (try dsimp only at hs)
      go_split_ands
      go_simp
      try with_reducible rfl
    simp only [List.getElem_toArray, List.getElem_cons_succ, List.getElem_cons_zero, Act.put, List.setIfInBounds_toArray, List.set_cons_zero, List.set_cons_succ]
    refine wpAnyH_take (i := 3) (v := ?vb3) rfl (by kernel_rfl) (by kernel_rfl) (by kernel_rfl) (fun _ _ _ h => h) (.inl ⟨by rfl, ?hb3⟩) hS ?rb3
    case hb3 =>
      intro w' hs
      (try dsimp only at hs)
      go_split_ands
      go_simp
      try with_reducible rfl
    simp only [List.getElem_toArray, List.getElem_cons_succ, List.getElem_cons_zero, Act.put, List.setIfInBounds_toArray, List.set_cons_zero, List.set_cons_succ]
    refine wpAnyH_take (i := 4) (v := ?vb4) rfl (by kernel_rfl) (by kernel_rfl) (by kernel_rfl) (fun _ _ _ h => h) (.inl ⟨by rfl, ?hb4⟩) hS ?rb4
    case hb4 =>
      intro w' hs
      (try dsimp only at hs)
      go_split_ands
      go_simp
      try with_reducible rfl
    simp only [List.getElem_toArray, List.getElem_cons_succ, List.getElem_cons_zero, Act.put, List.setIfInBounds_toArray, List.set_cons_zero, List.set_cons_succ]
    refine wpAnyH_ready (rs := [5]) (by kernel_rfl) (by simp) (AllReadyH.cons rfl (fun K hK => ?_) AllReadyH.nil)
    go_simp
    refine ck.mono ?_
    rintro e w1 ⟨rfl, hks⟩
    have hgF : g ∉ kF κ v := by rw [← HG.out]; exact HF.out.2.1
    have s1 := cell_turns (w := W.drew) hω hks.turns HF.out.1
    have s2 := cell_turns (w := W.drew) hm0 hks.turns hgF
    have s3 := cell_turns (w := W.drew) hm1 hks.turns hgF
    have HKS := Lib.hid hks
    clear ck hks hgF
    go_wp2_with fail
    refine hK.out _ _ ⟨s1, s2, s3⟩ (fun hS => ?_)
    clear hK
    refine wpAnyH_done (by kernel_rfl) ?_ _
    clear hS
    go_wp2_with fail
    refine bodyPost_end (v := .tuple #[]) (by simp [results, Tryz.results91, go_sem]) rfl ?_
    exact ⟨rfl, KS.from HAL.out (KS.from HD'.out HKS.out)⟩
end
section
variable {w w' : World} {b pb ob tb : Nat} {h h' : Hp} {nb : Option Nat} {Fp Fp' F G : List Nat} {st sn sn' : Nat} {ft ft' : ByteArray → Option Int} {fn fn' : Int → Option Unit} {l l' : ObL}
set_option maxRecDepth 100000 in
theorem kids_fn (H : HX w b h pb ob tb nb Fp ft sn fn l) (v : Vl) (hv : v.In) (h8 : v.kind ≠ 8) :
    Calls Tryz.prog 47 #[.pointer (some ⟨b, 0, none⟩), v.val] w (ListSays (kidsH h v) w) := by
  have hwa := (Below.refl w.heap.size w).alloc (Nat.le_refl _) (.cells #[.int .u8 (v.kind : Int), .int .i64 v.n] 37)
  have h0 := H.below hwa
  have ca := at_fn h0.rm v hv
  have hx0 := new_block w (.cells #[.int .u8 (v.kind : Int), .int .i64 v.n] 37)
  have x0 := cell_of hx0 0 _ rfl
  have x1 := cell_of hx0 1 _ rfl
  have hfi := find_is H.obs v
  have H0 := Lib.hid h0
  have HLOW := Lib.hid hwa
  obtain ⟨R, hR⟩ : ∃ R, kidsH h v = R := ⟨_, rfl⟩
  have HR := Lib.hid hR
  rw [hR]
  clear h0 hx0 H hR hwa hv
  obtain ⟨W, hW⟩ : ∃ W, w.alloc (.cells #[.int .u8 (v.kind : Int), .int .i64 v.n] 37) = W := ⟨_, rfl⟩
  rw [hW] at ca H0 HLOW x0 x1
  cases hh : hitL l v with
  | none =>
    rw [hh] at hfi ca
    simp only [Option.map_none, ptrG] at hfi ca
    have e : R = [] := by
      rw [← HR.out]
      unfold kidsH
      rw [hfi]
    rw [e]
    clear hfi HR e hh
    obtain ⟨vk, vn⟩ := v
    have ca : Calls Tryz.prog 77 #[.pointer (some ⟨b, 0, none⟩), .agg #[.int .u8 (vk : Int), .int .i64 vn]] W _ := ca
    show Calls Tryz.prog 47 #[.pointer (some ⟨b, 0, none⟩), .agg #[.int .u8 (vk : Int), .int .i64 vn]] w _
    dsimp only at *
    go_enter Tryz.func47, Tryz.ntmps47
    go_wp2_with fail
    refine ca.mono ?_
    rintro e w2 ⟨rfl, hb⟩
    have HB := Lib.hid (HLOW.out.trans (hb.mono HLOW.out.size))
    clear hb ca x0 x1
    go_wp2_with fail
    go_ret
    exact ⟨_, rfl, (ownV_nil w.heap.size w2).vls (Nat.zero_le _), HB.out⟩
  | some p =>
    obtain ⟨hn1, hi, hpk, _⟩ := hit_some hh
    rw [hh] at hfi ca
    simp only [Option.map_some, ptrG] at hfi ca
    have hob := H0.out.ok _ p hi
    have e : R = (leadsO p.o).filter objB := by
      rw [← HR.out]
      unfold kidsH leadsO
      rw [hfi]
      dsimp only
      rw [← hpk]
      split
      · rfl
      · split
        · rfl
        · split <;> rfl
    rw [e]
    have hlen : ((leadsO p.o).filter objB).length ≤ 1000000 := by
      have h1 := List.length_filter_le objB (leadsO p.o)
      have h2 : (leadsO p.o).length ≤ 200000 := by
        unfold leadsO
        split
        · rename_i e5
          have h3 := ((H0.out.rm.each _ p hi).2.tab e5).2
          rw [List.length_cons, valuesT_len]
          omega
        · split
          · have := hob.cells.1; omega
          · split
            · simp
            · simp
      omega
    have HLE := Lib.hid hlen
    have HP := Lib.hid (And.intro hi (And.intro hob (show p.o.kind ≠ 8 by rw [hpk]; exact h8)))
    clear hfi HR e hh hlen hn1 hi hpk hob
    obtain ⟨vk, vn⟩ := v
    have ca : Calls Tryz.prog 77 #[.pointer (some ⟨b, 0, none⟩), .agg #[.int .u8 (vk : Int), .int .i64 vn]] W _ := ca
    show Calls Tryz.prog 47 #[.pointer (some ⟨b, 0, none⟩), .agg #[.int .u8 (vk : Int), .int .i64 vn]] w _
    dsimp only at *
    go_enter Tryz.func47, Tryz.ntmps47
    go_wp2_with fail
    refine ca.mono ?_
    rintro e w2 ⟨rfl, hb⟩
    have hal : Below w2.heap.size w2 (w2.alloc (.cells #[.slice none 0 0] listT)) := (Below.refl _ _).alloc (Nat.le_refl _) _
    have hx := new_block w2 (.cells #[.slice none 0 0] listT)
    have hK : Kd (w2.alloc (.cells #[.slice none 0 0] listT)) w2.heap.size w.heap.size [] (.slice none 0 0) := ⟨⟨_, hx, rfl⟩, cell_of hx 0 _ rfl, ownV_nil _ _, fun e => by cases e⟩
    have H2 := Lib.hid ((H0.out.below hb).below hal)
    have hev := H2.out.rm.each _ p HP.out.1
    have hlt2 : ∀ x ∈ Fof b ob tb nb Fp l, x ∉ kF w2.heap.size (.slice none 0 0) := fun x hx hm => by
      have h1 := (H0.out.below hb).rm.lt x hx
      rcases in_kF.1 hm with e | e
      · omega
      · cases e
    have hs2 : w.heap.size ≤ w2.heap.size := Nat.le_trans HLOW.out.size hb.size
    have ct := tell_fn hev.1 hev.2 HP.out.2.1 HP.out.2.2 hK (hlt2 _ (F_obj HP.out.1)) (fun x hx => hlt2 x (F_part HP.out.1 x hx)) (Nat.le_trans hs2 hal.size)
    have HBA := Lib.hid ((HLOW.out.trans (hb.mono HLOW.out.size)).trans (hal.mono hs2))
    have HS2 := Lib.hid hs2
    unfold listT kidC at ct
    clear hb ca x0 x1 hal hx hK hev hlt2 hs2
    go_wp2_with fail
    refine ct.mono ?_
    rintro e w3 ⟨rfl, hks⟩
    obtain ⟨v', hkd, _⟩ := hks.kd
    have hc := hkd.cell
    have HO := Lib.hid hkd.own
    have HB3 := Lib.hid (HBA.out.trans (hks.turns.to_below HBA.out.size (fun x hx => by
      rcases in_kF.1 hx with e | e
      · rw [e]; exact HS2.out
      · cases e)))
    clear ct hks hkd
    go_wp2_with fail
    go_ret
    exact ⟨_, rfl, HO.out.vls HLE.out, HB3.out⟩
end
theorem heap_says : HeapSays HP where
  mem := HP.mem
  keep := HP.keep
  new := new_fn'
  str s H := by
    obtain ⟨pb, ob, tb, nb, Fp, ft, sn, fn, l, H, rfl⟩ := H
    exact str_fn' H s
  table H := by
    obtain ⟨pb, ob, tb, nb, Fp, ft, sn, fn, l, H, rfl⟩ := H
    exact table_fn' H
  cell v H hv := by
    obtain ⟨pb, ob, tb, nb, Fp, ft, sn, fn, l, H, rfl⟩ := H
    exact cell_fn' H v hv
  set t k v H ht hk hv := by
    obtain ⟨pb, ob, tb, nb, Fp, ft, sn, fn, l, H, rfl⟩ := H
    exact set_fn'' H t k v ht hk hv
  store c v H hc hv := by
    obtain ⟨pb, ob, tb, nb, Fp, ft, sn, fn, l, H, rfl⟩ := H
    exact store_fn' H c v hc hv
  free v H hv := by
    obtain ⟨pb, ob, tb, nb, Fp, ft, sn, fn, l, H, rfl⟩ := H
    exact free_fn' H v hv
  get t k H ht hk := by
    obtain ⟨pb, ob, tb, nb, Fp, ft, sn, fn, l, H, rfl⟩ := H
    exact get_fn H t k ht hk
  load c H hc := by
    obtain ⟨pb, ob, tb, nb, Fp, ft, sn, fn, l, H, rfl⟩ := H
    exact load_fn' H c hc
  has v H hv := by
    obtain ⟨pb, ob, tb, nb, Fp, ft, sn, fn, l, H, rfl⟩ := H
    exact has_fn H v hv
  text v H hv := by
    obtain ⟨pb, ob, tb, nb, Fp, ft, sn, fn, l, H, rfl⟩ := H
    exact text_fn H v hv
  serial v H hv := by
    obtain ⟨pb, ob, tb, nb, Fp, ft, sn, fn, l, H, rfl⟩ := H
    exact serial_fn H v hv
  objects H := by
    obtain ⟨pb, ob, tb, nb, Fp, ft, sn, fn, l, H, rfl⟩ := H
    exact objects_fn H
  kids v H hv h8 := by
    obtain ⟨pb, ob, tb, nb, Fp, ft, sn, fn, l, H, rfl⟩ := H
    exact kids_fn H v hv h8
  used H := by
    obtain ⟨pb, ob, tb, nb, Fp, ft, sn, fn, l, H, rfl⟩ := H
    exact used_fn H
  max H := by
    obtain ⟨pb, ob, tb, nb, Fp, ft, sn, fn, l, H, rfl⟩ := H
    exact max_fn H
end Go.Proofs.YthejclgihhfenaaGreat.Hd
