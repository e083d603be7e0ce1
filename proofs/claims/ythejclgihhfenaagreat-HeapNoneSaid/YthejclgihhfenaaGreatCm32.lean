import Derived.Test.YthejclgihhfenaaGreatCm31
/-
  Layer 14: the developers' heap: whether there is room; what a table's keys that have values come to.
-/
namespace Go.Proofs.YthejclgihhfenaaGreat.Hd
open Go Go.RowKit Go.Proofs.YthejclgihhfenaaGreat.Pl Go.Proofs.YthejclgihhfenaaGreat.Tb Go.Proofs.YthejclgihhfenaaGreat.Vm Go.Proofs.YthejclgihhfenaaGreat.Hp Go.Proofs.YthejclgihhfenaaGreat.Td

theorem count_cons (p : Vl × Vl) (t : Tbl) : countT (p :: t) = countT t + (if p.2.kind = 0 then 0 else 1) := by
  unfold countT
  rw [List.filter_cons]
  unfold alive
  by_cases h : p.2.kind = 0
  · rw [if_pos h, if_neg (by simp [h])]; rfl
  · rw [if_neg h, if_pos (by simp [h])]; rfl
theorem count_put : ∀ (t : Tbl) (k v : Vl), (t.map (·.1)).Nodup → hasT t k = true → countT (putT t k v) + (if (getT t k).kind = 0 then 0 else 1) = countT t + (if v.kind = 0 then 0 else 1)
  | [], k, v, _, h => by cases h
  | p :: t, k, v, hn, hh => by
    have hn2 : (t.map (·.1)).Nodup := (List.nodup_cons.1 hn).2
    have hno : p.1 ∉ t.map (·.1) := (List.nodup_cons.1 hn).1
    show countT ((if p.1 = k then (p.1, v) else p) :: putT t k v) + _ = _
    rw [get_cons, count_cons, count_cons]
    by_cases e : p.1 = k
    · rw [if_pos e, if_pos e, put_not' t k v (by rw [← e]; exact hno)]
      dsimp only
      omega
    · rw [if_neg e, if_neg e]
      have hh2 : hasT t k = true := by
        rw [has_cons, decide_eq_false e, Bool.false_or] at hh
        exact hh
      have := count_put t k v hn2 hh2
      omega
theorem count_filter (t : Tbl) : countT (t.filter alive) = countT t := by
  unfold countT
  rw [List.filter_filter]
  congr 1
  congr 1
  funext x
  exact Bool.and_self _
/-- How many keys have values behind a Set. -/
theorem count_set {t : Tbl} {k v : Vl} (hn : (t.map (·.1)).Nodup) : countT (setT t k v).1 ≤ countT t + (if (getT t k).kind = 0 ∧ v.kind ≠ 0 then 1 else 0) := by
  unfold setT
  split
  · split
    · rename_i h2
      have h := count_put t k v hn h2
      dsimp only
      by_cases a : (getT t k).kind = 0
      · by_cases c : v.kind = 0
        · rw [if_pos a, if_pos c] at h; omega
        · rw [if_pos a, if_neg c] at h; rw [if_pos ⟨a, c⟩]; omega
      · rw [if_neg a] at h
        rw [if_neg (fun h => a h.1)]
        split at h <;> omega
    · rename_i h2
      split
      · dsimp only; omega
      · rename_i h3
        have h4 : getT t k = nilV := get_none t k (by cases e : hasT t k with | false => rfl | true => exact absurd e h2)
        split
        · dsimp only; rw [count_filter]; omega
        · dsimp only
          rw [h4, if_pos ⟨rfl, h3⟩]
          have : countT (t.filter alive ++ [(k, v)]) = countT t + 1 := by
            unfold countT
            rw [List.filter_append, List.length_append, List.filter_filter]
            have e1 : (List.filter (fun a => alive a && alive a) t) = t.filter alive := by congr 1; funext x; exact Bool.and_self _
            rw [e1]
            have e2 : List.filter alive [(k, v)] = [(k, v)] := by
              rw [List.filter_cons, if_pos (by unfold alive; simp [h3])]; rfl
            rw [e2]; rfl
          omega
  · dsimp only; omega
theorem len_filter (t : Tbl) : (t.filter alive).length ≤ t.length := List.length_filter_le ..
theorem len_set {t : Tbl} {k v : Vl} (hl : t.length ≤ 65536) : (setT t k v).1.length ≤ 65536 := by
  have h1 := len_filter t
  unfold setT
  split
  · split
    · show (putT t k v).length ≤ _
      unfold putT
      rw [List.length_map]; exact hl
    · split
      · exact hl
      · split
        · dsimp only; omega
        · dsimp only; rw [List.length_append, List.length_singleton]; omega
  · exact hl
section
variable {w w' : World} {b pb ob tb : Nat} {h h' : Hp} {nb : Option Nat} {Fp Fp' F G : List Nat} {st sn sn' : Nat} {ft ft' : ByteArray → Option Int} {fn fn' : Int → Option Unit} {l l' : ObL}
set_option maxRecDepth 100000 in
theorem room_fn (H : HX w b h pb ob tb nb Fp ft sn fn l) (n : Int) (hn : 0 ≤ n ∧ n ≤ 1000) :
    Calls Tryz.prog 69 #[.pointer (some ⟨b, 0, none⟩), .int .i64 n] w fun e w' => e = .returned (.bool (decide (usedH h + n ≤ h.max))) ∧ Below w.heap.size w w' := by
  have hd : Below w.heap.size w w.drew := (Below.refl _ _).drew
  have h0 := H.below hd
  have hm := h0.rm.max
  have hp := h0.rm.poolc
  have hpp := h0.rm.pool
  have hok := hpp.ok
  obtain ⟨_, _, _, hq, _⟩ := hpp
  have cu := used_fn' hq
  have hu0 := used_pos (obOf h) hok.pos
  have hu1 := hok.sum
  have htop := H.top
  rw [show usedH h = usedL (obOf h) from rfl]
  obtain ⟨u, hue⟩ : ∃ u, usedL (obOf h) = u := ⟨_, rfl⟩
  obtain ⟨mx, hmx⟩ : ∃ mx, h.max = mx := ⟨_, rfl⟩
  rw [hue] at cu hu0 hu1 ⊢
  rw [hmx] at hm hu1 htop ⊢
  have HH0 := Lib.hid h0
  have HD := Lib.hid hd
  have hsub := IntWalk.i64_in (mx - u) (by omega)
  have hsub2 : wrap64 (mx - u) = mx - u := by rw [← IntWalk.i64_left]; exact hsub
  have hdec : decide (n ≤ mx - u) = decide (u + n ≤ mx) := decide_eq_decide.2 (by omega)
  generalize decide (u + n ≤ mx) = db at *
  have HS1 := Lib.hid (And.intro hsub (And.intro hsub2 hdec))
  have HMX := Lib.hid hmx
  clear hsub hsub2 hdec
  have HU := Lib.hid (And.intro hu0 (And.intro hu1 (And.intro htop hn)))
  clear hq h0 hok H hue hmx hd hu0 hu1 htop hn
  go_enter Tryz.func69, Tryz.ntmps69
  go_upto_region 1 with fail
  refine wp_region_held_drew (S := fun w' => w'.cell? ⟨b, 1, none⟩ = some (.int .i64 mx) ∧ w'.cell? ⟨b, 2, none⟩ = some (.pointer (some ⟨pb, 0, none⟩))) mixed ⟨hm, hp⟩ (fun hS => ?_)
  refine wpAnyH_take (i := 0) (v := ?va0) rfl (by kernel_rfl) (by kernel_rfl) (by kernel_rfl) (fun _ _ _ h => h) (.inl ⟨by rfl, ?ha0⟩) hS ?ra0
  case ha0 =>
    intro w' hs
    (try dsimp only at hs)
    go_split_ands
    go_simp
    try with_reducible rfl
  simp only [List.getElem_toArray, List.getElem_cons_zero, Act.put, List.setIfInBounds_toArray, List.set_cons_zero, List.set_cons_succ]
  refine wpAnyH_take (i := 1) (v := ?va1) rfl (by kernel_rfl) (by kernel_rfl) (by kernel_rfl) (fun _ _ _ h => h) (.inl ⟨by rfl, ?ha1⟩) hS ?ra1
  case ha1 =>
    intro w' hs
    (try dsimp only at hs)
    go_split_ands
    go_simp
    try with_reducible rfl
  simp only [List.getElem_toArray, List.getElem_cons_succ, List.getElem_cons_zero, Act.put, List.setIfInBounds_toArray, List.set_cons_zero, List.set_cons_succ]
  refine wpAnyH_take (i := 2) (v := ?va2) rfl (by kernel_rfl) (by kernel_rfl) (by kernel_rfl) (fun _ _ _ h => h) (.inl ⟨by rfl, ?ha2⟩) hS ?ra2
  case ha2 =>
    intro w' hs
    (try dsimp only at hs)
    go_split_ands
    go_simp
    try with_reducible rfl
  simp only [List.getElem_toArray, List.getElem_cons_succ, List.getElem_cons_zero, Act.put, List.setIfInBounds_toArray, List.set_cons_zero, List.set_cons_succ]
  refine wpAnyH_take (i := 3) (v := ?va3) rfl (by kernel_rfl) (by kernel_rfl) (by kernel_rfl) (fun _ _ _ h => h) (.inl ⟨by rfl, ?ha3⟩) hS ?ra3
  case ha3 =>
    intro w' hs
    (try dsimp only at hs)
    go_split_ands
    go_simp
    try with_reducible rfl
  simp only [List.getElem_toArray, List.getElem_cons_succ, List.getElem_cons_zero, Act.put, List.setIfInBounds_toArray, List.set_cons_zero, List.set_cons_succ]
  refine wpAnyH_take (i := 4) (v := ?va4) rfl (by kernel_rfl) (by kernel_rfl) (by kernel_rfl) (fun _ _ _ h => h) (.inl ⟨by rfl, ?ha4⟩) hS ?ra4
  case ha4 =>
    intro w' hs
    (try dsimp only at hs)
    go_split_ands
    go_simp
    try with_reducible rfl
  simp only [List.getElem_toArray, List.getElem_cons_succ, List.getElem_cons_zero, Act.put, List.setIfInBounds_toArray, List.set_cons_zero, List.set_cons_succ]
  refine wpAnyH_take (i := 5) (v := ?va5) rfl (by kernel_rfl) (by kernel_rfl) (by kernel_rfl) (fun _ _ _ h => h) (.inl ⟨by rfl, ?ha5⟩) hS ?ra5
  case ha5 =>
    intro w' hs
    (try dsimp only at hs)
    go_split_ands
    go_simp
    try with_reducible rfl
  simp only [List.getElem_toArray, List.getElem_cons_succ, List.getElem_cons_zero, Act.put, List.setIfInBounds_toArray, List.set_cons_zero, List.set_cons_succ]
  refine wpAnyH_take (i := 6) (v := ?va6) rfl (by kernel_rfl) (by kernel_rfl) (by kernel_rfl) (fun _ _ _ h => h) (.inl ⟨by rfl, ?ha6⟩) hS ?ra6
  case ha6 =>
    intro w' hs
    (try dsimp only at hs)
    go_split_ands
    go_simp
    try with_reducible rfl
  simp only [List.getElem_toArray, List.getElem_cons_succ, List.getElem_cons_zero, Act.put, List.setIfInBounds_toArray, List.set_cons_zero, List.set_cons_succ]
  refine wpAnyH_take (i := 7) (v := ?va7) rfl (by kernel_rfl) (by kernel_rfl) (by kernel_rfl) (fun _ _ _ h => h) (.inl ⟨by rfl, ?ha7⟩) hS ?ra7
  case ha7 =>
    intro w' hs
    (try dsimp only at hs)
    go_split_ands
    go_simp
    try with_reducible rfl
  simp only [List.getElem_toArray, List.getElem_cons_succ, List.getElem_cons_zero, Act.put, List.setIfInBounds_toArray, List.set_cons_zero, List.set_cons_succ]
  refine wpAnyH_take (i := 8) (v := ?va8) rfl (by kernel_rfl) (by kernel_rfl) (by kernel_rfl) (fun _ _ _ h => h) (.inl ⟨by rfl, ?ha8⟩) hS ?ra8
  case ha8 =>
    intro w' hs
    (try dsimp only at hs)
    go_split_ands
    go_simp
    try with_reducible rfl
  simp only [List.getElem_toArray, List.getElem_cons_succ, List.getElem_cons_zero, Act.put, List.setIfInBounds_toArray, List.set_cons_zero, List.set_cons_succ]
  refine wpAnyH_ready (rs := [9]) (by kernel_rfl) (by simp) (AllReadyH.cons rfl (fun K hK => ?_) AllReadyH.nil)
  go_simp
  refine cu.mono ?_
  rintro e w1 ⟨rfl, hb⟩
  have h1 := HH0.out.below hb
  have HB := Lib.hid (HD.out.trans hb)
  have hm1 := h1.rm.max
  rw [HMX.out] at hm1
  have hp1 := h1.rm.poolc
  clear h1 hb cu
  go_wp2_with fail
  refine hK.out _ _ ⟨hm1, hp1⟩ (fun hS => ?_)
  clear hK
  obtain ⟨hsub, hsub2, hdec⟩ := HS1.out
  refine wpAnyH_take (i := 10) (v := ?vb10) rfl (by kernel_rfl) (by kernel_rfl) (by kernel_rfl) (fun _ _ _ h => h) (.inl ⟨by rfl, ?hb10⟩) hS ?rb10
  case hb10 =>
    intro w' hs
    (try dsimp only at hs)
    go_split_ands
    go_simp
    try with_reducible rfl
  simp only [List.getElem_toArray, List.getElem_cons_succ, List.getElem_cons_zero, Act.put, List.setIfInBounds_toArray, List.set_cons_zero, List.set_cons_succ]
  refine wpAnyH_take (i := 11) (v := ?vb11) rfl (by kernel_rfl) (by kernel_rfl) (by kernel_rfl) (fun _ _ _ h => h) (.inl ⟨by rfl, ?hb11⟩) hS ?rb11
  case hb11 =>
    intro w' hs
    (try dsimp only at hs)
    go_split_ands
    go_simp
    try with_reducible rfl
  simp only [List.getElem_toArray, List.getElem_cons_succ, List.getElem_cons_zero, Act.put, List.setIfInBounds_toArray, List.set_cons_zero, List.set_cons_succ]
  refine wpAnyH_take (i := 12) (v := ?vb12) rfl (by kernel_rfl) (by kernel_rfl) (by kernel_rfl) (fun _ _ _ h => h) (.inl ⟨by rfl, ?hb12⟩) hS ?rb12
  case hb12 =>
    intro w' hs
    (try dsimp only at hs)
    go_split_ands
    go_simp
    try with_reducible rfl
  simp only [List.getElem_toArray, List.getElem_cons_succ, List.getElem_cons_zero, Act.put, List.setIfInBounds_toArray, List.set_cons_zero, List.set_cons_succ]
  refine wpAnyH_done (by kernel_rfl) ?_ _
  clear hS
  go_wp2_with fail
  go_ret
  exact ⟨ret_bool (by rw [← hdec]), HB.out⟩
/-- An object has turned, its size, too. -/
theorem HX.setSize {i : Nat} {p q : OP} (H : HX w b h pb ob tb nb Fp ft sn fn l) (hi : l[i]? = some (some p)) (hr : RM w' b h.max h.made pb ob tb nb Fp' ((obOf h).set i (some (sizeO q.o))) (cntL (obOf h)) (foL l) (l.countP textO) ft sn fn (l.set i (some q)))
    (hg : q.g = p.g) (hk : q.o.kind = p.o.kind) (hx : q.o.text = p.o.text) (hnt : q.o.noted = p.o.noted) (hok : DataOk q.o) : HX w' b (setO h i q.o) pb ob tb nb Fp' ft sn fn (l.set i (some q)) := by
  have hl := idx_lt hi
  have ho : obOf (setO h i q.o) = (obOf h).set i (some (sizeO q.o)) := by
    unfold obOf setO
    dsimp only
    rw [List.map_set]
    rfl
  have hc : cntL ((obOf h).set i (some (sizeO q.o))) = cntL (obOf h) := cnt_set_same _ i _ _ (ob_get H.obs hi)
  have hfo : foL (l.set i (some q)) = foL l := by
    funext n
    unfold foL
    rw [at_set hl]
    split
    · rename_i e
      rw [e, at_of hi]
      show some (some q.g) = some (some p.g)
      rw [hg]
    · rfl
  have look := look_set (x := q) hl
  refine ⟨⟨?_, ?_, H.made, H.watch, fun x hx2 => ⟨by rw [cnt_note hi hnt]; exact (H.nts x hx2).1, fun n => ?_⟩, fun hn j r hj => ?_, fun j r hj => ?_, H.top⟩, txt_set H.txt hi hk hx⟩
  · rw [ho, hc, hfo, cnt_text hi hk]; exact hr
  · unfold setO
    rw [List.map_set, ← H.obs]
    rfl
  · rw [(H.nts x hx2).2]
    unfold fnL
    rw [at_set hl]
    by_cases e : n = (i : Int) + 1
    · rw [if_pos e, e, at_of hi]
      dsimp only
      rw [hnt]
    · rw [if_neg e]
  · rcases look j r hj with ⟨rfl, rfl⟩ | ⟨_, hj⟩
    · rw [hnt]; exact H.still hn j p hi
    · exact H.still hn j r hj
  · rcases look j r hj with ⟨rfl, rfl⟩ | ⟨_, hj⟩
    · exact hok
    · exact H.ok j r hj
end
end Go.Proofs.YthejclgihhfenaaGreat.Hd
