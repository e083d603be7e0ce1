import Derived.Test.YthejclgihhfenaaGreatCm22
/-
  Layer 14: the developers' heap: that what lies in memory is the heap h.
-/
namespace Go.Proofs.YthejclgihhfenaaGreat.Hd
open Go Go.RowKit Go.Proofs.YthejclgihhfenaaGreat.Pl Go.Proofs.YthejclgihhfenaaGreat.Tb Go.Proofs.YthejclgihhfenaaGreat.Vm Go.Proofs.YthejclgihhfenaaGreat.Hp Go.Proofs.YthejclgihhfenaaGreat.Td

def textO : Option OP → Bool
  | some p => decide (p.o.kind = 4)
  | none => false
def notedO : Option OP → Bool
  | some p => p.o.noted
  | none => false
def fnL (l : ObL) : Int → Option Unit := fun n => match atL l n with
  | some p => if p.o.noted then some () else none
  | none => none
/-- The heap h in its parts, whatever the map of texts says. -/
structure HXo (w : World) (b : Nat) (h : Hp) (pb ob tb : Nat) (nb : Option Nat) (Fp : List Nat) (st : Nat) (ft : ByteArray → Option Int) (sn : Nat) (fn : Int → Option Unit) (l : ObL) : Prop where
  rm : RM w b h.max h.made pb ob tb nb Fp (obOf h) (cntL (obOf h)) (foL l) st ft sn fn l
  obs : h.obs = l.map (Option.map (·.o))
  made : In64 h.made
  watch : h.watch = nb.isSome
  nts : ∀ x, nb = some x → sn = l.countP notedO ∧ ∀ n, fn n = fnL l n
  still : nb = none → ∀ (i : Nat) (p : OP), l[i]? = some (some p) → p.o.noted = false
  ok : ∀ (i : Nat) (p : OP), l[i]? = some (some p) → DataOk p.o
  top : 1 ≤ h.max ∧ h.max ≤ 16777216
/-- What the map of texts says. -/
def TxtIs (ft : ByteArray → Option Int) (l : ObL) : Prop := ∀ s n, ft s = some n ↔ ∃ (i : Nat) (p : OP), l[i]? = some (some p) ∧ p.o.kind = 4 ∧ p.o.text = s ∧ n = (i : Int) + 1
/-- The heap h in its parts. -/
structure HX (w : World) (b : Nat) (h : Hp) (pb ob tb : Nat) (nb : Option Nat) (Fp : List Nat) (ft : ByteArray → Option Int) (sn : Nat) (fn : Int → Option Unit) (l : ObL) : Prop extends HXo w b h pb ob tb nb Fp (l.countP textO) ft sn fn l where
  txt : TxtIs ft l
/-- At block b lies the heap h, in the blocks F. -/
def HP : HeapP := fun w b h F => ∃ pb ob tb nb Fp ft sn fn l, HX w b h pb ob tb nb Fp ft sn fn l ∧ F = Fof b ob tb nb Fp l
section
variable {w w' : World} {b pb ob tb : Nat} {h : Hp} {nb : Option Nat} {Fp F G : List Nat} {sn : Nat} {ft : ByteArray → Option Int} {fn : Int → Option Unit} {l : ObL}
theorem HX.turns (H : HX w b h pb ob tb nb Fp ft sn fn l) (ht : Turns G w w') (hn : ∀ x ∈ Fof b ob tb nb Fp l, x ∉ G) : HX w' b h pb ob tb nb Fp ft sn fn l :=
  { H with rm := H.rm.turns ht hn }
theorem HX.below (H : HX w b h pb ob tb nb Fp ft sn fn l) (hb : Below w.heap.size w w') : HX w' b h pb ob tb nb Fp ft sn fn l :=
  { H with rm := H.rm.below hb }
theorem HP.mem (H : HP w b h F) : b ∈ F ∧ ∀ k ∈ F, k < w.heap.size := by
  obtain ⟨pb, ob, tb, nb, Fp, ft, sn, fn, l, H, rfl⟩ := H
  exact ⟨in_F.2 (.inl rfl), H.rm.lt⟩
theorem HP.keep (H : HP w b h F) (ht : Turns G w w') (hn : ∀ k ∈ F, k ∉ G) : HP w' b h F := by
  obtain ⟨pb, ob, tb, nb, Fp, ft, sn, fn, l, H, rfl⟩ := H
  exact ⟨pb, ob, tb, nb, Fp, ft, sn, fn, l, H.turns ht hn, rfl⟩
theorem obs_at (ho : h.obs = l.map (Option.map (·.o))) (i : Nat) : h.obs[i]? = (l[i]?).map (Option.map (·.o)) := by rw [ho, List.getElem?_map]
theorem find_is (ho : h.obs = l.map (Option.map (·.o))) (v : Vl) : findH h v = (hitL l v).map (fun p => ((v.n - 1).toNat, p.o)) := by
  unfold findH hitL atL
  by_cases h1 : 1 ≤ v.n
  · rw [if_pos h1, if_pos h1, obs_at ho]
    cases e : l[(v.n - 1).toNat]? with
    | none => rfl
    | some x =>
      cases x with
      | none => rfl
      | some p =>
        show (if p.o.kind = v.kind then _ else _) = Option.map _ (if p.o.kind = v.kind then _ else _)
        split <;> rfl
  · rw [if_neg h1, if_neg h1]; rfl
theorem HX.hit (H : HX w b h pb ob tb nb Fp ft sn fn l) {v : Vl} {p : OP} (hp : hitL l v = some p) : DataOk p.o := H.ok _ p (hit_some hp).2.1
theorem HX.keepIs (H : HX w b h pb ob tb nb Fp ft sn fn l) (v : Vl) : keepL l v = keepB h v := by
  unfold keepB
  rw [find_is H.obs, Option.isSome_map]
  have hk : ∀ p, hitL l v = some p → v.kind = 4 ∨ v.kind = 5 ∨ v.kind = 6 ∨ v.kind = 8 ∨ v.kind = 9 := fun p hp => by
    have h1 := (H.hit hp).kind
    rw [(hit_some hp).2.2.1] at h1
    exact h1
  unfold keepL valB plainB objB
  by_cases h2 : v.kind ≤ 2
  · rw [if_pos h2]
    have e1 : decide (v.kind ≤ 8) = true := decide_eq_true (by omega)
    have e2 : decide (2 < v.kind) = false := decide_eq_false (by omega)
    have e3 : decide (4 ≤ v.kind) = false := decide_eq_false (by omega)
    have e4 : decide (v.kind = 8) = false := decide_eq_false (by omega)
    have e5 : decide (v.kind = 9) = false := decide_eq_false (by omega)
    rw [e1, e2, e3, e4, e5]
    simp
  · rw [if_neg h2]
    have e2 : decide (2 < v.kind) = true := decide_eq_true (by omega)
    rw [e2]
    by_cases h3 : v.kind = 3 ∨ v.kind = 7
    · rw [if_pos h3]
      rcases h3 with e | e <;> simp [e]
    · rw [if_neg h3]
      by_cases h9 : v.kind = 9
      · rw [if_pos h9]; simp [h9]
      · rw [if_neg h9]
        cases hh : hitL l v with
        | none =>
          by_cases h8 : v.kind ≤ 8
          · have : v.kind = 4 ∨ v.kind = 5 ∨ v.kind = 6 ∨ v.kind = 8 := by omega
            rcases this with e | e | e | e <;> simp [e]
          · simp [h8]
        | some p =>
          have := hk p hh
          rcases this with e | e | e | e | e
          · simp [e]
          · simp [e]
          · simp [e]
          · simp [e]
          · exact absurd e h9
theorem ob_is (ho : h.obs = l.map (Option.map (·.o))) : obOf h = l.map (Option.map (fun p => sizeO p.o)) := by
  unfold obOf
  rw [ho, List.map_map]
  apply List.map_congr_left
  intro x _
  cases x <;> rfl
theorem ob_get (ho : h.obs = l.map (Option.map (·.o))) {i : Nat} {p : OP} (hi : l[i]? = some (some p)) : (obOf h)[i]? = some (some (sizeO p.o)) := by
  rw [ob_is ho, List.getElem?_map, hi]; rfl
theorem ob_at (ho : h.obs = l.map (Option.map (·.o))) {i : Nat} {p : OP} (hi : l[i]? = some (some p)) : obAt (obOf h) ((i : Int) + 1) = some (sizeO p.o) := by
  unfold obAt
  rw [if_pos (by omega), show ((i : Int) + 1 - 1).toNat = i by omega, ob_get ho hi]
  rfl
theorem HX.few (H : HX w b h pb ob tb nb Fp ft sn fn l) : cntL (obOf h) ≤ 65536 := H.rm.pool.ok.few
theorem cnt_is (ho : h.obs = l.map (Option.map (·.o))) : cntL (obOf h) = l.countP Option.isSome := by
  rw [ob_is ho]
  unfold cntL
  rw [← List.countP_eq_length_filter, List.countP_map]
  congr 1
  funext x
  cases x <;> rfl
theorem cnt_few {q : Option OP → Bool} (hq : ∀ x, q x = true → x.isSome = true) (l : ObL) : l.countP q ≤ l.countP Option.isSome := List.countP_mono_left (fun x _ hx => hq x hx)
theorem text_some : ∀ x, textO x = true → x.isSome = true := by
  intro x h
  cases x with
  | none => cases h
  | some p => rfl
theorem noted_some : ∀ x, notedO x = true → x.isSome = true := by
  intro x h
  cases x with
  | none => cases h
  | some p => rfl
theorem HX.fewText (H : HX w b h pb ob tb nb Fp ft sn fn l) : l.countP textO ≤ 65536 := by
  have h1 := H.few
  rw [cnt_is H.obs] at h1
  exact Nat.le_trans (cnt_few text_some l) h1
theorem HXo.fewNoted {st : Nat} (H : HXo w b h pb ob tb nb Fp st ft sn fn l) : l.countP notedO ≤ 65536 := by
  have h1 : cntL (obOf h) ≤ 65536 := H.rm.pool.ok.few
  rw [cnt_is H.obs] at h1
  exact Nat.le_trans (cnt_few noted_some l) h1
theorem HXo.turns {st : Nat} (H : HXo w b h pb ob tb nb Fp st ft sn fn l) (ht : Turns G w w') (hn : ∀ x ∈ Fof b ob tb nb Fp l, x ∉ G) : HXo w' b h pb ob tb nb Fp st ft sn fn l :=
  { H with rm := H.rm.turns ht hn }
theorem HXo.below {st : Nat} (H : HXo w b h pb ob tb nb Fp st ft sn fn l) (hb : Below w.heap.size w w') : HXo w' b h pb ob tb nb Fp st ft sn fn l :=
  { H with rm := H.rm.below hb }
/-- How a count turns where one place is set. -/
theorem cnt_set (q : Option OP → Bool) {i : Nat} {x y : Option OP} (hi : l[i]? = some x) : (l.set i y).countP q + (if q x then 1 else 0) = l.countP q + (if q y then 1 else 0) := by
  obtain ⟨hl, hx⟩ := List.getElem?_eq_some_iff.1 hi
  rw [List.countP_set hl, hx]
  have h1 : (if q x = true then 1 else 0) ≤ l.countP q := by
    split
    · rename_i hq
      exact List.countP_pos_iff.2 ⟨x, List.mem_of_getElem? hi, hq⟩
    · exact Nat.zero_le _
  omega
theorem at_set {i : Nat} {x : Option OP} (hi : i < l.length) (n : Int) : atL (l.set i x) n = if n = (i : Int) + 1 then x else atL l n := by
  unfold atL
  by_cases h1 : 1 ≤ n
  · rw [if_pos h1, if_pos h1, List.getElem?_set]
    by_cases h2 : n = (i : Int) + 1
    · rw [if_pos h2, if_pos (by omega), if_pos hi]; rfl
    · rw [if_neg h2, if_neg (by omega)]
  · rw [if_neg h1, if_neg h1, if_neg (by omega)]
theorem idx_lt {i : Nat} {x : Option OP} (hi : l[i]? = some x) : i < l.length := (List.getElem?_eq_some_iff.1 hi).1
theorem get_set {i : Nat} {x : Option OP} (hi : i < l.length) (j : Nat) : (l.set i x)[j]? = if j = i then some x else l[j]? := by
  rw [List.getElem?_set]
  by_cases e : i = j
  · rw [if_pos e, if_pos (by omega), if_pos e.symm]
  · rw [if_neg e, if_neg (fun h => e h.symm)]
theorem look_set {i : Nat} {x : OP} (hl : i < l.length) (j : Nat) (r : OP) (hj : (l.set i (some x))[j]? = some (some r)) : (j = i ∧ r = x) ∨ (j ≠ i ∧ l[j]? = some (some r)) := by
  rw [get_set hl] at hj
  split at hj
  · rename_i e
    exact .inl ⟨e, by injection hj with hj; injection hj with hj; exact hj.symm⟩
  · rename_i e
    exact .inr ⟨e, hj⟩
theorem set_self {α : Type} {l : List α} {i : Nat} {x : α} (h : l[i]? = some x) : l.set i x = l := by
  apply List.ext_getElem?
  intro j
  rw [List.getElem?_set]
  split
  · rename_i e
    subst e
    obtain ⟨h1, _⟩ := List.getElem?_eq_some_iff.1 h
    rw [if_pos h1, h]
  · rfl
/-- An object has turned, and not its size; what is noted is as told. -/
theorem HXo.setGen {st i sn' : Nat} {fn' : Int → Option Unit} {p q : OP} (H : HXo w b h pb ob tb nb Fp st ft sn fn l) (hi : l[i]? = some (some p)) (hr : RM w' b h.max h.made pb ob tb nb Fp (obOf h) (cntL (obOf h)) (foL l) st ft sn' fn' (l.set i (some q)))
    (hg : q.g = p.g) (hs : sizeO q.o = sizeO p.o) (hnn : ∀ x, nb = some x → sn' = (l.set i (some q)).countP notedO ∧ ∀ n, fn' n = fnL (l.set i (some q)) n) (hst : nb = none → q.o.noted = false) (hok : DataOk q.o) : HXo w' b (setO h i q.o) pb ob tb nb Fp st ft sn' fn' (l.set i (some q)) := by
  have hl := idx_lt hi
  have ho : obOf (setO h i q.o) = obOf h := by
    unfold obOf setO
    dsimp only
    rw [List.map_set]
    show List.set _ i (some (sizeO q.o)) = _
    rw [hs]
    exact set_self (ob_get H.obs hi)
  have hfo : foL (l.set i (some q)) = foL l := by
    funext n
    unfold foL
    rw [at_set hl]
    split
    · rename_i e
      rw [e, at_of hi]
      show some (some q.g) = some (some p.g)
      rw [hg]
    · rfl
  have look := look_set (x := q) hl
  refine ⟨?_, ?_, H.made, H.watch, hnn, fun hn j r hj => ?_, fun j r hj => ?_, H.top⟩
  · rw [ho, hfo]; exact hr
  · unfold setO
    rw [List.map_set, ← H.obs]
    rfl
  · rcases look j r hj with ⟨rfl, rfl⟩ | ⟨_, hj⟩
    · exact hst hn
    · exact H.still hn j r hj
  · rcases look j r hj with ⟨rfl, rfl⟩ | ⟨_, hj⟩
    · exact hok
    · exact H.ok j r hj
theorem txt_set {i : Nat} {p q : OP} (H : TxtIs ft l) (hi : l[i]? = some (some p)) (hk : q.o.kind = p.o.kind) (hx : q.o.text = p.o.text) : TxtIs ft (l.set i (some q)) := fun s n => by
  have hl := idx_lt hi
  rw [H]
  constructor
  · rintro ⟨j, r, h1, h2, h3, h4⟩
    by_cases e : j = i
    · subst e
      rw [hi] at h1
      injection h1 with h1; injection h1 with h1
      subst h1
      exact ⟨j, q, by rw [get_set hl, if_pos rfl], by rw [hk]; exact h2, by rw [hx]; exact h3, h4⟩
    · exact ⟨j, r, by rw [get_set hl, if_neg e]; exact h1, h2, h3, h4⟩
  · rintro ⟨j, r, h1, h2, h3, h4⟩
    rcases look_set hl j r h1 with ⟨rfl, rfl⟩ | ⟨_, h1⟩
    · exact ⟨j, p, hi, by rw [← hk]; exact h2, by rw [← hx]; exact h3, h4⟩
    · exact ⟨j, r, h1, h2, h3, h4⟩
theorem cnt_text {i : Nat} {p q : OP} (hi : l[i]? = some (some p)) (hk : q.o.kind = p.o.kind) : (l.set i (some q)).countP textO = l.countP textO := by
  have := cnt_set textO (y := some q) hi
  rw [show textO (some q) = textO (some p) from by show decide (q.o.kind = 4) = decide (p.o.kind = 4); rw [hk]] at this
  omega
theorem cnt_note {i : Nat} {p q : OP} (hi : l[i]? = some (some p)) (hk : q.o.noted = p.o.noted) : (l.set i (some q)).countP notedO = l.countP notedO := by
  have := cnt_set notedO (y := some q) hi
  rw [show notedO (some q) = notedO (some p) from hk] at this
  omega
/-- An object has turned, and neither its kind, its text, its size nor whether it is noted. -/
theorem HX.setSame {i : Nat} {p q : OP} (H : HX w b h pb ob tb nb Fp ft sn fn l) (hi : l[i]? = some (some p)) (hr : RM w' b h.max h.made pb ob tb nb Fp (obOf h) (cntL (obOf h)) (foL l) (l.countP textO) ft sn fn (l.set i (some q)))
    (hg : q.g = p.g) (hk : q.o.kind = p.o.kind) (hx : q.o.text = p.o.text) (hnt : q.o.noted = p.o.noted) (hs : sizeO q.o = sizeO p.o) (hok : DataOk q.o) : HX w' b (setO h i q.o) pb ob tb nb Fp ft sn fn (l.set i (some q)) := by
  have hl := idx_lt hi
  refine ⟨?_, txt_set H.txt hi hk hx⟩
  rw [cnt_text hi hk]
  refine H.toHXo.setGen hi hr hg hs (fun x hx2 => ⟨by rw [cnt_note hi hnt]; exact (H.nts x hx2).1, fun n => ?_⟩) (fun hn => by rw [hnt]; exact H.still hn i p hi) hok
  rw [(H.nts x hx2).2]
  unfold fnL
  rw [at_set hl]
  by_cases e : n = (i : Int) + 1
  · rw [if_pos e, e, at_of hi]
    dsimp only
    rw [hnt]
  · rw [if_neg e]
def notedP (h : Hp) (p : OP) : OP := { p with o := note h p.o }
theorem ObjC.noted {p : OP} (H : ObjC w p) (h : Hp) : ObjC w (notedP h p) := ⟨H.shape, H.kind, H.serial, H.text, H.tab, H.m0, H.m1, H.proto, H.cells, H.h0, H.h1, H.thr⟩
theorem PartAt.noted {p : OP} (H : PartAt w p) (h : Hp) : PartAt w (notedP h p) := ⟨H.tab, H.cells, H.none, H.thr, H.lt⟩
theorem DataOk.noted {o : HO} (H : DataOk o) (h : Hp) : DataOk (note h o) := ⟨H.kind, H.serial, H.text, H.notText, H.notTab, H.notFn, H.notCell, H.mtv, H.has, H.proto, H.cells⟩
theorem note_off (hw : h.watch = false) (o : HO) : note h o = o := by unfold note; rw [hw, Bool.or_false]
/-- Noted, where somebody watches. -/
theorem HXo.noteOn {st i x : Nat} {p : OP} (H : HXo w b h pb ob tb (some x) Fp st ft sn fn l) (hi : l[i]? = some (some p)) (hg : GMGoes SN x (if (fn ((i : Int) + 1)).isSome then sn else sn + 1) (fun j => if j = (i : Int) + 1 then some () else fn j) w w') :
    HXo w' b (setO h i (note h p.o)) pb ob tb (some x) Fp st ft (if (fn ((i : Int) + 1)).isSome then sn else sn + 1) (fun j => if j = (i : Int) + 1 then some () else fn j) (l.set i (some (notedP h p))) := by
  have hl := idx_lt hi
  have hr := H.rm.setNots hg
  have hw : h.watch = true := H.watch
  have hno : (note h p.o).noted = true := by unfold note; dsimp only; rw [hw, Bool.or_true]
  have hr2 := hr.setObj (G := []) (q := notedP h p) hi (fun x hx => absurd hx List.not_mem_nil) (Turns.refl _ _) ⟨(hr.each i p hi).1.noted h, (hr.each i p hi).2.noted h⟩ rfl (fun x hx => .inl hx) rfl rfl
  obtain ⟨hsn, hfn⟩ := H.nts x rfl
  have hf1 : fn ((i : Int) + 1) = if p.o.noted then some () else none := by rw [hfn]; unfold fnL; rw [at_of hi]
  refine H.setGen (q := notedP h p) hi hr2 rfl rfl (fun y _ => ⟨?_, fun n => ?_⟩) (fun hn => by cases hn) ((H.ok i p hi).noted h)
  · have h1 := cnt_set notedO (y := some (notedP h p)) hi
    rw [show notedO (some (notedP h p)) = true from hno, if_pos rfl] at h1
    rw [hf1]
    rw [show notedO (some p) = p.o.noted from rfl] at h1
    cases e : p.o.noted with
    | true => rw [e] at h1; simp at h1 ⊢; omega
    | false => rw [e] at h1; simp at h1 ⊢; omega
  · unfold fnL
    rw [at_set hl]
    by_cases e : n = (i : Int) + 1
    · rw [if_pos e, if_pos e]
      show some () = if (note h p.o).noted then some () else none
      rw [hno, if_pos rfl]
    · rw [if_neg e, if_neg e, hfn]; rfl
theorem HXo.noteOff {st i : Nat} {p : OP} (H : HXo w b h pb ob tb none Fp st ft sn fn l) (hi : l[i]? = some (some p)) : HXo w b (setO h i (note h p.o)) pb ob tb none Fp st ft sn fn (l.set i (some (notedP h p))) := by
  have hw : h.watch = false := H.watch
  have e1 : note h p.o = p.o := note_off hw p.o
  have e2 : notedP h p = p := by unfold notedP; rw [e1]
  rw [e2, e1, set_self hi]
  have e3 : setO h i p.o = h := by
    unfold setO
    rw [set_self (by rw [obs_at H.obs, hi]; rfl)]
  rw [e3]
  exact H
/-- Noted, the texts being as they were. -/
theorem HX.noted {i sn' : Nat} {fn' : Int → Option Unit} {p : OP} (H : HX w b h pb ob tb nb Fp ft sn fn l) (hi : l[i]? = some (some p)) (h5 : HXo w' b (setO h i (note h p.o)) pb ob tb nb Fp (l.countP textO) ft sn' fn' (l.set i (some (notedP h p)))) :
    HX w' b (setO h i (note h p.o)) pb ob tb nb Fp ft sn' fn' (l.set i (some (notedP h p))) := by
  refine ⟨?_, txt_set H.txt hi rfl rfl⟩
  rw [cnt_text (q := notedP h p) hi rfl]
  exact h5
end
end Go.Proofs.YthejclgihhfenaaGreat.Hd
