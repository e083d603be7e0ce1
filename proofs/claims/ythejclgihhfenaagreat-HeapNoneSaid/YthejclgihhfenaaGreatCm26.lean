import Derived.Test.YthejclgihhfenaaGreatCm25
import Derived.Test.YthejclgihhfenaaGreatCm19
/-
  Layer 14: the developers' heap: an object comes.
-/
namespace Go.Proofs.YthejclgihhfenaaGreat.Hd
open Go Go.RowKit Go.Proofs.YthejclgihhfenaaGreat.Pl Go.Proofs.YthejclgihhfenaaGreat.Tb Go.Proofs.YthejclgihhfenaaGreat.Vm Go.Proofs.YthejclgihhfenaaGreat.Hp Go.Proofs.YthejclgihhfenaaGreat.Td

def putP (l : ObL) (k : Nat) (q : OP) : ObL := if k < l.length then l.set k (some q) else l ++ [some q]
section
variable {w w' : World} {b pb ob tb : Nat} {h h' : Hp} {nb : Option Nat} {Fp Fp' F G : List Nat} {st sn sn' : Nat} {ft ft' : ByteArray → Option Int} {fn fn' : Int → Option Unit} {l l' : ObL} {k : Nat} {q : OP}
/-- Nothing stands at a place. -/
def Empty (l : ObL) (k : Nat) : Prop := l[k]? = some none ∨ k = l.length
theorem least_empty (ho : h.obs = l.map (Option.map (·.o))) : Empty l (leastL (obOf h)) := by
  have hlen : (obOf h).length = l.length := by rw [ob_is ho, List.length_map]
  rcases Nat.lt_or_ge (leastL (obOf h)) (obOf h).length with h1 | h1
  · have h2 := least_none (obOf h) h1
    rw [ob_is ho, List.getElem?_map] at h2
    left
    rw [ob_is ho]
    cases e : l[leastL (l.map (Option.map (fun p => sizeO p.o)))]? with
    | none => rw [e] at h2; cases h2
    | some x =>
      rw [e] at h2
      cases x with
      | none => rfl
      | some p => cases h2
  · exact .inr (by have := least_le (obOf h); omega)
theorem Empty.le (h : Empty l k) : k ≤ l.length := by
  rcases h with h | h
  · exact Nat.le_of_lt (List.getElem?_eq_some_iff.1 h).1
  · omega
theorem Empty.no (h : Empty l k) : ∀ r, l[k]? ≠ some (some r) := fun r e => by
  rcases h with h | h
  · rw [h] at e; cases e
  · rw [List.getElem?_eq_none (by omega)] at e; cases e
theorem get_put' (h : Empty l k) (j : Nat) : (putP l k q)[j]? = if j = k then some (some q) else l[j]? := by
  unfold putP
  by_cases hl : k < l.length
  · rw [if_pos hl, get_set hl]
  · rw [if_neg hl]
    have hk : k = l.length := by have := h.le; omega
    by_cases e : j = k
    · rw [if_pos e, e, hk, List.getElem?_append_right (Nat.le_refl _), Nat.sub_self]; rfl
    · rw [if_neg e]
      by_cases h2 : j < l.length
      · rw [List.getElem?_append_left h2]
      · rw [List.getElem?_append_right (by omega), List.getElem?_eq_none (by simp; omega), List.getElem?_eq_none (by omega)]
theorem look_put (h : Empty l k) (j : Nat) (r : OP) (hj : (putP l k q)[j]? = some (some r)) : (j = k ∧ r = q) ∨ (j ≠ k ∧ l[j]? = some (some r)) := by
  rw [get_put' h] at hj
  by_cases e : j = k
  · rw [if_pos e] at hj
    exact .inl ⟨e, by injection hj with hj; injection hj with hj; exact hj.symm⟩
  · rw [if_neg e] at hj
    exact .inr ⟨e, hj⟩
theorem at_put (h : Empty l k) (n : Int) : atL (putP l k q) n = if n = (k : Int) + 1 then some q else atL l n := by
  unfold atL
  by_cases h1 : 1 ≤ n
  · rw [if_pos h1, if_pos h1, get_put' h]
    by_cases h2 : n = (k : Int) + 1
    · rw [if_pos h2, if_pos (by omega)]; rfl
    · rw [if_neg h2, if_neg (by omega)]
  · rw [if_neg h1, if_neg h1, if_neg (by omega)]
theorem cnt_putP (c : Option OP → Bool) (hc : c none = false) (h : Empty l k) : (putP l k q).countP c = l.countP c + (if c (some q) then 1 else 0) := by
  unfold putP
  by_cases hl : k < l.length
  · rw [if_pos hl]
    rcases h with h | h
    · have := cnt_set c (y := some q) h
      rw [hc] at this
      simp at this
      exact this
    · omega
  · rw [if_neg hl, List.countP_append, List.countP_singleton]
theorem map_putP (ho : h.obs = l.map (Option.map (·.o))) : putO h.obs k q.o = (putP l k q).map (Option.map (·.o)) := by
  unfold putO putP
  rw [ho, List.length_map]
  by_cases hl : k < l.length
  · rw [if_pos hl, if_pos hl, List.map_set]; rfl
  · rw [if_neg hl, if_neg hl, List.map_append]; rfl
theorem ob_putP (ho : h.obs = l.map (Option.map (·.o))) (h2 : h'.obs = putO h.obs k q.o) : obOf h' = putL (obOf h) k (sizeO q.o) := by
  rw [ob_is ho, ob_is (h := h') (l := putP l k q) (by rw [h2, map_putP ho])]
  unfold putP putL
  rw [List.length_map]
  by_cases hl : k < l.length
  · rw [if_pos hl, if_pos hl, List.map_set]; rfl
  · rw [if_neg hl, if_neg hl, List.map_append]; rfl
/-- The object q has come, at the least place. -/
theorem HXo.come (H : HXo w b h pb ob tb nb Fp st ft sn fn l) (hk : Empty l k) (hl : k = leastL (obOf h)) (h2 : h'.obs = putO h.obs k q.o) (h3 : h'.max = h.max) (h4 : h'.watch = h.watch) (h5 : In64 h'.made) (hn : q.o.noted = false) (hD : DataOk q.o)
    (hr : RM w' b h.max h'.made pb ob tb nb Fp' (putL (obOf h) (leastL (obOf h)) (sizeO q.o)) (cntL (obOf h) + 1) (fun j => if j = (k : Int) + 1 then some (some q.g) else foL l j) st ft sn fn (putP l k q)) : HXo w' b h' pb ob tb nb Fp' st ft sn fn (putP l k q) := by
  have hob := ob_putP (q := q) (k := k) H.obs h2
  have hfo : foL (putP l k q) = fun j => if j = (k : Int) + 1 then some (some q.g) else foL l j := by
    funext n
    unfold foL
    rw [at_put hk]
    split <;> rfl
  refine ⟨?_, by rw [h2, map_putP H.obs], h5, by rw [h4]; exact H.watch, fun x hx => ⟨?_, fun n => ?_⟩, fun hnb j r hj => ?_, fun j r hj => ?_, by rw [h3]; exact H.top⟩
  · rw [h3, hfo, hob, hl, cnt_put]
    rw [hl] at hr
    exact hr
  · rw [cnt_putP notedO rfl hk, show notedO (some q) = false from hn, (H.nts x hx).1]; rfl
  · rw [(H.nts x hx).2]
    unfold fnL
    rw [at_put hk]
    by_cases e : n = (k : Int) + 1
    · rw [if_pos e, e]
      have : atL l ((k : Int) + 1) = none := by
        cases e2 : atL l ((k : Int) + 1) with
        | none => rfl
        | some r =>
          obtain ⟨_, h2⟩ := at_some e2
          rw [show ((k : Int) + 1 - 1).toNat = k by omega] at h2
          exact absurd h2 (hk.no r)
      rw [this]
      dsimp only
      rw [hn]; rfl
    · rw [if_neg e]
  · rcases look_put hk j r hj with ⟨_, rfl⟩ | ⟨_, hj⟩
    · exact hn
    · exact H.still hnb j r hj
  · rcases look_put hk j r hj with ⟨_, rfl⟩ | ⟨_, hj⟩
    · exact hD
    · exact H.ok j r hj
theorem set_putP (hk : Empty l k) (r : OP) : (putP l k q).set k (some r) = putP l k r := by
  unfold putP
  by_cases hl : k < l.length
  · rw [if_pos hl, if_pos hl, List.set_set]
  · rw [if_neg hl, if_neg hl]
    have hk : k = l.length := by have := hk.le; omega
    rw [hk, List.set_append_right _ _ (Nat.le_refl _), Nat.sub_self]
    rfl
theorem set_putO (L : List (Option HO)) (hk : k ≤ L.length) (o r : HO) : (putO L k o).set k (some r) = putO L k r := by
  unfold putO
  by_cases hl : k < L.length
  · rw [if_pos hl, if_pos hl, List.set_set]
  · rw [if_neg hl, if_neg hl]
    have hk : k = L.length := by omega
    rw [hk, List.set_append_right _ _ (Nat.le_refl _), Nat.sub_self]
    rfl
/-- Who has come as no text leaves the texts as they were. -/
theorem txt_put (H : TxtIs ft l) (hk : Empty l k) (hq : q.o.kind ≠ 4) : TxtIs ft (putP l k q) := fun s n => by
  rw [H]
  constructor
  · rintro ⟨j, r, h1, h2, h3, h4⟩
    have e : j ≠ k := fun e => hk.no r (by rw [← e]; exact h1)
    exact ⟨j, r, by rw [get_put' hk, if_neg e]; exact h1, h2, h3, h4⟩
  · rintro ⟨j, r, h1, h2, h3, h4⟩
    rcases look_put hk j r h1 with ⟨_, rfl⟩ | ⟨_, h1⟩
    · exact absurd h2 hq
    · exact ⟨j, r, h1, h2, h3, h4⟩
/-- Who has come as a text stands among them, if its bytes weren't there. -/
theorem txt_more (H : TxtIs ft l) (hk : Empty l k) (hq : q.o.kind = 4) (hno : ft q.o.text = none) : TxtIs (fun s => if s = q.o.text then some ((k : Int) + 1) else ft s) (putP l k q) := fun s n => by
  show (if s = q.o.text then some ((k : Int) + 1) else ft s) = some n ↔ _
  by_cases e : s = q.o.text
  · rw [if_pos e]
    constructor
    · intro hn
      exact ⟨k, q, by rw [get_put' hk, if_pos rfl], hq, e.symm, by injection hn with hn; exact hn.symm⟩
    · rintro ⟨j, r, h1, h2, h3, h4⟩
      rcases look_put hk j r h1 with ⟨rfl, rfl⟩ | ⟨_, h1⟩
      · rw [h4]
      · have h5 := (H s n).2 ⟨j, r, h1, h2, h3, h4⟩
        rw [e, hno] at h5
        cases h5
  · rw [if_neg e, H]
    constructor
    · rintro ⟨j, r, h1, h2, h3, h4⟩
      have e2 : j ≠ k := fun e => hk.no r (by rw [← e]; exact h1)
      exact ⟨j, r, by rw [get_put' hk, if_neg e2]; exact h1, h2, h3, h4⟩
    · rintro ⟨j, r, h1, h2, h3, h4⟩
      rcases look_put hk j r h1 with ⟨_, rfl⟩ | ⟨_, h1⟩
      · exact absurd h3.symm e
      · exact ⟨j, r, h1, h2, h3, h4⟩
theorem F_put {R : Nat → Prop} (hk : Empty l k) (hp : ∀ x ∈ Fp', x ∈ Fp ∨ R x) (hg : R q.g) (hG : ∀ x ∈ q.G, R x) : ∀ x ∈ Fof b ob tb nb Fp' (putP l k q), x ∈ Fof b ob tb nb Fp l ∨ R x := by
  intro x hx
  rcases in_F.1 hx with e | e | e | e | e | ⟨j, r, hj, e⟩
  · exact .inl (in_F.2 (.inl e))
  · exact .inl (in_F.2 (.inr (.inl e)))
  · exact .inl (in_F.2 (.inr (.inr (.inl e))))
  · exact .inl (in_F.2 (.inr (.inr (.inr (.inl e)))))
  · rcases hp x e with e | e
    · exact .inl (in_F.2 (.inr (.inr (.inr (.inr (.inl e))))))
    · exact .inr e
  · rcases look_put hk j r hj with ⟨_, rfl⟩ | ⟨_, hj⟩
    · rcases e with e | e
      · exact .inr (e ▸ hg)
      · exact .inr (hG x e)
    · exact .inl (in_F.2 (.inr (.inr (.inr (.inr (.inr ⟨j, r, hj, e⟩))))))
theorem F_pool {R : Nat → Prop} (hp : ∀ x ∈ Fp', x ∈ Fp ∨ R x) : ∀ x ∈ Fof b ob tb nb Fp' l, x ∈ Fof b ob tb nb Fp l ∨ R x := by
  intro x hx
  rcases in_F.1 hx with e | e | e | e | e | e
  · exact .inl (in_F.2 (.inl e))
  · exact .inl (in_F.2 (.inr (.inl e)))
  · exact .inl (in_F.2 (.inr (.inr (.inl e))))
  · exact .inl (in_F.2 (.inr (.inr (.inr (.inl e)))))
  · rcases hp x e with e | e
    · exact .inl (in_F.2 (.inr (.inr (.inr (.inr (.inl e))))))
    · exact .inr e
  · exact .inl (in_F.2 (.inr (.inr (.inr (.inr (.inr e))))))
end
end Go.Proofs.YthejclgihhfenaaGreat.Hd

/-
  Layer 12: the developers' pool: an object taken.
-/
namespace Go.Proofs.YthejclgihhfenaaGreat.Pl
open Go Go.RowKit

section
variable {w w' : World} {b : Nat} {m : Int} {l : Ob} {vs vf : Value} {fr : List Int} {F : List Nat}
set_option maxHeartbeats 2000000 in
set_option maxRecDepth 100000 in
theorem take_last (size : Int) (hp : PAt w b m l vs vf []) (hF : b ∈ F ∧ (∀ k, vs.ownBlock = some k → k ∈ F) ∧ (∀ k, vf.ownBlock = some k → k ∈ F) ∧ ∀ k ∈ F, k < w.heap.size) (hsz : In64 size) (h0 : ¬ size < 0) (h1 : ¬ (m < usedL l + size ∨ 65536 ≤ cntL l)) : Calls Tryz.prog 96 #[.pointer (some ⟨b, 0, none⟩), .int .i64 size] w (TakeSays PA b m l F size w) := by
  have HF := Lib.hid hF
  have x0 := cell_of hp.cells 0 _ rfl
  have HH := Lib.hid hp
  obtain ⟨u1, u2, u3⟩ := hp.used
  obtain ⟨s1, s2⟩ := hsz
  have hll : leastL l = l.length := free_none (List.Perm.eq_nil hp.perm.symm)
  have hput : putL l (leastL l) size = l ++ [some size] := by unfold putL; rw [if_neg (by omega)]
  have HR := Lib.hid (dtake_new (m := m) (l := l) size h0 h1)
  rw [hput, hll] at HR
  have hok := ok_put hp.ok (by omega) (fun h => h1 (.inl h)) (fun h => h1 (.inr h))
  rw [hput] at hok
  have HOK := Lib.hid hok
  have hcnt := hp.cnt
  have hlen : l.length < 65536 := by
    have h2 : ¬ 65536 ≤ cntL l := fun h => h1 (.inr h)
    simp only [List.length_nil, Nat.zero_add] at hcnt
    omega
  have hperm : ([] : List Int).Perm (freeL 1 (l ++ [some size])) := by rw [free_app]; exact hp.perm
  have HPM := Lib.hid hperm
  have HUA := Lib.hid (used_app l size)
  have HSA := Lib.hid (szs_app l size)
  have hgt : ¬ m - usedL l < size := fun h => h1 (.inl (by omega))
  have hc2 : ¬ (65536 : Int) ≤ (cntL l : Int) := fun h => h1 (.inr (by omega))
  have cl := left_fn hp
  have cc := count_fn hp.drew
  have hP2 := hp.drew.drew
  have hne := row_ne hP2.sizes hP2.cells
  have hnf := row_ne hP2.free hP2.cells
  obtain ⟨aF, mF, cF, rfl⟩ := own_some hp.free
  have hmF : mF = 0 := by
    obtain ⟨_, _, e, _⟩ := row_len hp.free
    injection e
  subst hmF
  obtain ⟨aS, mS, cS, rfl⟩ := own_some hp.sizes
  have e0 := IntWalk.i64_in (usedL l + size) (by omega)
  have HB := Lib.hid ((drew_below w).trans (drew_below w.drew))
  have HAP := Lib.hid hp.apart
  clear hp h1 hput hll hok hperm hcnt hF
  have HP2 := Lib.hid hP2.cells
  have ht1 : Turns [b] w.drew.drew (w.drew.drew.setCell ⟨b, 2, none⟩ (.int .i64 (usedL l + size))) := turns_set (Turns.refl _ _) (List.mem_singleton.2 rfl)
  have hrs := row_turns hP2.sizes ht1 (fun j hj hm => hne (hj.trans (by rw [List.mem_singleton.1 hm])))
  have hrf := row_turns hP2.free ht1 (fun j hj hm => hnf (hj.trans (by rw [List.mem_singleton.1 hm])))
  have hb1 := setCell_at (i := 2) (v := .int .i64 (usedL l + size)) hP2.cells
  have HRS := Lib.hid hrs
  have HRF := Lib.hid hrf
  have HB1 := Lib.hid (show (w.drew.drew.setCell ⟨b, 2, none⟩ (.int .i64 (usedL l + size))).heap[b]? = some (.cells #[.pointer (some ⟨b, 0, none⟩), .int .i64 m, .int .i64 (usedL l + size), .slice aS mS cS, .slice aF 0 cF] 134 (0, 0)) from hb1)
  have HT1 := Lib.hid ht1
  have HNE := Lib.hid hne
  have HNF := Lib.hid hnf
  clear hb1 hrs hrf ht1 hP2 hne hnf
  obtain ⟨c, hc⟩ : ∃ c : Int, c = (cntL l : Int) := ⟨_, rfl⟩
  rw [← hc] at hc2 cc
  clear hc
  obtain ⟨U, hU⟩ : ∃ U, U = usedL l := ⟨_, rfl⟩
  have HUU := Lib.hid hU
  rw [← hU] at cl hgt e0 HP2 HRS HRF HB1 HT1 HUA u1 u2
  clear hU
  obtain ⟨n, hn⟩ : ∃ n, n = l.length := ⟨_, rfl⟩
  rw [← hn] at hlen HR
  have HN := Lib.hid (show (szsL l).length = n by rw [szs_len, hn])
  have HLEN := Lib.hid hlen
  clear hn hlen
  go_enter Tryz.func96, Tryz.ntmps96
  go_wp2_with fail
  refine (made_fn b w x0).mono ?_
  rintro e w1 ⟨rfl, hw⟩
  subst hw
  go_wp2_with fail
  refine cl.mono ?_
  rintro e w2 ⟨rfl, hw⟩
  subst hw
  clear cl
  go_wp2_with fail
  refine cc.mono ?_
  rintro e w2 ⟨rfl, hw⟩
  subst hw
  clear cc
  generalize w1.drew.drew = w2 at *
  have y2 := cell_of HP2.out 2 _ rfl
  have y3 := cell_of HP2.out 3 _ rfl
  have y4 := cell_of HP2.out 4 _ rfl
  have z2 := free_of HP2.out 2
  have z3 := free_of HP2.out 3
  have hbl := lt_of_get HP2.out
  have q3 := cell_of HB1.out 3 _ rfl
  have q4 := cell_of HB1.out 4 _ rfl
  have r3 := free_of HB1.out 3
  go_upto_region 9 with fail
  clear y2 y3 y4 z2 z3
  have hbl2 := lt_of_get HB1.out
  generalize w2.setCell ⟨b, 2, none⟩ (.int .i64 (U + size)) = w3 at *
  go_wp2_with (at_builtin; go_loud (refine wpList_append_at rfl (.tmp 39) (.tmp 41) 126 rfl 0 3 (.int .i64 0) 8 Tryz.underlying126 infoInt rfl (.slice aS mS cS) (szsL l).length (ints (szsL l)) rfl HRS.out (.int .i64 size) rfl rfl ?l1 ?m1 ?n1 ?_))
  case l1 => exact Nat.le_trans (m := 65536) (by have := HN.out; have := HLEN.out; omega) (by decide)
  case m1 => exact Nat.le_trans (Nat.mul_le_mul_right 8 (m := 65536) (by have := HN.out; have := HLEN.out; omega)) (by decide)
  case n1 => exact Nat.zero_le _
  intro v1 w4 h1 h2 h3
  have hr4 : Row w4 v1 (szsL l ++ [size]) := by
    unfold Row
    rw [List.length_append, List.length_singleton, show ints (szsL l ++ [size]) = ints (szsL l) ++ [.int .i64 size] from by unfold ints; rw [List.map_append]; rfl]
    exact h1
  have hlen : (szsL l ++ [size]).length = n + 1 := by rw [List.length_append, List.length_singleton, HN.out]
  obtain ⟨g, cap, rfl, hcl, hcm, hg, _, _⟩ := row_item hr4 n (by omega)
  rw [hlen] at hr4 h3 ⊢
  have hb4 : w4.heap[b]? = some (.cells #[.pointer (some ⟨b, 0, none⟩), .int .i64 m, .int .i64 (U + size), .slice aS mS cS, .slice aF 0 cF] 134 (0, 0)) := by
    rw [h2.block b (by simp; omega) (fun e => HNE.out e.symm), heap_alloc_old _ _ hbl2]
    exact HB1.out
  have hT4 : Turns (own (.slice aS mS cS)) w3 w4 := by
    refine ⟨h2.os, h2.tape, h2.output, Nat.le_trans (by simp) h2.size, fun k hk hn => ?_⟩
    rw [h2.block k (by simp; omega) (fun e => hn (own_mem.2 e.symm)), heap_alloc_old _ _ hk]
  have hr4f := row_turns HRF.out hT4 (fun j hj hm => by
    rcases HAP.out with ha | ha
    · rw [own_mem, ha] at hm; cases hm
    · exact ha ((own_mem.1 hm).trans hj.symm))
  have hT5 : Turns [b] w4 (w4.setCell ⟨b, 3, none⟩ (.slice (some ⟨g, 0, none⟩) (n + 1) cap)) := turns_set (Turns.refl _ _) (List.mem_singleton.2 rfl)
  have hgb : g ≠ b := fun e => row_ne hr4 hb4 (by rw [e]; rfl)
  have hr5 := row_turns hr4 hT5 (fun j hj hm => hgb (by injection hj with hj; exact hj.trans (List.mem_singleton.1 hm)))
  have hr5f := row_turns hr4f hT5 (fun j hj hm => HNF.out (by rw [hj, List.mem_singleton.1 hm]))
  have hb5 : (w4.setCell ⟨b, 3, none⟩ (.slice (some ⟨g, 0, none⟩) (n + 1) cap)).heap[b]? = some (.cells #[.pointer (some ⟨b, 0, none⟩), .int .i64 m, .int .i64 (U + size), .slice (some ⟨g, 0, none⟩) (n + 1) cap, .slice aF 0 cF] 134 (0, 0)) := setCell_at (cs := #[.pointer (some ⟨b, 0, none⟩), .int .i64 m, .int .i64 (U + size), .slice aS mS cS, .slice aF 0 cF]) hb4
  have hP : PAt (w4.setCell ⟨b, 3, none⟩ (.slice (some ⟨g, 0, none⟩) (n + 1) cap)) b m (l ++ [some size]) (.slice (some ⟨g, 0, none⟩) (n + 1) cap) (.slice aF 0 cF) [] := by
    refine ⟨by rw [HUA.out]; exact hb5, by rw [HSA.out]; exact hr5, hr5f, .inr (fun e => ?_), heap_nil, HPM.out, HOK.out, ?_⟩
    · have hf := HRF.out.lt g e.symm
      rcases h3 with h3 | h3
      · rcases HAP.out with ha | ha
        · rw [ha] at h3; cases h3
        · exact ha (h3.symm.trans e)
      · injection h3 with h3
        dsimp only at h3
        omega
    · have h9 := HN.out
      have h8 := HLEN.out
      rw [szs_len] at h9
      rw [List.length_append, List.length_singleton]
      omega
  have HP := Lib.hid hP
  have HT4 := Lib.hid hT4
  have HT5 := Lib.hid hT5
  have H3 := Lib.hid h3
  have y3 := cell_of hb4 3 _ rfl
  have z3 := free_of hb4 3
  clear h1 h2 h3 hr4 hr4f hr5 hr5f hb4 hb5 hT4 hT5 hP hcl hcm q3 q4 r3 hlen
  go_wp2_with fail
  go_ret2
  unfold TakeSays
  rw [HR.out]
  have s1 := HB.out.size
  have s2 := HT1.out.size
  have s3 := HT4.out.size
  have s4 := HT5.out.size
  refine ⟨ret_ii (by go_num) rfl, F ++ own (.slice (some ⟨g, 0, none⟩) (n + 1) cap), ⟨_, _, _, HP.out, List.mem_append_left _ HF.out.1, fun j hj => List.mem_append_right _ (own_mem.2 hj), fun j hj => List.mem_append_left _ (HF.out.2.2.1 j hj), fun j hj => ?_⟩, (((Turns.of_below HB.out).trans HT1.out (fun j hj => .inl ?_)).trans HT4.out (fun j hj => .inl ?_)).trans HT5.out (fun j hj => .inl ?_), fun j hj => ?_⟩
  · rcases List.mem_append.1 hj with hj | hj
    · have := HF.out.2.2.2 j hj
      omega
    · exact (HP.out.sizes.lt j (own_mem.1 hj)).2
  · rw [List.mem_singleton.1 hj]; exact HF.out.1
  · exact HF.out.2.1 j (own_mem.1 hj)
  · rw [List.mem_singleton.1 hj]; exact HF.out.1
  · rcases List.mem_append.1 hj with hj | hj
    · exact .inl hj
    · have hj := own_mem.1 hj
      rcases H3.out with h | h
      · exact .inl (HF.out.2.1 j (h.symm.trans hj))
      · rw [h] at hj
        injection hj with hj
        exact .inr (by omega)
end
end Go.Proofs.YthejclgihhfenaaGreat.Pl
