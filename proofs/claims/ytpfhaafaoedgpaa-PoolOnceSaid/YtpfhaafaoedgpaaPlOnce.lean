/-
  Layer 12: the law PoolOnce, over what the calls say.
-/
import Derived.Test.YtpfhaafaoedgpaaPlAbs
import Derived.Deep.OwnRows
namespace Go.Proofs.Ytpfhaafaoedgpaa.Pl
open Go Go.RowKit

/-- What stands between the law's steps: the pool, the law's own list at block g. -/
structure OnceAt (PA : PoolP) (w0 : World) (b g : Nat) (B : Int) (l : Ob) (F : List Nat) (cs : Array Value) (w : World) : Prop where
  pool : PA w b B l F
  own : w.heap[g]? = some (.cells cs 3 (0, 0))
  apart : g ∉ F
  high : ∀ k ∈ F, w0.heap.size ≤ k
  gh : w0.heap.size ≤ g
  low : Below w0.heap.size w0 w
section
variable {PA : PoolP} {w0 w w' : World} {b g : Nat} {B : Int} {l l' : Ob} {F F' : List Nat} {cs : Array Value}
theorem OnceAt.set (H : PoolSays PA) (h : OnceAt PA w0 b g B l F cs w) (j : Nat) (v : Value) : OnceAt PA w0 b g B l F (cs.setIfInBounds j v) (w.setCell ⟨g, j, none⟩ v) :=
  ⟨H.keep (G := [g]) h.pool ⟨rfl, rfl, rfl, by simp, fun k _ hn => heap_setCell_other w ⟨g, j, none⟩ k v (fun e => hn (by rw [show k = g from e]; exact List.mem_singleton.2 rfl))⟩ (fun k hk hg => h.apart (by rw [← List.mem_singleton.1 hg]; exact hk)),
    heap_setCell_same w g j cs _ v h.own, h.apart, h.high, h.gh, h.low.setCell h.gh _⟩
theorem OnceAt.call (h : OnceAt PA w0 b g B l F cs w) (ht : Turns F w w') (hp : PA w' b B l' F') (hf : Fresh F F' w) : OnceAt PA w0 b g B l' F' cs w' :=
  ⟨hp, (ht.block g (lt_of_get h.own) h.apart).trans h.own, fun hm => (hf g hm).elim h.apart (fun x => absurd (lt_of_get h.own) (Nat.not_lt.2 x)), fun k hk => (hf k hk).elim (h.high k) (fun x => Nat.le_trans h.low.size x), h.gh, h.low.trans (ht.to_below h.low.size h.high)⟩
theorem OnceAt.below (H : PoolSays PA) (h : OnceAt PA w0 b g B l F cs w) (hb : Below w.heap.size w w') : OnceAt PA w0 b g B l F cs w' :=
  h.call (Turns.of_below hb) (H.keep (G := []) h.pool (Turns.of_below hb) (fun _ _ x => by cases x)) (fun _ hx => .inl hx)
end

def Filled (k : Nat) (cs : Array Value) : Prop := cs.size = 202 ∧ ∀ j, j < k → cs[j]? = some (.int .i64 (-1))
theorem Filled.next {k : Nat} {cs : Array Value} (h : Filled k cs) (hk : k < 202) : Filled (k + 1) (cs.setIfInBounds k (.int .i64 (-1))) := by
  refine ⟨by rw [Array.size_setIfInBounds]; exact h.1, fun j hj => ?_⟩
  rw [Array.getElem?_setIfInBounds]
  by_cases e : k = j
  · rw [if_pos e, if_pos (by rw [h.1]; exact hk)]
  · rw [if_neg e]; exact h.2 j (by omega)
theorem Filled.all {cs : Array Value} (h : Filled 202 cs) : cs = (ints (szL [])).toArray := by
  apply Array.ext'
  rw [szL_nil]
  apply List.ext_getElem?
  intro j
  rw [Array.getElem?_toList]
  unfold ints
  rw [List.getElem?_map, List.getElem?_replicate]
  by_cases hj : j < 202
  · rw [h.2 j hj, if_pos hj]; rfl
  · rw [if_neg hj, Array.getElem?_eq_none (by rw [h.1]; omega)]; rfl

theorem ints_put (l : List Int) (k : Nat) (v : Int) : (ints l).toArray.setIfInBounds k (.int .i64 v) = (ints (l.set k v)).toArray := by
  apply Array.ext'
  unfold ints
  simp [List.map_set]
theorem sz_cell (l : Ob) (k : Nat) (h : k < 202) : (ints (szL l)).toArray[k]? = some (.int .i64 (szAt l k)) := by
  rw [List.getElem?_toArray, List.getElem?_eq_getElem (by rw [ints_len, szL_len]; exact h), ints_get _ _ (by rw [szL_len]; exact h), szL_get]
theorem in_range {l : Ob} {k : Nat} {a : Option Int} (h : l[k]? = some a) : k < l.length := by
  rcases Nat.lt_or_ge k l.length with h2 | h2
  · exact h2
  · rw [List.getElem?_eq_none h2] at h; cases h
theorem resize_none (B : Int) (l : Ob) (k : Nat) (S : Int) (h : obAt l k = none) : resizeL B l k S = (l, 2) := by unfold resizeL; rw [h]
theorem resize_much (B : Int) (l : Ob) (k : Nat) (S s : Int) (h : obAt l k = some s) (h0 : 0 ≤ S) (h1 : B < usedL l - s + S) : resizeL B l k S = (l, 5) := by
  unfold resizeL; rw [h]; dsimp only; rw [if_neg (by omega), if_pos h1]
theorem resize_fits (B : Int) (l : Ob) (k : Nat) (S s : Int) (hk : 1 ≤ k) (h : obAt l k = some s) (h0 : 0 ≤ S) (h1 : ¬ B < usedL l - s + S) : resizeL B l k S = (l.set (k - 1) (some S), 0) := by
  unfold resizeL; rw [h]; dsimp only; rw [if_neg (by omega), if_neg h1, show ((k : Int) - 1).toNat = k - 1 from by omega]
theorem takeL_much (B : Int) (l : Ob) (S : Int) (h0 : 0 ≤ S) (h1 : B < usedL l + S) : takeL B l S = (l, 0, 5) := by
  unfold takeL; rw [if_neg (by omega), if_pos (.inl h1)]
theorem takeL_fits (B : Int) (l : Ob) (S : Int) (h0 : 0 ≤ S) (h1 : ¬ B < usedL l + S) (h2 : l.length < 65536) : takeL B l S = (putL l (leastL l) S, (leastL l : Int) + 1, 0) := by
  unfold takeL; rw [if_neg (by omega), if_neg (by have := cnt_le l; omega)]
theorem take_facts (B : Int) (l : Ob) (S : Int) (h0 : 0 ≤ S) (hp : ∀ s, some s ∈ l → 0 ≤ s) (hl : l.length ≤ 199) : ∃ (m : Nat) (L2 : Ob), 1 ≤ m ∧ m ≤ 200 ∧ (∀ j, 1 ≤ j → j < m → 0 ≤ szAt l j) ∧ szAt l m = -1 ∧
    (¬ B < usedL l + S → takeL B l S = (L2, (m : Int), 0)) ∧ usedL L2 = usedL l + S ∧ (szL l).set m S = szL L2 ∧ L2.length ≤ l.length + 1 := by
  refine ⟨leastL l + 1, putL l (leastL l) S, by omega, by have := least_le l; omega, fun j h1 h2 => sz_pos h1 (by omega) hp, sz_least l, fun h => ?_, used_put l S, szL_set (fun j => by rw [sz_put]), put_len ..⟩
  rw [takeL_fits B l S h0 h (by omega)]
  rfl
theorem picks (N : Int) (h0 : 0 ≤ N) (h1 : N < 1000003) : ∃ (S R : Int) (K : Nat), wrap64 (1 + (wrap64 (N.tdiv 5)).tmod 40) = (K : Int) ∧ (wrap64 (N.tdiv 200)).tmod 30 = S ∧ N.tmod 5 = R ∧
    1 ≤ K ∧ K ≤ 40 ∧ 0 ≤ S ∧ S ≤ 29 := by
  have e1 : N.tdiv 5 = N / 5 := Int.tdiv_eq_ediv_of_nonneg h0
  have e2 : (N / 5).tmod 40 = N / 5 % 40 := Int.tmod_eq_emod_of_nonneg (by omega)
  have e3 : N.tdiv 200 = N / 200 := Int.tdiv_eq_ediv_of_nonneg h0
  have e4 : (N / 200).tmod 30 = N / 200 % 30 := Int.tmod_eq_emod_of_nonneg (by omega)
  have e5 : wrap64 (N / 5) = N / 5 := IntWalk.wrap64_in _ (by omega)
  have e6 : wrap64 (N / 200) = N / 200 := IntWalk.wrap64_in _ (by omega)
  have e7 : wrap64 (1 + N / 5 % 40) = 1 + N / 5 % 40 := IntWalk.wrap64_in _ (by omega)
  refine ⟨N / 200 % 30, N.tmod 5, (1 + N / 5 % 40).toNat, ?_, ?_, rfl, by omega, by omega, by omega, by omega⟩
  · rw [e1, e5, e2, e7]; omega
  · rw [e3, e6, e4]

set_option maxHeartbeats 8000000 in
set_option maxRecDepth 1000000 in
theorem once_walk (PA : PoolP) (H : PoolSays PA) (hawake : ∀ w, Calls Try.prog 15 #[] w (fun e w' => e = .returned (.bool true) ∧ Below w.heap.size w w'))
    (bound : Int) (hb : In64 bound) (work : Value) (zs : List Int) (w : World) (hw : LstP (fun _ => True) w work (ints zs)) (hz : ∀ z ∈ zs, In64 z) :
    Calls Try.prog 6 #[.int .i64 bound, work] w (fun e w' => e = .returned (.bool true) ∧ Below w.heap.size w w') := by
  obtain ⟨aw, cw, rfl, hcw, hlw⟩ := hw.slice
  rw [ints_len] at hcw hlw hw ⊢
  obtain ⟨n, hn⟩ : ∃ n, n = zs.length := ⟨_, rfl⟩
  rw [← hn] at hcw hlw hw ⊢
  have HN := Lib.hid hn
  have HWK := Lib.hid hw
  have HZ := Lib.hid hz
  have HA := Lib.hid hawake
  unfold Len at hlw
  clear hn hw hz hawake
  have kp := pick_fn bound 301 w hb (by constructor <;> decide)
  have hB0 : 0 ≤ pickZ bound 301 := by unfold pickZ; rw [if_neg (by decide)]; exact Int.emod_nonneg _ (by decide)
  have hB1 : pickZ bound 301 ≤ 300 := by unfold pickZ; rw [if_neg (by decide)]; have := Int.emod_lt_of_pos bound (show (0 : Int) < 301 by decide); omega
  generalize pickZ bound 301 = B at *
  obtain ⟨MC, hMC⟩ : ∃ MC, MC = madeCells #[Value.int .i64 0] 202 := ⟨_, rfl⟩
  have hmk : ∀ w, (Instr.makeSlice 36 (.int .i64 202) (.int .i64 202)).run Try.prog w = .ok (.slice (some ⟨w.heap.size, 0, none⟩) 202 202) (w.alloc (.cells MC 3)) := fun w => by
    rw [hMC]
    exact run_make_row' (P := Try.prog) 36 3 (.int .i64 0) 8 Try.underlying36 infoInt rfl .i64 .i64 202 (by decide) (by decide) w
  have hMS : MC.size = 202 := by rw [hMC]; exact size_madeCells _ _
  have HMS := Lib.hid hMS
  clear hMC hMS
  have KP := Lib.hid kp
  clear kp hb
  go_enter Try.func6, Try.ntmps6
  go_wp2_with fail
  refine KP.out.mono ?_
  rintro e w1 ⟨rfl, rfl⟩
  go_wp2_with fail
  refine (H.new B w hB0 (by omega)).mono ?_
  rintro e w1 ⟨b, F, rfl, hp, hF, hb1⟩
  have HP := Lib.hid hp
  have HF := Lib.hid hF
  have HB1 := Lib.hid hb1
  clear hp hF hb1
  go_upto_block 0 with fail
  have hO : OnceAt PA w b w1.heap.size B [] F MC (w1.alloc (.cells MC 3)) := by
    have hal := (Below.refl w1.heap.size w1).alloc (Nat.le_refl _) (.cells MC 3)
    exact ⟨H.keep (G := []) HP.out (Turns.of_below hal) (fun _ _ x => by cases x), new_block _ _, fun hm => absurd ((H.mem HP.out).2 _ hm) (Nat.lt_irrefl _), HF.out, HB1.out.size, HB1.out.trans (hal.mono HB1.out.size)⟩
  have HO := Lib.hid hO
  clear hO hmk
  generalize w1.heap.size = g at *
  go_cut [8] from 28 to 36 (fun i wx => OnceAt PA w b g B [] F (ints (szL [])).toArray wx)
  case first =>
    go_wp2_with fail
    go_loopg [8] 202 (fun r i wr => ∃ (k : Nat) (cs : Array Value), r = 202 - k ∧ i = .int .i64 k ∧ k ≤ 202 ∧ Filled k cs ∧ OnceAt PA w b g B [] F cs wr)
    case atStart => exact ⟨0, MC, rfl, rfl, Nat.zero_le _, ⟨HMS.out, fun _ h => absurd h (Nat.not_lt_zero _)⟩, HO.out⟩
    case round =>
      obtain ⟨k, cs, rfl, rfl, hk, hfl, ho⟩ := hrel
      by_cases hlt : k < 202
      · have hlt' : (k : Int) < 202 := by omega
        have hgl := lt_of_get ho.own
        have hfr := free_of ho.own k
        have hce := cell_of ho.own k cs[k]! (by rw [Array.getElem?_eq_getElem (by rw [hfl.1]; exact hlt), getElem!_pos cs k (by rw [hfl.1]; exact hlt)])
        generalize cs[k]! = u at *
        have HFL := Lib.hid hfl
        have HOO := Lib.hid ho
        have e0 := IntWalk.i64_in k (by omega)
        clear hfl ho
        go_wp2_with fail
        go_roundg (202 - (k + 1))
        case measure => omega
        case rel => exact ⟨k + 1, _, rfl, by go_num, by omega, HFL.out.next hlt, HOO.out.set H k _⟩
      · obtain rfl : k = 202 := by omega
        have hfin := hfl.all
        subst hfin
        have HOO := Lib.hid ho
        clear ho hfl
        go_wp2_with fail
        go_meet
        exact HOO.out
  case rest =>
    have HO1 := Lib.hid hcut
    clear hcut
    go_wp2_with fail
    go_loopg [9, 10] n (fun r u i wr => ∃ (k : Nat) (l : Ob) (F : List Nat), r = n - k ∧ u = .int .i64 (usedL l) ∧ i = .int .i64 k ∧ k ≤ n ∧ k ≤ 200 ∧ l.length ≤ k ∧ OnceAt PA w b g B l F (ints (szL l)).toArray wr)
    case atStart => exact ⟨0, [], F, rfl, rfl, rfl, Nat.zero_le _, Nat.zero_le _, Nat.zero_le _, HO1.out⟩
    case round =>
      obtain ⟨k, l, F2, rfl, rfl, rfl, hk, hk2, hll, ho⟩ := hrel
      have HOO := Lib.hid ho
      have HLL := Lib.hid hll
      clear ho hll
      have h200 : (k : Int) ≤ 200 := by omega
      by_cases hlt : k < n
      · by_cases hlt2 : k < 200
        · have hlt' : (k : Int) < n := by omega
          have hlt2' : (k : Int) < 200 := by omega
          have hkz : k < zs.length := by have := HN.out; omega
          obtain ⟨gw, off, cap, -, hg, hv, -, c0⟩ := HWK.out.item (i := k) (by rw [ints_len]; exact hkz)
          rw [ints_get _ _ hkz] at c0
          injection hv with hv1 hv2 hv3
          subst hv1
          have c1 := c0
          rw [← HOO.out.low.cell (p := ⟨gw, off + k, none⟩) hg] at c1
          have hzi := HZ.out _ (List.getElem_mem hkz)
          clear c0 hg hv2 hv3
          generalize zs[k] = z at *
          have kp := fun w' => pick_fn z 1000003 w' hzi (by constructor <;> decide)
          obtain ⟨S, R, Kd, q1, q2, q3, hK1, hK2, hS1, hS2⟩ := picks (pickZ z 1000003) (by unfold pickZ; rw [if_neg (by decide)]; exact Int.emod_nonneg _ (by decide)) (by unfold pickZ; rw [if_neg (by decide)]; exact Int.emod_lt_of_pos _ (by decide))
          generalize pickZ z 1000003 = N at *
          have KP2 := Lib.hid kp
          clear kp hzi KP
          go_wp2_with fail
          refine (KP2.out wr).mono ?_
          rintro e w2 ⟨rfl, rfl⟩
          go_upto_block 4 with fail
          rw [q1]
          try rw [q2]
          try rw [q3]
          go_cut [9, 14, 15, 16, 17] from 61 to 170 (fun u _ _ _ _ wx => ∃ (l' : Ob) (F' : List Nat), u = .int .i64 (usedL l') ∧ l'.length ≤ k + 1 ∧ OnceAt PA w b g B l' F' (ints (szL l')).toArray wx)
          case first =>
            clear q1 q2 q3
            have hK1' : (1 : Int) ≤ (Kd : Int) := by omega
            have hK2' : (Kd : Int) ≤ 40 := by omega
            have hK3' : (Kd : Int) < 202 := by omega
            have hsz : (ints (szL l)).toArray[Kd]? = some (.int .i64 (szAt l Kd)) := by
              rw [List.getElem?_toArray, List.getElem?_eq_getElem (by rw [ints_len, szL_len]; omega), ints_get _ _ (by rw [szL_len]; omega), szL_get]
            have HSZ := Lib.hid (cell_of HOO.out.own Kd _ hsz)
            have HPS := Lib.hid (H.ok HOO.out.pool).pos
            have hko : (IntKind.i64.wrap ((Kd : Nat) : Int)) = Kd := IntWalk.i64_in Kd (by omega)
            clear hsz
            have hsV : ∀ (w2 : World) (l2 : Ob) (F2' : List Nat), OnceAt PA w b g B l2 F2' (ints (szL l)).toArray w2 → w2.cell? ⟨g, Kd, none⟩ = some (.int .i64 (szAt l Kd)) := fun w2 l2 F2' ho2 => cell_of ho2.own Kd _ (by
              rw [List.getElem?_toArray, List.getElem?_eq_getElem (by rw [ints_len, szL_len]; omega), ints_get _ _ (by rw [szL_len]; omega), szL_get])
            have HSV := Lib.hid hsV
            clear hsV
            have hgu := HOO.out.gh
            by_cases hR0 : R = 0
            · subst hR0
              have hzv : ((giveL l (Kd : Int)).2 == 0) = decide (0 ≤ szAt l Kd) := by
                unfold giveL
                cases hob : obAt l (Kd : Int) with
                | none => rw [sz_none hK1 hob]; rfl
                | some s =>
                  obtain ⟨e1, e2⟩ := sz_some hK1 hob
                  rw [e1, decide_eq_true (HPS.out s (List.mem_of_getElem? e2))]; rfl
              have KG := H.give (w := wr.drew) (Kd : Int) (HOO.out.below H ((Below.refl _ _).drew)).pool (by constructor <;> omega)
              unfold GiveSays at KG
              have HCASE := Lib.hid (show (0 ≤ szAt l Kd → ((giveL l (Kd : Int)).1.length ≤ k + 1 ∧ wrap64 (usedL l - szAt l Kd) = usedL (giveL l (Kd : Int)).1 ∧ (szL l).set Kd (-1) = szL (giveL l (Kd : Int)).1)) ∧ (¬ 0 ≤ szAt l Kd → (giveL l (Kd : Int)).1 = l) from by
                unfold giveL
                cases hob : obAt l (Kd : Int) with
                | none => exact ⟨fun h => absurd h (by rw [sz_none hK1 hob]; decide), fun _ => rfl⟩
                | some s =>
                  obtain ⟨e1, e2⟩ := sz_some hK1 hob
                  have hs0 := HPS.out s (List.mem_of_getElem? e2)
                  refine ⟨fun _ => ?_, fun h => absurd (by rw [e1]; exact hs0) h⟩
                  have hlk : Kd - 1 < l.length := by
                    rcases Nat.lt_or_ge (Kd - 1) l.length with h | h
                    · exact h
                    · rw [List.getElem?_eq_none h] at e2; cases e2
                  have hu := used_set l (Kd - 1) (some s) none e2
                  have hu2 := used_item l HPS.out (Kd - 1) s e2
                  have hu3 := (H.ok HOO.out.pool).sum
                  simp only [show ((Kd : Int) - 1).toNat = Kd - 1 from by omega]
                  refine ⟨by rw [List.length_set]; have := HLL.out; omega, ?_, ?_⟩
                  · rw [e1, hu]
                    simp only [Option.getD_some, Option.getD_none]
                    rw [IntWalk.wrap64_in _ (by omega)]; omega
                  · exact szL_set (fun j => by rw [sz_set l Kd j none hK1 hlk]; rfl))
              obtain ⟨β, hβ⟩ : ∃ β, β = decide (0 ≤ szAt l Kd) := ⟨_, rfl⟩
              rw [← hβ] at hzv
              generalize hZ : (giveL l (Kd : Int)).2 = Z at *
              have HZE := Lib.hid hZ
              have HB := Lib.hid hβ
              have KG2 := Lib.hid KG
              clear hZ KG
              have hvb : decide (0 ≤ szAt l Kd) = β := hβ.symm
              clear hβ
              generalize hV : szAt l Kd = V at *
              have HV := Lib.hid hV
              clear hV
              go_wp2_with fail
              have HD := Lib.hid (HOO.out.below H ((Below.refl wr.heap.size wr).drew))
              refine wp_region_held_drew (S := fun w' => w'.cell? ⟨g, Kd, none⟩ = some (.int .i64 V)) mixed HSZ.out (fun hS => ?_)
              refine wpAnyH_take (i := 0) (v := ?va0) rfl (by kernel_rfl) (by kernel_rfl) (by kernel_rfl) (fun _ _ _ h => h) (.inl ⟨by rfl, ?ha0⟩) hS ?ra0
              case ha0 =>
                intro w' hs
                (try dsimp only at hs)
                go_split_ands
                go_simp
                try with_reducible rfl
              simp only [List.getElem_toArray, List.getElem_cons_zero, Act.put, List.setIfInBounds_toArray, List.set_cons_zero, List.set_cons_succ]
              refine wpAnyH_take (i := 1) (v := ?va1) rfl (by kernel_rfl) (by kernel_rfl) (by kernel_rfl) (fun _ _ _ h => h) (.inl ⟨by rfl, ?ha1⟩) hS ?ra1
              case ha1 =>
                intro w' hs
                (try dsimp only at hs)
                go_split_ands
                go_simp
                try with_reducible rfl
              simp only [List.getElem_toArray, List.getElem_cons_succ, List.getElem_cons_zero, Act.put, List.setIfInBounds_toArray, List.set_cons_zero, List.set_cons_succ]
              refine wpAnyH_take (i := 4) (v := ?va4) rfl (by kernel_rfl) (by kernel_rfl) (by kernel_rfl) (fun _ _ _ h => h) (.inl ⟨by rfl, ?ha4⟩) hS ?ra4
              case ha4 =>
                intro w' hs
                (try dsimp only at hs)
                go_split_ands
                go_simp
                try with_reducible rfl
              simp only [List.getElem_toArray, List.getElem_cons_succ, List.getElem_cons_zero, Act.put, List.setIfInBounds_toArray, List.set_cons_zero, List.set_cons_succ]
              refine wpAnyH_take (i := 5) (v := ?va5) rfl (by kernel_rfl) (by kernel_rfl) (by kernel_rfl) (fun _ _ _ h => h) (.inl ⟨by rfl, ?ha5⟩) hS ?ra5
              case ha5 =>
                intro w' hs
                (try dsimp only at hs)
                go_split_ands
                go_simp
                try with_reducible rfl
              simp only [List.getElem_toArray, List.getElem_cons_succ, List.getElem_cons_zero, Act.put, List.setIfInBounds_toArray, List.set_cons_zero, List.set_cons_succ]
              refine wpAnyH_take (i := 6) (v := ?va6) rfl (by kernel_rfl) (by kernel_rfl) (by kernel_rfl) (fun _ _ _ h => h) (.inl ⟨by rfl, ?ha6⟩) hS ?ra6
              case ha6 =>
                intro w' hs
                (try dsimp only at hs)
                go_split_ands
                go_simp
                try with_reducible rfl
              simp only [List.getElem_toArray, List.getElem_cons_succ, List.getElem_cons_zero, Act.put, List.setIfInBounds_toArray, List.set_cons_zero, List.set_cons_succ]
              refine wpAnyH_take (i := 7) (v := ?va7) rfl (by kernel_rfl) (by kernel_rfl) (by kernel_rfl) (fun _ _ _ h => h) (.inl ⟨by rfl, ?ha7⟩) hS ?ra7
              case ha7 =>
                intro w' hs
                (try dsimp only at hs)
                go_split_ands
                go_simp
                try with_reducible rfl
              simp only [List.getElem_toArray, List.getElem_cons_succ, List.getElem_cons_zero, Act.put, List.setIfInBounds_toArray, List.set_cons_zero, List.set_cons_succ]
              refine wpAnyH_take (i := 8) (v := ?va8) rfl (by kernel_rfl) (by kernel_rfl) (by kernel_rfl) (fun _ _ _ h => h) (.inl ⟨by rfl, ?ha8⟩) hS ?ra8
              case ha8 =>
                intro w' hs
                (try dsimp only at hs)
                go_split_ands
                go_simp
                try with_reducible rfl
              simp only [List.getElem_toArray, List.getElem_cons_succ, List.getElem_cons_zero, Act.put, List.setIfInBounds_toArray, List.set_cons_zero, List.set_cons_succ]
              refine wpAnyH_ready (rs := [2]) (by kernel_rfl) (by simp) (AllReadyH.cons rfl (fun K hK => ?_) AllReadyH.nil)
              go_simp
              go_at_call 9
              refine KG2.out.mono ?_
              rintro e w2 ⟨rfl, F2', hp2, ht2, hf2⟩
              have ho2 := HD.out.call ht2 hp2 hf2
              have HO2 := Lib.hid ho2
              have hs2 := HSV.out _ _ _ ho2
              clear hp2 ht2 hf2 ho2
              go_wp2_with fail
              refine hK.out _ _ hs2 (fun hS => ?_)
              clear hK
              refine wpAnyH_take (i := 3) (v := ?vb3) rfl (by kernel_rfl) (by kernel_rfl) (by kernel_rfl) (fun _ _ _ h => h) (.inl ⟨by rfl, ?hb3⟩) hS ?rb3
              case hb3 =>
                intro w' hs
                (try dsimp only at hs)
                go_split_ands
                go_simp
                try with_reducible rfl
              simp only [List.getElem_toArray, List.getElem_cons_succ, List.getElem_cons_zero, Act.put, List.setIfInBounds_toArray, List.set_cons_zero, List.set_cons_succ]
              refine wpAnyH_take (i := 9) (v := ?vb9) rfl (by kernel_rfl) (by kernel_rfl) (by kernel_rfl) (fun _ _ _ h => h) (.inl ⟨by rfl, ?hb9⟩) hS ?rb9
              case hb9 =>
                intro w' hs
                (try dsimp only at hs)
                go_split_ands
                go_simp
                try with_reducible rfl
              simp only [List.getElem_toArray, List.getElem_cons_succ, List.getElem_cons_zero, Act.put, List.setIfInBounds_toArray, List.set_cons_zero, List.set_cons_succ]
              refine wpAnyH_done (by kernel_rfl) ?_ _
              have fr := free_of HO2.out.own Kd
              cases β with
              | true =>
                have hv0 : 0 ≤ V := of_decide_eq_true hvb
                obtain ⟨n1, n2, n3⟩ := HCASE.out.1 hv0
                have HN3 := Lib.hid n3
                have HN1 := Lib.hid n1
                clear n3 n1
                go_wp2_with fail
                go_meet
                have ho3 := HO2.out.set H Kd (.int .i64 (-1))
                rw [ints_put, HN3.out] at ho3
                exact ⟨_, F2', by rw [n2], HN1.out, ho3⟩
              | false =>
                have hv0 : V < 0 := by have := of_decide_eq_false hvb; omega
                go_wp2_with fail
                go_meet
                have ho3 := HO2.out
                rw [HCASE.out.2 (by omega)] at ho3
                exact ⟨l, F2', rfl, Nat.le_succ_of_le HLL.out, ho3⟩
            · have hR0' : (R == 0) = false := beq_eq_false_iff_ne.2 hR0
              by_cases hR1 : R = 1
              · subst hR1
                clear hR0 hR0'
                have hu0 := used_pos l HPS.out
                have hu1 := (H.ok HOO.out.pool).sum
                have KR := H.resize (Kd : Int) S HOO.out.pool (by constructor <;> omega) (by constructor <;> omega)
                unfold ResizeSays at KR
                cases hob : obAt l (Kd : Int) with
                | none =>
                  rw [resize_none B l Kd S hob] at KR
                  have hV : szAt l Kd = -1 := sz_none hK1 hob
                  have KR2 := Lib.hid KR
                  rw [hV] at HSZ HSV
                  have HOB := Lib.hid hob
                  clear KR hob
                  go_wp2_with fail
                  refine KR2.out.mono ?_
                  rintro e w2 ⟨rfl, F2', hp2, ht2, hf2⟩
                  have ho2 := HOO.out.call ht2 hp2 hf2
                  have HO2 := Lib.hid ho2
                  have hs2 := HSV.out _ _ _ ho2
                  clear hp2 ht2 hf2 ho2
                  go_wp2_with fail
                  go_meet
                  exact ⟨l, F2', rfl, Nat.le_succ_of_le HLL.out, HO2.out⟩
                | some s =>
                  obtain ⟨hV, he⟩ := sz_some hK1 hob
                  have hs0 := HPS.out s (List.mem_of_getElem? he)
                  have hs1 := used_item l HPS.out (Kd - 1) s he
                  have hlk := in_range he
                  have w1 := IntWalk.i64_in (usedL l - s) (by omega)
                  have w2 := IntWalk.i64_in (usedL l - s + S) (by omega)
                  have hs0' : ¬ s < 0 := by omega
                  by_cases hm : B < usedL l - s + S
                  · rw [resize_much B l Kd S s hob hS1 hm] at KR
                    have KR2 := Lib.hid KR
                    rw [hV] at HSZ HSV
                    have hm' : ¬ usedL l - s + S ≤ B := by omega
                    have HOB := Lib.hid hob
                    clear KR hob he
                    generalize hU : usedL l = U at *
                    have HU := Lib.hid hU
                    clear hU
                    go_wp2_with fail
                    refine KR2.out.mono ?_
                    rintro e w2 ⟨rfl, F2', hp2, ht2, hf2⟩
                    have ho2 := HOO.out.call ht2 hp2 hf2
                    have HO2 := Lib.hid ho2
                    have hs2 := HSV.out _ _ _ ho2
                    clear hp2 ht2 hf2 ho2
                    go_wp2_with fail
                    go_meet
                    exact ⟨l, F2', by rw [HU.out], Nat.le_succ_of_le HLL.out, HO2.out⟩
                  · rw [resize_fits B l Kd S s hK1 hob hS1 hm] at KR
                    have KR2 := Lib.hid KR
                    rw [hV] at HSZ HSV
                    have hm' : usedL l - s + S ≤ B := by omega
                    have HUU := Lib.hid (used_set l (Kd - 1) (some s) (some S) he)
                    have HSS := Lib.hid (szL_set (l := l) (l' := l.set (Kd - 1) (some S)) (k := Kd) (v := S) (fun j => by rw [sz_set l Kd j (some S) hK1 hlk]; rfl))
                    have HOB := Lib.hid hob
                    have HLS := Lib.hid (show (l.set (Kd - 1) (some S)).length ≤ k + 1 by rw [List.length_set]; exact Nat.le_succ_of_le HLL.out)
                    clear KR hob he
                    generalize hL2 : l.set (Kd - 1) (some S) = L2 at *
                    clear hL2
                    generalize hU : usedL l = U at *
                    have HU := Lib.hid hU
                    clear hU
                    go_wp2_with fail
                    refine KR2.out.mono ?_
                    rintro e w2 ⟨rfl, F2', hp2, ht2, hf2⟩
                    have ho2 := HOO.out.call ht2 hp2 hf2
                    have HO2 := Lib.hid ho2
                    have hs2 := HSV.out _ _ _ ho2
                    have fr := free_of ho2.own Kd
                    clear hp2 ht2 hf2 ho2
                    go_wp2_with fail
                    go_meet
                    have ho3 := HO2.out.set H Kd (.int .i64 S)
                    rw [ints_put, HSS.out] at ho3
                    exact ⟨L2, F2', by rw [HUU.out]; rfl, HLS.out, ho3⟩
              · have hR1' : (R == 1) = false := beq_eq_false_iff_ne.2 hR1
                have hu0 := used_pos l HPS.out
                have hu1 := (H.ok HOO.out.pool).sum
                have KT := H.take S HOO.out.pool (by constructor <;> omega)
                unfold TakeSays at KT
                obtain ⟨m, L2, m1, m2, mp, mn, mt, mu, ms, ml⟩ := take_facts B l S hS1 HPS.out (by have := HLL.out; omega)
                have w1 := IntWalk.i64_in (usedL l + S) (by omega)
                have m2' : (m : Int) ≤ 200 := by omega
                have m1' : (1 : Int) ≤ m := by omega
                have m3' : (m : Int) < 202 := by omega
                have HMP := Lib.hid mp
                have HMN := Lib.hid mn
                have HMU := Lib.hid mu
                have HMS := Lib.hid ms
                have HML := Lib.hid ml
                clear mp mn mu ms ml hR0 hR1
                by_cases hm : B < usedL l + S
                · rw [takeL_much B l S hS1 hm] at KT
                  have KT2 := Lib.hid KT
                  have hm' : ¬ usedL l + S ≤ B := by omega
                  clear KT mt
                  generalize hU : usedL l = U at *
                  have HU := Lib.hid hU
                  clear hU
                  go_wp2_with fail
                  refine KT2.out.mono ?_
                  rintro e w2 ⟨rfl, F2', hp2, ht2, hf2⟩
                  have ho2 := HOO.out.call ht2 hp2 hf2
                  have HO2 := Lib.hid ho2
                  clear hp2 ht2 hf2 ho2
                  go_wp2_with fail
                  go_loopg [17] 300 (fun r x wr => ∃ (j : Nat), r = 301 - j ∧ x = .int .i64 j ∧ 1 ≤ j ∧ j ≤ m ∧ wr = w2)
                  case atStart => exact ⟨1, rfl, rfl, Nat.le_refl _, m1, rfl⟩
                  case round =>
                    obtain ⟨j, rfl, rfl, hj1, hj2, rfl⟩ := hrel
                    have hj2' : (j : Int) ≤ 200 := by omega
                    have hj3' : (j : Int) < 202 := by omega
                    have hjc := cell_of HO2.out.own j _ (sz_cell l j (by omega))
                    have e0 := IntWalk.i64_in ((j : Int) + 1) (by omega)
                    by_cases hjm : j < m
                    · have hv := HMP.out j hj1 hjm
                      generalize szAt l j = V at *
                      go_wp2_with fail
                      go_roundg (301 - (j + 1))
                      case measure => omega
                      case rel => exact ⟨j + 1, rfl, by go_num, by omega, by omega, rfl⟩
                    · obtain rfl : j = m := by omega
                      rw [HMN.out] at hjc
                      go_wp2_with fail
                      go_meet
                      exact ⟨l, F2', by rw [HU.out], Nat.le_succ_of_le HLL.out, HO2.out⟩
                · rw [mt hm] at KT
                  have KT2 := Lib.hid KT
                  have hm' : usedL l + S ≤ B := by omega
                  clear KT mt
                  generalize hU : usedL l = U at *
                  have HU := Lib.hid hU
                  clear hU
                  go_wp2_with fail
                  refine KT2.out.mono ?_
                  rintro e w2 ⟨rfl, F2', hp2, ht2, hf2⟩
                  have ho2 := HOO.out.call ht2 hp2 hf2
                  have HO2 := Lib.hid ho2
                  clear hp2 ht2 hf2 ho2
                  go_wp2_with fail
                  go_loopg [17] 300 (fun r x wr => ∃ (j : Nat), r = 301 - j ∧ x = .int .i64 j ∧ 1 ≤ j ∧ j ≤ m ∧ wr = w2)
                  case atStart => exact ⟨1, rfl, rfl, Nat.le_refl _, m1, rfl⟩
                  case round =>
                    obtain ⟨j, rfl, rfl, hj1, hj2, rfl⟩ := hrel
                    have hj2' : (j : Int) ≤ 200 := by omega
                    have hj3' : (j : Int) < 202 := by omega
                    have hjc := cell_of HO2.out.own j _ (sz_cell l j (by omega))
                    have e0 := IntWalk.i64_in ((j : Int) + 1) (by omega)
                    by_cases hjm : j < m
                    · have hv := HMP.out j hj1 hjm
                      generalize szAt l j = V at *
                      go_wp2_with fail
                      go_roundg (301 - (j + 1))
                      case measure => omega
                      case rel => exact ⟨j + 1, rfl, by go_num, by omega, by omega, rfl⟩
                    · obtain rfl : j = m := by omega
                      rw [HMN.out] at hjc
                      have fr := free_of HO2.out.own j
                      go_wp2_with fail
                      go_meet
                      have ho3 := HO2.out.set H j (.int .i64 S)
                      rw [ints_put, HMS.out] at ho3
                      exact ⟨L2, F2', by rw [HMU.out], by have := HML.out; have := HLL.out; omega, ho3⟩
          case rest =>
            obtain ⟨l', F', rfl, hl', ho'⟩ := hcut
            have HO' := Lib.hid ho'
            have HL' := Lib.hid hl'
            have hsum := (H.ok ho'.pool).sum
            have KU := Lib.hid (H.used ho'.pool)
            clear ho' hl' q1 q2 q3
            generalize hU : usedL l' = U at *
            have HU := Lib.hid hU
            clear hU
            have hns : ¬ B < U := by omega
            go_wp2_with fail
            refine KU.out.mono ?_
            rintro e w3 ⟨rfl, b3⟩
            have HO3 := Lib.hid (HO'.out.below H b3)
            clear b3
            have e0 := IntWalk.i64_in ((k : Int) + 1) (by omega)
            go_wp2_with fail
            go_roundg (n - (k + 1))
            case measure => omega
            case rel => exact ⟨k + 1, l', F', rfl, by rw [HU.out], by go_num, by omega, by omega, HL'.out, HO3.out⟩
        · have hkk : ¬ (k : Int) < 200 := by omega
          have hlt' : (k : Int) < n := by omega
          go_wp2_with fail
          refine (HA.out wr).mono ?_
          rintro e w3 ⟨rfl, b3⟩
          have HB3 := Lib.hid (HOO.out.low.trans (b3.mono HOO.out.low.size))
          clear b3
          go_wp2_with fail
          go_ret
          exact ⟨rfl, HB3.out⟩
      · have hkn : ¬ (k : Int) < n := by omega
        go_wp2_with fail
        refine (HA.out wr).mono ?_
        rintro e w3 ⟨rfl, b3⟩
        have HB3 := Lib.hid (HOO.out.low.trans (b3.mono HOO.out.low.size))
        clear b3
        go_wp2_with fail
        go_ret
        exact ⟨rfl, HB3.out⟩
end Go.Proofs.Ytpfhaafaoedgpaa.Pl
