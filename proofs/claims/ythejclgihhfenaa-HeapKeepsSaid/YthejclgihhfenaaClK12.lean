import Derived.Test.YthejclgihhfenaaClK10
import Derived.Test.YthejclgihhfenaaClK11
import Derived.Test.YthejclgihhfenaaCm6
import Derived.WalkKit
import Derived.ProofKit
import Derived.OpenShut
import Derived.Below
/-
  Layer 14: the law HeapKeeps, over what the calls say.
-/
namespace Go.Proofs.Ythejclgihhfenaa.Hp
open Go Go.RowKit Go.Proofs.Ythejclgihhfenaa.Pl Go.Proofs.Ythejclgihhfenaa.Tb Go.Proofs.Ythejclgihhfenaa.Vm

set_option maxHeartbeats 8000000 in
set_option maxRecDepth 100000 in
theorem keeps_walk (HP : HeapP) (H : HeapSays HP) (ao : Option Addr) (n cap : Nat) (w : World) (hn : n ≤ 9223372036854775807) (ho : OpsAt w ao n) :
    Calls Try.prog 3 #[.slice ao n cap] w (fun e w' => e = .returned (.bool true) ∧ Below w.heap.size w w') := by
  have kn := H.new 400 w (by decide) (by decide)
  unfold NewHSays at kn
  have HO := Lib.hid ho
  have HNN := Lib.hid hn
  clear ho hn
  go_enter Try.func3, Try.ntmps3
  go_wp2_with fail
  refine kn.mono ?_
  rintro e w1 ⟨b, F, rfl, hp, hF, hb1⟩
  have H1 := Lib.hid (show HpAt HP w b (kpH [] 0) [] w1 from ⟨F, hp, hF, hb1, fun p hp => absurd hp (List.not_mem_nil)⟩)
  clear hp hF hb1 kn
  have H2 := Lib.hid ((H1.out.alloc H (.map #[] 0)).alloc H (.cells #[.int .u8 3, .int .i64 1] 31))
  have HWB := Lib.hid H1.out.low.size
  have hmm := @run_makeMap Try.prog
  go_wp2_with fail
  generalize hW : (w1.alloc (.map #[] 0)).alloc (.cells #[.int .u8 3, .int .i64 1] 31) = W at *
  clear hW
  rw [show (w1.alloc (.map #[] 0)).heap.size = w1.heap.size + 1 from by simp] at H2
  have HS : Hid (KpAt HP w b w1.heap.size (w1.heap.size + 1) 0 (.slice none 0 0) W) := Lib.hid ⟨[], 0, 0, [], ⟨by decide, Nat.le_refl _, fun j o h => by simp at h⟩, Nat.le_refl _, fun _ h => absurd h List.not_mem_nil, Nat.le_refl _, _, [], H2.out.fewer (fun p hp => by
    rcases List.mem_cons.1 hp with rfl | hp
    · exact .tail _ (.head _)
    · rw [List.mem_singleton.1 hp]; exact .head _), (show VMapIs 2 (.map #[] 0) 0 (cntS []) (fun _ => none) from vmap_new _).congr want_nil, .inl ⟨rfl, rfl, rfl⟩, ⟨HWB.out, fun _ h => absurd h List.not_mem_nil, fun p hp => by rw [List.mem_singleton.1 hp]; exact Nat.le_succ_of_le HWB.out⟩, fun _ h => absurd h List.not_mem_nil, fun q hq => by rw [List.mem_singleton.1 hq]; exact ⟨by dsimp only; omega, fun _ h => absurd h List.not_mem_nil⟩⟩
  generalize w1.heap.size = mb at *
  generalize mb + 1 = ob at *
  clear H1 H2
  go_loopg [6, 8] (min 150 n) (fun r lv i wr => ∃ k : Nat, r = min 150 n - k ∧ i = .int .i64 (k : Int) ∧ k ≤ min 150 n ∧ KpAt HP w b mb ob k lv wr)
  case atStart => exact ⟨0, rfl, rfl, Nat.zero_le _, HS.out⟩
  case round =>
    obtain ⟨k, rfl, rfl, hk, hS⟩ := hrel
    have HK := Lib.hid hk
    by_cases hkn : k < n
    · by_cases h150 : k < 150
      · obtain ⟨S, m, N, L, hok, hL, hLi, hN, hs⟩ := hS
        obtain ⟨la, lc, rfl, hlc⟩ := hs.list
        obtain ⟨og, off, o0, o1, o2, o3, o4, o5, hao, hog, ho0, ho1, c0, c1, c2, c3, c4, c5⟩ := HO.out k hkn
        subst hao
        have q0 := (hs.low.cell (p := ⟨og, off + k * 6, none⟩) hog).trans c0
        have q1 := (hs.low.cell (p := ⟨og, off + k * 6 + 1, none⟩) hog).trans c1
        have q2 := (hs.low.cell (p := ⟨og, off + k * 6 + 2, none⟩) hog).trans c2
        have q3 := (hs.low.cell (p := ⟨og, off + k * 6 + 3, none⟩) hog).trans c3
        have q4 := (hs.low.cell (p := ⟨og, off + k * 6 + 4, none⟩) hog).trans c4
        have q5 := (hs.low.cell (p := ⟨og, off + k * 6 + 5, none⟩) hog).trans c5
        have HSK := Lib.hid hs
        have HOK := Lib.hid hok
        have HLL := Lib.hid (And.intro hL (And.intro hLi hN))
        have hkn' : (k : Int) < n := by omega
        have h150' : (k : Int) < 150 := by omega
        have e1 := IntWalk.i64_in ((k : Int) + 1) (by omega)
        have HL1 := Lib.hid (And.intro ho0 ho1)
        have HC := Lib.hid hog
        clear hs hok hL hLi hN hk c0 c1 c2 c3 c4 c5 ho0 ho1 hog hlc
        have hs3 := ((HSK.out.alloc H (.cells #[.int .i64 o0, .int .i64 o1, .int .i64 o2, .int .i64 o3, .int .i64 o4, .string o5] 33)).alloc H (.cells #[.int .u8 3, .int .i64 ((k : Int) + 1)] 31)).alloc H (.cells #[.int .u8 0, .int .i64 0] 31)
        simp only [size_a] at hs3
        have HOB := Lib.hid (show ob < wr.heap.size ∧ mb < wr.heap.size ∧ ob ≠ wr.heap.size + 1 + 1 from by
          have h1 := lt_of_get (HSK.out.own (.head _))
          obtain ⟨M, hM, _⟩ := HSK.out.mapBlock
          exact ⟨h1, lt_of_get hM, by omega⟩)
        have HS3 := Lib.hid hs3
        clear hs3
        go_upto_region 13 with fail
        generalize hW : ((wr.alloc (.cells #[.int .i64 o0, .int .i64 o1, .int .i64 o2, .int .i64 o3, .int .i64 o4, .string o5] 33)).alloc (.cells #[.int .u8 3, .int .i64 ((k : Int) + 1)] 31)).alloc (.cells #[.int .u8 0, .int .i64 0] 31) = w2 at *
        clear hW q0 q1 q2 q3 q4 q5
        generalize hβ : wr.heap.size = β at *
        clear hβ
        go_upto_if 52 with fail
        go_cut [] (fun wx => ∃ u : Vl, u.In ∧ KpS HP w b mb (kpH S m) (wantS S) (cntS S) N (.slice la L.length lc) L [(β + 1 + 1, .cells #[.int .u8 (u.kind : Int), .int .i64 u.n] 31), (β + 1, .cells #[.int .u8 3, .int .i64 ((k : Int) + 1)] 31), (β, .cells #[.int .i64 o0, .int .i64 o1, .int .i64 o2, .int .i64 o3, .int .i64 o4, .string o5] 33), (ob, .cells #[.int .u8 3, .int .i64 1] 31)] wx)
        case first =>
          by_cases hl0 : (0 : Int) < L.length
          · obtain ⟨j, hj⟩ : ∃ j : Nat, o1 % (L.length : Int) = j := ⟨(o1 % (L.length : Int)).toNat, by have := Int.emod_nonneg o1 (show (L.length : Int) ≠ 0 by omega); omega⟩
            have hjl : j < L.length := by have := Int.emod_lt_of_pos o1 hl0; omega
            have hpk := fun w' => pick_kp o1 (L.length : Int) w' HL1.out.2 ⟨by omega, by have := HLL.out.1; omega⟩ (by omega)
            rw [hj] at hpk
            obtain ⟨gb, cp, hv, d0, d1⟩ := HS3.out.item j hjl
            have hui := HLL.out.2.1 L[j] (List.getElem_mem hjl)
            have HP2 := Lib.hid (HS3.out.put2 (a' := .int .u8 (L[j].kind : Int)) (c' := .int .i64 L[j].n) H (fun q hq => by
              rcases List.mem_cons.1 hq with rfl | hq
              · dsimp only; omega
              rcases List.mem_cons.1 hq with rfl | hq
              · dsimp only; omega
              · rw [List.mem_singleton.1 hq]; exact HOB.out.2.2))
            have HUI := Lib.hid hui
            have a1 := cell_of (HS3.out.own (.tail _ (.tail _ (.head _)))) 1 _ rfl
            have b0 := cell_of (HS3.out.own (.head _)) 0 _ rfl
            have b1 := cell_of (HS3.out.own (.head _)) 1 _ rfl
            have z0 := free_of (HS3.out.own (.head _)) 0
            have z1 := free_of (HS3.out.own (.head _)) 1
            have hjl' : (j : Int) < L.length := by omega
            injection hv with hv1 hv2 hv3
            subst hv1 hv3
            generalize L[j] = u at *
            obtain ⟨uk, un⟩ := u
            dsimp only at d0 d1 HP2 HUI
            clear hui hj hjl
            go_wp2_with fail
            refine (hpk _).mono ?_
            rintro e w5 ⟨rfl, rfl⟩
            clear hpk
            go_wp2_with fail
            go_meet
            exact ⟨⟨uk, un⟩, HUI.out, HP2.out⟩
          · go_wp2_with fail
            go_meet
            exact ⟨nilV, nil_In', HS3.out⟩
        case rest =>
          obtain ⟨u, hu, hs⟩ := hcut
          have hlk := hs.look_ok u hu
          have b0 := cell_of (hs.own (.head _)) 0 _ rfl
          have b1 := cell_of (hs.own (.head _)) 1 _ rfl
          have HS4 := Lib.hid hs
          have HU := Lib.hid hu
          clear hs hu HS3
          obtain ⟨th, hth⟩ : ∃ th, (wantS S u).isSome = th := ⟨_, rfl⟩
          rw [hth] at hlk
          have HTH := Lib.hid hth
          obtain ⟨tn, htn⟩ : ∃ tn, (wantS S u).getD 0 = tn := ⟨_, rfl⟩
          rw [htn] at hlk
          clear hth htn
          unfold Vl.val Vl.cells at hlk
          obtain ⟨uk, un⟩ := u
          dsimp only at hlk b0 b1 HS4
          go_upto_block 2 with fail
          go_cut [6] (fun lv wx => KpAt HP w b mb ob (k + 1) lv wx)
          case first =>
            refine sw_all H HS4.out HU.out HTH.out HOK.out HLL.out h150 HL1.out.1 ?_
            intros
            rename_i wx h
            first | go_meet | (go_wp2_with fail; go_meet)
            exact h
          case rest =>
            go_step
            refine round_all H hcut (by omega) ?_
            clear hcut
            intros
            rename_i wx h
            have HR := Lib.hid h
            clear h
            go_wp2_with fail
            go_roundg (min 150 n - (k + 1))
            case measure => omega
            case rel => exact ⟨k + 1, rfl, by go_num, by omega, HR.out⟩
      · obtain ⟨S, m, N, L, _, _, _, _, hs⟩ := hS
        have HL := Lib.hid hs.low
        clear hs hk
        have h150 : ¬ (k : Int) < 150 := by omega
        have hkn : (k : Int) < n := by omega
        go_wp2_with fail
        refine (awake_fn HP H wr).mono ?_
        rintro e w8 ⟨rfl, b8⟩
        have H8 := Lib.hid (HL.out.trans (b8.mono HL.out.size))
        clear b8
        go_wp2_with fail
        go_ret
        exact ⟨rfl, H8.out⟩
    · obtain ⟨S, m, N, L, _, _, _, _, hs⟩ := hS
      have HL := Lib.hid hs.low
      clear hs hk
      have hkn : ¬ (k : Int) < n := by omega
      go_wp2_with fail
      refine (awake_fn HP H wr).mono ?_
      rintro e w8 ⟨rfl, b8⟩
      have H8 := Lib.hid (HL.out.trans (b8.mono HL.out.size))
      clear b8
      go_wp2_with fail
      go_ret
      exact ⟨rfl, H8.out⟩
end Go.Proofs.Ythejclgihhfenaa.Hp

/-
  What is put into a cell or under a key stays there: the law HeapKeeps returns true for every row of calls. No condition.
-/
namespace Go.Proofs.Ythejclgihhfenaa.heapKeeps
open Go.ChangeShapes Go.WideShapes Go.ChangeAt Go.RowKit Go.Deep
open Go.Proofs.Ythejclgihhfenaa.Pl Go.Proofs.Ythejclgihhfenaa.Tb Go.Proofs.Ythejclgihhfenaa.Hp

theorem own : ownKnob Try.prog.godebug = none := by kernel_rfl
theorem laidOut : laidOutB Try.prog = true := by kernel_rfl

set_option maxRecDepth 100000 in
theorem lifted (HP : HeapP) (HS : HeapSays HP) (os : Os) (started : os.Started) (H : Type) (enc : TypeId × Value → H) :
    ReturnsInHanded {} Try.checked os 3 .any (Rows.heapKeepsSpec.pre6 enc Try.prog Try.f3 Rows.heapKeepsRow.domain false) (Rows.heapKeepsSpec.post enc Try.prog Try.f3 false true false false) := by
  refine returnsInHanded_of_change (C := Try.checked) own started (by kernel_rfl) Try.func3
    (ChangeSpec.witness6 (enc := enc) (C := Try.checked) false ⟨#[], #[.slice none 0 0], []⟩ 8 (by kernel_rfl) (by kernel_rfl) (by kernel_rfl) (by kernel_rfl)) ?_
  intro W base args ds gs before hval0 hW _ hsz0
  have hval : ∀ (j : Nat) t v, Try.f3.params[j]? = some t → args[j]? = some v → Value.okWide Try.prog W .any base t v := hval0
  have hW' := hW
  obtain ⟨p, q, hA0, hV, rfl, hfz, hnd⟩ := hW
  have hA : DataW.TrodAll enc Try.prog W 0 (fun _ => true) true Try.f3.params.toList args.toList ds p := hA0
  rw [Try.params3] at hA hval
  obtain ⟨v0, vs0, d0, ds0, p0, q0, hargs, rfl, rfl, h0, r0⟩ := trodAll_cons hA
  obtain ⟨rfl, rfl, rfl⟩ := trodAll_nil r0
  obtain rfl : args = #[v0] := by cases args; simp_all
  obtain ⟨rfl, rfl⟩ := trodVars_none hV
  obtain ⟨a0, len0, cap0, rfl⟩ := okWide_slice Try.underlying22 (hval 0 22 v0 rfl rfl)
  have h0k := h0
  obtain ⟨fuel0, hf0⟩ := h0
  obtain ⟨n, ao, cap, hv, hn, hops⟩ := ops_lie hf0
  injection hv with hv1 hv2 hv3
  subst hv1 hv2 hv3
  clear hA0 hval0 hsz0 hval
  simp only [List.append_nil] at hW'
  have hlt : ∀ x ∈ p0, x.block < W.heap.size := fun x hx => by simpa using hW'.lt x (by simpa using hx)
  have hback0 : ∀ (W' : World), Below W.heap.size W W' → DataW.Trod enc Try.prog W' 0 (fun b => decide (b < W.heap.size)) true 22 _ d0 p0 :=
    fun W' hn => Below.trod laidOut (by kernel_rfl) (of_decide_eq_true (by kernel_rfl)) h0k hn hlt
  refine (keeps_walk HP HS a0 len0 cap0 W hn hops).mono fun e W' ⟨he, hg⟩ => ?_
  subst he
  exact ⟨_, rfl, _, _, _, [], _, [], hW', (trodAll_cons_mk (shut_bool Try.underlying4 _) trodAll_mk0), (trodAll_cons_mk (hback0 _ hg) trodAll_mk0), rfl, hg.frame _, fun h => by cases h⟩

theorem over (HP : HeapP) (HS : HeapSays HP) : Rows.heapKeepsRow.holds Try.pinned (OpenSpec.ofChange Rows.heapKeepsSpec) :=
  OpenClaim.holds_of_wide 3 Try.f3 rfl rfl rfl rfl rfl rfl rfl ⟨rfl, rfl, rfl, rfl, rfl⟩ rfl rfl rfl rfl rfl (by kernel_rfl) Try.func3 (by kernel_rfl)
    (of_decide_eq_true (by kernel_rfl)) (by unfold Func.isWrapper; first | (rw [if_pos (by decide +kernel)]; kernel_rfl) | (rw [if_neg (by decide +kernel)]; exact ⟨rfl, rfl⟩))
    (fun os started H enc _ => lifted HP HS os started H enc)
end Go.Proofs.Ythejclgihhfenaa.heapKeeps
