import Derived.Test.YthejclgihhfenaaClT2
import Derived.Test.YthejclgihhfenaaCm5
import Derived.Carry
import Derived.Test.YthejclgihhfenaaCm6
import Derived.WalkKit
import Derived.ProofKit
import Derived.OpenShut
import Derived.Below
/-
  Layer 14: the law HeapTexts, over what the calls say. A DRAFT: its head alone.
-/
namespace Go.Proofs.Ythejclgihhfenaa.Hp
open Go Go.RowKit Go.Proofs.Ythejclgihhfenaa.Pl Go.Proofs.Ythejclgihhfenaa.Tb Go.Proofs.Ythejclgihhfenaa.Vm

set_option maxHeartbeats 4000000 in
set_option maxRecDepth 100000 in
theorem texts_walk (HP : HeapP) (H : HeapSays HP) (l : List ByteArray) (ao : Option Addr) (cap : Nat) (w : World)
    (hl : ∀ (j : Nat) (h : j < l.length), ∃ g off, ao = some ⟨g, off, none⟩ ∧ g < w.heap.size ∧ w.cell? ⟨g, off + j, none⟩ = some (.string l[j])) :
    Calls Try.prog 4 #[.slice ao l.length cap] w (fun e w' => e = .returned (.bool true) ∧ Below w.heap.size w w') := by
  have kn := H.new 100000 w (by decide) (by decide)
  unfold NewHSays at kn
  go_enter Try.func4, Try.ntmps4
  go_wp2_with fail
  refine kn.mono ?_
  rintro e w1 ⟨b, F, rfl, hp, hF, hb1⟩
  have H1 := Lib.hid (show HpAt HP w b (txH 100000 []) [] w1 from ⟨F, hp, hF, hb1, fun p hp => absurd hp (List.not_mem_nil)⟩)
  have HS := Lib.hid (show TxS HP w b w1.heap.size [] (seenT []) 0 0 [] (w1.alloc (.map #[] 0)) from ⟨_, H1.out.alloc H _, smap_new _, H1.out.low.size⟩)
  have hwb := Lib.hid H1.out.low.size
  clear hp hF hb1 kn
  have hmm := @run_makeMap Try.prog
  go_wp2_with fail
  generalize hW : w1.alloc (.map #[] 0) = W at *
  have HW := Lib.hid hW
  clear hW
  generalize hmb : w1.heap.size = mb at *
  clear hmb
  go_loopg [6] 2 (fun r i wr => ∃ (k : Nat) (T : List ByteArray) (N : Nat), r = 2 - k ∧ i = .int .i64 k ∧ k ≤ 2 ∧ N ≤ 40 * k ∧ TxOk (l.take 40) T ∧ TxS HP w b mb T (seenT T) T.length N [] wr)
  case atStart => exact ⟨0, [], 0, rfl, rfl, Nat.zero_le _, Nat.le_refl _, TxOk.nil (by simp; omega), HS.out⟩
  case round =>
    obtain ⟨k, T, N, rfl, rfl, hk, hN, hT, hS⟩ := hrel
    by_cases hlt : k < 2
    · have hlt' : (k : Int) < 2 := by omega
      have e0 := IntWalk.i64_in ((k : Int) + 1) (by omega)
      have HS1 := Lib.hid hS
      have HT1 := Lib.hid hT
      clear hS hT
      go_wp2_with fail
      go_loopg [7] (min 40 l.length) (fun r i wr => ∃ (j : Nat) (T : List ByteArray) (N : Nat), r = min 40 l.length - j ∧ i = .int .i64 j ∧ j ≤ min 40 l.length ∧ N ≤ 40 * k + j ∧ TxOk (l.take 40) T ∧ TxS HP w b mb T (seenT T) T.length N [] wr)
      case atStart => exact ⟨0, T, N, rfl, rfl, Nat.zero_le _, by omega, HT1.out, HS1.out⟩
      case round =>
        obtain ⟨j, T2, N2, rfl, rfl, hj, hN2, hT2, hS2⟩ := hrel
        have HS2 := Lib.hid hS2
        have HT2 := Lib.hid hT2
        clear hS2 hT2
        have HJ := Lib.hid hj
        clear hj
        by_cases hjl : j < l.length
        · by_cases h40 : j < 40
          · obtain ⟨g, off, rfl, hg, hc⟩ := hl j hjl
            have hmem : l[j] ∈ l.take 40 := List.mem_take_iff_getElem.2 ⟨j, by omega, rfl⟩
            have HM := Lib.hid hmem
            clear hmem
            generalize l[j] = s at *
            have HC := Lib.hid hc
            have HG := Lib.hid hg
            have hjl' : (j : Int) < (l.length : Int) := by omega
            have h40' : (j : Int) < 40 := by omega
            have e1 := IntWalk.i64_in ((j : Int) + 1) (by omega)
            have hcj := (HS2.out.low.cell (p := ⟨g, off + j, none⟩) hg).trans hc
            clear hc
            by_cases hsz : s.size ≤ 1000
            · have hsz' : ¬ (1000 : Int) < (s.size : Int) := by omega
              have HZ := Lib.hid hsz
              clear hsz
              go_wp2_with fail
              refine (show Calls _ 19 #[.pointer (some ⟨b, 0, none⟩), .string s] _ (fun e w' => e = .returned (.tuple #[.agg #[.int .u8 4, .int .i64 (((ixT (addT T2 s) s : Nat) : Int) + 1)], .int .i64 0]) ∧ TxS HP w b mb (addT T2 s) (seenT T2) T2.length N2 [] w') from HS2.out.str H HT2.out s HZ.out).mono ?_
              rintro e w2 ⟨rfl, hS3⟩
              have HT3 := Lib.hid (HT2.out.add HZ.out HM.out)
              have htx := fun w' (h : TxS HP w b mb (addT T2 s) (seenT T2) T2.length N2 [(w2.heap.size, .cells #[.int .u8 4, .int .i64 (((ixT (addT T2 s) s : Nat) : Int) + 1)] 31)] w') => (show Calls Try.prog 20 #[.pointer (some ⟨b, 0, none⟩), .agg #[.int .u8 4, .int .i64 (((ixT (addT T2 s) s : Nat) : Int) + 1)]] w' _ from h.text H HT3.out s (mem_addT T2 s))
              have HX := Lib.hid htx
              have HS3 := Lib.hid (hS3.alloc H (.cells #[.int .u8 4, .int .i64 (((ixT (addT T2 s) s : Nat) : Int) + 1)] 31))
              have HLT := Lib.hid hS3.lt
              clear hS3 htx hcj
              generalize hix : ixT (addT T2 s) s = ix at *
              have HIX := Lib.hid hix
              clear hix
              go_wp2_with fail
              refine (HX.out _ HS3.out).mono ?_
              rintro e w4 ⟨rfl, hS4⟩
              have hcj := (hS4.low.cell (p := ⟨g, off + j, none⟩) HG.out).trans HC.out
              have hbx := hS4.own (.head _)
              have hb0 := cell_of hbx 0 _ rfl
              have hb1 := cell_of hbx 1 _ rfl
              have hlt4 := lt_of_get hbx
              have HS4 := Lib.hid hS4
              clear hS4 hbx
              by_cases hin : s ∈ T2
              · have hlk : (Instr.lookup 51 (.map (some mb)) (.string s) true).run Try.prog w4 = .ok (.tuple #[.agg #[.int .u8 4, .int .i64 ((ix : Int) + 1)], .bool true]) w4 := by
                  have h := HS4.out.look_ok s HZ.out
                  have hx2 := HIX.out
                  rw [addT_in T2 s hin] at hx2
                  rw [seen_of T2 s hin, hx2] at h
                  exact h
                go_wp2_with fail
                have HS5 := Lib.hid (((HS4.out.alloc H (.cells #[.int .u8 4, .int .i64 ((ix : Int) + 1)] 31)).fewer (K' := [(w2.heap.size, .cells #[.int .u8 4, .int .i64 ((ix : Int) + 1)] 31)]) (fun p hp => .tail _ hp)).below H ((Below.refl _ _).drew))
                have hc5 := (HS5.out.low.cell (p := ⟨g, off + j, none⟩) HG.out).trans HC.out
                have hx5 := cell_of (HS5.out.own (.head _)) 0 _ rfl
                have hy5 := cell_of (HS5.out.own (.head _)) 1 _ rfl
                have hvi : (txV ix).In := by
                  have h := txV_in HT3.out s (mem_addT T2 s)
                  rw [HIX.out] at h
                  exact h
                obtain ⟨w6, hst, hS6, hsz6⟩ := HS5.out.store H (by omega) (fun p hp => by rw [List.mem_singleton.1 hp]; have := HLT.out; dsimp only; omega) s (txV ix) HZ.out hvi
                have hst : (Instr.mapUpdate 51 (.map (some mb)) (.string s) (.agg #[.int .u8 4, .int .i64 ((ix : Int) + 1)])).run Try.prog (w4.alloc (.cells #[.int .u8 4, .int .i64 ((ix : Int) + 1)] 31)).drew = .ok () w6 := hst
                have hfin : TxS HP w b mb (addT T2 s) (seenT (addT T2 s)) (addT T2 s).length (N2 + 1) [(w2.heap.size, .cells #[.int .u8 4, .int .i64 ((ix : Int) + 1)] 31)] w6 := by
                  have h := hS6
                  rw [size_step T2 s, show (fun j => if j = s then some (txV ix) else seenT T2 j) = seenT (addT T2 s) from funext fun x => by rw [← HIX.out]; exact seen_step T2 s x] at h
                  exact h
                have HS6 := Lib.hid hfin
                have hc6 := (HS6.out.low.cell (p := ⟨g, off + j, none⟩) HG.out).trans HC.out
                have hx6 := cell_of (HS6.out.own (.head _)) 0 _ rfl
                have hy6 := cell_of (HS6.out.own (.head _)) 1 _ rfl
                have HC6 := Lib.hid (And.intro hc6 (And.intro hx6 hy6))
                clear hfin hc6 hx6 hy6
                clear hS6 hcj hb0 hb1 hlk
                refine wp_region_held_drew (S := fun w' => w'.cell? ⟨g, off + j, none⟩ = some (.string s) ∧ w'.cell? ⟨w2.heap.size, 0, none⟩ = some (.int .u8 4) ∧ w'.cell? ⟨w2.heap.size, 1, none⟩ = some (.int .i64 ((ix : Int) + 1))) mixed ⟨hc5, hx5, hy5⟩ (fun hS => ?_)
                refine wpAnyH_take (i := 0) (v := ?va0) rfl (by kernel_rfl) (by kernel_rfl) (by kernel_rfl) (fun _ _ _ h => h) (.inl ⟨by rfl, ?ha0⟩) hS ?ra0
                case ha0 =>
                  intro w' hs
                  (try dsimp only at hs)
                  go_split_ands
                  go_simp
                  try with_reducible rfl
                simp only [List.getElem_toArray, List.getElem_cons_zero, Act.put, List.setIfInBounds_toArray, List.set_cons_zero, List.set_cons_succ]
                refine wpAnyH_take (i := 1) (v := ?va1) rfl (by kernel_rfl) (by kernel_rfl) (by kernel_rfl) (fun _ _ _ h => h) (.inl ⟨by rfl, ?ha1⟩) hS ?ra1
                case ha1 =>
                  intro w' hs
                  (try dsimp only at hs)
                  go_split_ands
                  go_simp
                  try with_reducible rfl
                simp only [List.getElem_toArray, List.getElem_cons_succ, List.getElem_cons_zero, Act.put, List.setIfInBounds_toArray, List.set_cons_zero, List.set_cons_succ]
                refine wpAnyH_take (i := 2) (v := ?va2) rfl (by kernel_rfl) (by kernel_rfl) (by kernel_rfl) (fun _ _ _ h => h) (.inl ⟨by rfl, ?ha2⟩) hS ?ra2
                case ha2 =>
                  intro w' hs
                  (try dsimp only at hs)
                  go_split_ands
                  go_simp
                  try with_reducible rfl
                simp only [List.getElem_toArray, List.getElem_cons_succ, List.getElem_cons_zero, Act.put, List.setIfInBounds_toArray, List.set_cons_zero, List.set_cons_succ]
                refine wpAnyH_take (i := 3) (v := ?va3) rfl (by kernel_rfl) (by kernel_rfl) (by kernel_rfl) (fun _ _ _ h => h) (.inl ⟨by rfl, ?ha3⟩) hS ?ra3
                case ha3 =>
                  intro w' hs
                  (try dsimp only at hs)
                  go_split_ands
                  go_simp
                  try with_reducible rfl
                simp only [List.getElem_toArray, List.getElem_cons_succ, List.getElem_cons_zero, Act.put, List.setIfInBounds_toArray, List.set_cons_zero, List.set_cons_succ]
                refine wpAnyH_take (i := 4) (v := ?va4) rfl (by kernel_rfl) (by kernel_rfl) (by kernel_rfl) (fun _ _ _ h => h) (.inl ⟨by rfl, ?ha4⟩) hS ?ra4
                case ha4 =>
                  intro w' hs
                  (try dsimp only at hs)
                  go_split_ands
                  go_simp
                  try with_reducible rfl
                simp only [List.getElem_toArray, List.getElem_cons_succ, List.getElem_cons_zero, Act.put, List.setIfInBounds_toArray, List.set_cons_zero, List.set_cons_succ]
                refine wpAnyH_take (i := 5) (v := ?va5) rfl (by kernel_rfl) (by kernel_rfl) (by kernel_rfl) (fun _ _ _ h => h) (.inl ⟨by rfl, ?ha5⟩) hS ?ra5
                case ha5 =>
                  intro w' hs
                  (try dsimp only at hs)
                  go_split_ands
                  go_simp
                  try with_reducible rfl
                simp only [List.getElem_toArray, List.getElem_cons_succ, List.getElem_cons_zero, Act.put, List.setIfInBounds_toArray, List.set_cons_zero, List.set_cons_succ]
                refine wpAnyH_ready (rs := [6]) (by kernel_rfl) (by simp) (AllReadyH.cons rfl (fun K hK => ?_) AllReadyH.nil)
                go_simp
                go_wp2_with fail
                refine hK.out _ _ HC6.out (fun hS => ?_)
                clear hK
                refine wpAnyH_done (by kernel_rfl) ?_ _
                clear hS
                go_wp2_with fail
                go_roundg (min 40 l.length - (j + 1))
                case measure => have := HJ.out; omega
                case rel =>
                  have hj1 := HJ.out
                  exact ⟨j + 1, addT T2 s, N2 + 1, rfl, by go_num, by omega, by omega, HT3.out, HS6.out.fewer (fun p hp => by cases hp)⟩
              · have hlk : (Instr.lookup 51 (.map (some mb)) (.string s) true).run Try.prog w4 = .ok (.tuple #[.agg #[.int .u8 0, .int .i64 0], .bool false]) w4 := by
                  have h := HS4.out.look_ok s HZ.out
                  rw [seen_not T2 s hin] at h
                  exact h
                go_wp2_with fail
                have HS5 := Lib.hid (((HS4.out.alloc H (.cells #[.int .u8 0, .int .i64 0] 31)).fewer (K' := [(w2.heap.size, .cells #[.int .u8 4, .int .i64 ((ix : Int) + 1)] 31)]) (fun p hp => .tail _ hp)).below H ((Below.refl _ _).drew))
                have hc5 := (HS5.out.low.cell (p := ⟨g, off + j, none⟩) HG.out).trans HC.out
                have hx5 := cell_of (HS5.out.own (.head _)) 0 _ rfl
                have hy5 := cell_of (HS5.out.own (.head _)) 1 _ rfl
                have hvi : (txV ix).In := by
                  have h := txV_in HT3.out s (mem_addT T2 s)
                  rw [HIX.out] at h
                  exact h
                obtain ⟨w6, hst, hS6, hsz6⟩ := HS5.out.store H (by omega) (fun p hp => by rw [List.mem_singleton.1 hp]; have := HLT.out; dsimp only; omega) s (txV ix) HZ.out hvi
                have hst : (Instr.mapUpdate 51 (.map (some mb)) (.string s) (.agg #[.int .u8 4, .int .i64 ((ix : Int) + 1)])).run Try.prog (w4.alloc (.cells #[.int .u8 0, .int .i64 0] 31)).drew = .ok () w6 := hst
                have hfin : TxS HP w b mb (addT T2 s) (seenT (addT T2 s)) (addT T2 s).length (N2 + 1) [(w2.heap.size, .cells #[.int .u8 4, .int .i64 ((ix : Int) + 1)] 31)] w6 := by
                  have h := hS6
                  rw [size_step T2 s, show (fun j => if j = s then some (txV ix) else seenT T2 j) = seenT (addT T2 s) from funext fun x => by rw [← HIX.out]; exact seen_step T2 s x] at h
                  exact h
                have HS6 := Lib.hid hfin
                have hc6 := (HS6.out.low.cell (p := ⟨g, off + j, none⟩) HG.out).trans HC.out
                have hx6 := cell_of (HS6.out.own (.head _)) 0 _ rfl
                have hy6 := cell_of (HS6.out.own (.head _)) 1 _ rfl
                have HC6 := Lib.hid (And.intro hc6 (And.intro hx6 hy6))
                clear hfin hc6 hx6 hy6
                clear hS6 hcj hb0 hb1 hlk
                refine wp_region_held_drew (S := fun w' => w'.cell? ⟨g, off + j, none⟩ = some (.string s) ∧ w'.cell? ⟨w2.heap.size, 0, none⟩ = some (.int .u8 4) ∧ w'.cell? ⟨w2.heap.size, 1, none⟩ = some (.int .i64 ((ix : Int) + 1))) mixed ⟨hc5, hx5, hy5⟩ (fun hS => ?_)
                refine wpAnyH_take (i := 0) (v := ?vb0) rfl (by kernel_rfl) (by kernel_rfl) (by kernel_rfl) (fun _ _ _ h => h) (.inl ⟨by rfl, ?hb0⟩) hS ?rb0
                case hb0 =>
                  intro w' hs
                  (try dsimp only at hs)
                  go_split_ands
                  go_simp
                  try with_reducible rfl
                simp only [List.getElem_toArray, List.getElem_cons_zero, Act.put, List.setIfInBounds_toArray, List.set_cons_zero, List.set_cons_succ]
                refine wpAnyH_take (i := 1) (v := ?vb1) rfl (by kernel_rfl) (by kernel_rfl) (by kernel_rfl) (fun _ _ _ h => h) (.inl ⟨by rfl, ?hb1⟩) hS ?rb1
                case hb1 =>
                  intro w' hs
                  (try dsimp only at hs)
                  go_split_ands
                  go_simp
                  try with_reducible rfl
                simp only [List.getElem_toArray, List.getElem_cons_succ, List.getElem_cons_zero, Act.put, List.setIfInBounds_toArray, List.set_cons_zero, List.set_cons_succ]
                refine wpAnyH_take (i := 2) (v := ?vb2) rfl (by kernel_rfl) (by kernel_rfl) (by kernel_rfl) (fun _ _ _ h => h) (.inl ⟨by rfl, ?hb2⟩) hS ?rb2
                case hb2 =>
                  intro w' hs
                  (try dsimp only at hs)
                  go_split_ands
                  go_simp
                  try with_reducible rfl
                simp only [List.getElem_toArray, List.getElem_cons_succ, List.getElem_cons_zero, Act.put, List.setIfInBounds_toArray, List.set_cons_zero, List.set_cons_succ]
                refine wpAnyH_take (i := 3) (v := ?vb3) rfl (by kernel_rfl) (by kernel_rfl) (by kernel_rfl) (fun _ _ _ h => h) (.inl ⟨by rfl, ?hb3⟩) hS ?rb3
                case hb3 =>
                  intro w' hs
                  (try dsimp only at hs)
                  go_split_ands
                  go_simp
                  try with_reducible rfl
                simp only [List.getElem_toArray, List.getElem_cons_succ, List.getElem_cons_zero, Act.put, List.setIfInBounds_toArray, List.set_cons_zero, List.set_cons_succ]
                refine wpAnyH_take (i := 4) (v := ?vb4) rfl (by kernel_rfl) (by kernel_rfl) (by kernel_rfl) (fun _ _ _ h => h) (.inl ⟨by rfl, ?hb4⟩) hS ?rb4
                case hb4 =>
                  intro w' hs
                  (try dsimp only at hs)
                  go_split_ands
                  go_simp
                  try with_reducible rfl
                simp only [List.getElem_toArray, List.getElem_cons_succ, List.getElem_cons_zero, Act.put, List.setIfInBounds_toArray, List.set_cons_zero, List.set_cons_succ]
                refine wpAnyH_take (i := 5) (v := ?vb5) rfl (by kernel_rfl) (by kernel_rfl) (by kernel_rfl) (fun _ _ _ h => h) (.inl ⟨by rfl, ?hb5⟩) hS ?rb5
                case hb5 =>
                  intro w' hs
                  (try dsimp only at hs)
                  go_split_ands
                  go_simp
                  try with_reducible rfl
                simp only [List.getElem_toArray, List.getElem_cons_succ, List.getElem_cons_zero, Act.put, List.setIfInBounds_toArray, List.set_cons_zero, List.set_cons_succ]
                refine wpAnyH_ready (rs := [6]) (by kernel_rfl) (by simp) (AllReadyH.cons rfl (fun K hK => ?_) AllReadyH.nil)
                go_simp
                go_wp2_with fail
                refine hK.out _ _ HC6.out (fun hS => ?_)
                clear hK
                refine wpAnyH_done (by kernel_rfl) ?_ _
                clear hS
                go_wp2_with fail
                go_roundg (min 40 l.length - (j + 1))
                case measure => have := HJ.out; omega
                case rel =>
                  have hj1 := HJ.out
                  exact ⟨j + 1, addT T2 s, N2 + 1, rfl, by go_num, by omega, by omega, HT3.out, HS6.out.fewer (fun p hp => by cases hp)⟩
            · have hsz' : (1000 : Int) < (s.size : Int) := by omega
              go_wp2_with fail
              go_roundg (min 40 l.length - (j + 1))
              case measure => have := HJ.out; omega
              case rel =>
                have hj1 := HJ.out
                exact ⟨j + 1, T2, N2, rfl, by go_num, by omega, by omega, HT2.out, HS2.out⟩
          · have hnx : ¬ (j : Int) < 40 := by omega
            have hjl' : (j : Int) < (l.length : Int) := by omega
            go_wp2_with fail
            go_roundg (2 - (k + 1))
            case measure => omega
            case rel =>
              have hj1 := HJ.out
              exact ⟨k + 1, T2, N2, rfl, by go_num, by omega, by omega, HT2.out, HS2.out⟩
        · have hnx : ¬ (j : Int) < (l.length : Int) := by omega
          go_wp2_with fail
          go_roundg (2 - (k + 1))
          case measure => omega
          case rel =>
            have hj1 := HJ.out
            exact ⟨k + 1, T2, N2, rfl, by go_num, by omega, by omega, HT2.out, HS2.out⟩
    · have hnl : ¬ (k : Int) < 2 := by omega
      have HS1 := Lib.hid hS
      have HT1 := Lib.hid hT
      clear hS hT
      have hr1 : (wr.alloc (.map #[] 0)).heap.size = wr.heap.size + 1 := by simp
      have HSA := Lib.hid (HS1.out.alloc H (.map #[] 0))
      have HMN := Lib.hid (nmap_new 2)
      have HNE := Lib.hid (Nat.ne_of_lt HS1.out.lt)
      have HNB := Lib.hid HS1.out.low.size
      go_wp2_with (first | (at_range; refine wpList_range_num H HSA.out HMN.out HNE.out HNB.out (fun p hp => by cases hp) rfl _ rfl rfl ?_; intro w3 hn3 hs3) | fail)
      rw [hr1] at hn3
      have HN3 := Lib.hid hn3
      clear hn3 hr1 hs3 HSA HMN HNE HNB HS1 HS
      generalize wr.heap.size = nb at *
      go_loopg [97] T.length (fun r _ wr => ∃ (cnt N : Nat) (fn : Int → Bool) (left : ByteArray → Bool), r = cnt ∧ N + cnt ≤ 40 ∧ NumS HP w b mb nb (nb + 1) T N fn left cnt [] wr)
      case atStart => exact ⟨_, 0, _, _, rfl, by have := HT1.out.len; omega, HN3.out⟩
      case round =>
        obtain ⟨cnt, N2, fn, left, rfl, hN2, hS2⟩ := hrel
        have HS2 := Lib.hid hS2
        clear hS2
        go_wp2_with (first | (at_next; refine wpList_next_num H HS2.out rfl _ rfl rfl ?_ ?_) | fail)
        · obtain ⟨Ns, hd⟩ := HS2.out.done
          have HD := Lib.hid hd
          clear hd
          go_wp2_with fail
          refine (HD.out.objects H).mono ?_
          rintro e w7 ⟨ao7, cap7, rfl, h7⟩
          have hln := h7.len 3
          have H7 := Lib.hid h7
          clear h7
          go_wp2_with fail
          refine (awake_fn HP H w7).mono ?_
          rintro e w8 ⟨rfl, b8⟩
          have H8 := Lib.hid (H7.out.low.trans (b8.mono H7.out.low.size))
          clear b8
          go_wp2_with fail
          go_ret
          exact ⟨rfl, H8.out⟩
        · intro s u w4 cnt' hsn hui hfn hn4 hlt4 hsz4 hen
          have hn5 := hn4.alloc H (.cells #[.int .u8 (u.kind : Int), .int .i64 u.n] 31)
          have hlk := hn5.look u.n hui.2
          rw [hfn] at hlk
          obtain ⟨w6, hst, hS6, hsz6⟩ := hn5.store H (by omega) u hui s hsn (by simp)
          have HS6 := Lib.hid hS6
          clear hS6 hn4 hn5 hfn
          go_wp2_with fail
          go_roundg cnt'
          case measure => omega
          case rel => exact ⟨cnt', N2 + 1, _, _, rfl, by omega, HS6.out⟩
end Go.Proofs.Ythejclgihhfenaa.Hp

/-
  The same bytes are the same text: the law HeapTexts returns true for every row of texts. No condition.
-/
namespace Go.Proofs.Ythejclgihhfenaa.heapTexts
open Go.ChangeShapes Go.WideShapes Go.ChangeAt Go.RowKit Go.Deep
open Go.Proofs.Ythejclgihhfenaa.Pl Go.Proofs.Ythejclgihhfenaa.Tb Go.Proofs.Ythejclgihhfenaa.Hp

theorem own : ownKnob Try.prog.godebug = none := by kernel_rfl
theorem laidOut : laidOutB Try.prog = true := by kernel_rfl

set_option maxRecDepth 100000 in
theorem lifted (HP : HeapP) (HS : HeapSays HP) (os : Os) (started : os.Started) (H : Type) (enc : TypeId × Value → H) :
    ReturnsInHanded {} Try.checked os 4 .any (Rows.heapTextsSpec.pre6 enc Try.prog Try.f4 Rows.heapTextsRow.domain false) (Rows.heapTextsSpec.post enc Try.prog Try.f4 false true false false) := by
  refine returnsInHanded_of_change (C := Try.checked) own started (by kernel_rfl) Try.func4
    (ChangeSpec.witness6 (enc := enc) (C := Try.checked) false ⟨#[], #[.slice none 0 0], []⟩ 8 (by kernel_rfl) (by kernel_rfl) (by kernel_rfl) (by kernel_rfl)) ?_
  intro W base args ds gs before hval0 hW _ hsz0
  have hval : ∀ (j : Nat) t v, Try.f4.params[j]? = some t → args[j]? = some v → Value.okWide Try.prog W .any base t v := hval0
  have hW' := hW
  obtain ⟨p, q, hA0, hV, rfl, hfz, hnd⟩ := hW
  have hA : DataW.TrodAll enc Try.prog W 0 (fun _ => true) true Try.f4.params.toList args.toList ds p := hA0
  rw [Try.params4] at hA hval
  obtain ⟨v0, vs0, d0, ds0, p0, q0, hargs, rfl, rfl, h0, r0⟩ := trodAll_cons hA
  obtain ⟨rfl, rfl, rfl⟩ := trodAll_nil r0
  obtain rfl : args = #[v0] := by cases args; simp_all
  obtain ⟨rfl, rfl⟩ := trodVars_none hV
  obtain ⟨a0, len0, cap0, rfl⟩ := okWide_slice Try.underlying50 (hval 0 50 v0 rfl rfl)
  have h0k := h0
  obtain ⟨fuel0, hf0⟩ := h0
  obtain ⟨l, ao, cap, hv, hl⟩ := texts_lie hf0
  injection hv with hv1 hv2 hv3
  subst hv1 hv2 hv3
  clear hA0 hval0 hsz0 hval
  simp only [List.append_nil] at hW'
  have hlt : ∀ x ∈ p0, x.block < W.heap.size := fun x hx => by simpa using hW'.lt x (by simpa using hx)
  have hback0 : ∀ (W' : World), Below W.heap.size W W' → DataW.Trod enc Try.prog W' 0 (fun b => decide (b < W.heap.size)) true 50 _ d0 p0 :=
    fun W' hn => Below.trod laidOut (by kernel_rfl) (of_decide_eq_true (by kernel_rfl)) h0k hn hlt
  refine (texts_walk HP HS l a0 cap0 W hl).mono fun e W' ⟨he, hg⟩ => ?_
  subst he
  exact ⟨_, rfl, _, _, _, [], _, [], hW', (trodAll_cons_mk (shut_bool Try.underlying4 _) trodAll_mk0), (trodAll_cons_mk (hback0 _ hg) trodAll_mk0), rfl, hg.frame _, fun h => by cases h⟩

theorem over (HP : HeapP) (HS : HeapSays HP) : Rows.heapTextsRow.holds Try.pinned (OpenSpec.ofChange Rows.heapTextsSpec) :=
  OpenClaim.holds_of_wide 4 Try.f4 rfl rfl rfl rfl rfl rfl rfl ⟨rfl, rfl, rfl, rfl, rfl⟩ rfl rfl rfl rfl rfl (by kernel_rfl) Try.func4 (by kernel_rfl)
    (of_decide_eq_true (by kernel_rfl)) (by unfold Func.isWrapper; first | (rw [if_pos (by decide +kernel)]; kernel_rfl) | (rw [if_neg (by decide +kernel)]; exact ⟨rfl, rfl⟩))
    (fun os started H enc _ => lifted HP HS os started H enc)
end Go.Proofs.Ythejclgihhfenaa.heapTexts
