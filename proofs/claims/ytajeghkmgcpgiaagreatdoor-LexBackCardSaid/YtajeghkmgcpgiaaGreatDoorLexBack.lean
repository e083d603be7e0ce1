/-
  LexBack.
-/
import Derived.Test.YtajeghkmgcpgiaaGreatDoorLexBw
import Derived.Test.YtajeghkmgcpgiaaGreatDoorLexAwake
namespace Go.Proofs.YtajeghkmgcpgiaaGreatDoor.Lex
open Go.RowKit

/-- A slice of whole numbers, as it came in. -/
def IntsAt (w : World) (v : Value) (zs : List Int) : Prop :=
  ∃ ao cap, v = .slice ao zs.length cap ∧ zs.length ≤ 9223372036854775807 ∧ (zs ≠ [] → ∃ g off, g < w.heap.size ∧ ao = some ⟨g, off, none⟩ ∧ ∀ (j : Nat) (h : j < zs.length), w.cell? ⟨g, off + j, none⟩ = some (.int .i64 zs[j]))
def gapN (zs : List Int) (i : Nat) : Nat := if h : zs.length = 0 then 0 else ((zs[i % zs.length]'(Nat.mod_lt _ (Nat.pos_of_ne_zero h))) % 8).toNat
theorem gapN_lt (zs : List Int) (i : Nat) : gapN zs i < 8 := by unfold gapN; split <;> omega
theorem gapN_at {zs : List Int} (i : Nat) (h : zs.length ≠ 0) : gapN zs i = ((zs[i % zs.length]'(Nat.mod_lt _ (Nat.pos_of_ne_zero h))) % 8).toNat := by unfold gapN; rw [dif_neg h]
theorem gap_small : ∀ k (h : k < 8), (gapsT[k]'h).size ≤ 12 := by decide
theorem fit_all {ts : List Tok} {ln : Nat} (h : ∀ t ∈ ts, Fit t) : ∀ t ∈ ts ++ [(⟨6, ⟨#[]⟩, 0, ln⟩ : Tok)], t.s.size ≤ 20000 ∧ Num.In64 t.n := by
  intro t ht
  rcases List.mem_append.1 ht with ht | ht
  · have hf := h t ht
    refine ⟨hf.small, ?_⟩
    rcases hf.is with ⟨_, h2, _⟩ | ⟨_, h2, _⟩ | ⟨_, _, h3⟩ | ⟨_, h2⟩
    · rw [h2]; exact zero_in
    · rw [h2]; exact zero_in
    · exact h3
    · rw [h2]; exact zero_in
  · rw [List.mem_singleton.1 ht]
    exact ⟨Nat.zero_le _, zero_in⟩
theorem bld_step {zs : List Int} {l : List Tok} {k : Nat} {T S : List UInt8} (h : k < l.length) (hS : T ++ bld (gapN zs) k (l.drop k) = S) :
    (T ++ wrt (l[k]'h) ++ (gapsT[gapN zs k]'(gapN_lt zs k)).data.toList) ++ bld (gapN zs) (k + 1) (l.drop (k + 1)) = S := by
  rw [List.drop_eq_getElem_cons h, bld] at hS
  have e : gapOf (gapN zs k) = (gapsT[gapN zs k]'(gapN_lt zs k)).data.toList := by
    unfold gapOf
    rw [List.getD_eq_getElem?_getD, List.getElem?_eq_getElem (show gapN zs k < gapsT.length from gapN_lt zs k)]; rfl
  rw [← hS, e, List.append_assoc, List.append_assoc]
theorem key_len {a b : List Tok} (h : a.map key = b.map key) : a.length = b.length := by
  have := congrArg List.length h
  rwa [List.length_map, List.length_map] at this
theorem cat_three (a b c : ByteArray) : (a ++ b ++ c).data.toList = a.data.toList ++ b.data.toList ++ c.data.toList := by simp
def gapCells : Array Value := #[.string ⟨#[32]⟩, .string ⟨#[10]⟩, .string ⟨#[9, 32, 9]⟩, .string ⟨#[32, 45, 45, 120, 10]⟩, .string ⟨#[32, 45, 45, 91, 91, 32, 93, 93, 32]⟩, .string ⟨#[13, 10]⟩, .string ⟨#[32, 45, 45, 91, 61, 91, 10, 93, 93, 93, 61, 93]⟩, .string ⟨#[11, 12]⟩]
theorem gap_cell (w : World) (k : Nat) (h : k < 8) : (w.alloc (.cells #[.string ⟨#[32]⟩, .string ⟨#[10]⟩, .string ⟨#[9, 32, 9]⟩, .string ⟨#[32, 45, 45, 120, 10]⟩, .string ⟨#[32, 45, 45, 91, 91, 32, 93, 93, 32]⟩, .string ⟨#[13, 10]⟩, .string ⟨#[32, 45, 45, 91, 61, 91, 10, 93, 93, 93, 61, 93]⟩, .string ⟨#[11, 12]⟩] 9)).cell? ⟨w.heap.size, k, none⟩ = some (.string (gapsT[k]'h)) :=
  (texts_new w gapsT 9 _ rfl).2 k h

set_option maxHeartbeats 8000000 in
set_option maxRecDepth 100000 in
theorem lexBack_walk (s : ByteArray) (bv : Value) (zs : List Int) (w : World) (hB : IntsAt w bv zs) (hV : LVars w) :
    Calls Tryz.prog 5 #[.string s, bv] w fun e w' => e = .returned (.bool true) ∧ Below w.heap.size w w' := by
  have HV := Lib.hid hV
  clear hV
  obtain ⟨bo, bc, rfl, hbl, hbz⟩ := hB
  by_cases h4 : (3000 : Int) < s.size
  · clear hbz
    go_enter Tryz.func5, Tryz.ntmps5
    go_wp2_with fail
    refine (awake_lex _ HV.out).mono ?_
    rintro e w1 ⟨rfl, b1⟩
    go_wp2
    go_ret
    exact ⟨rfl, b1⟩
  have hm := fault_guard
  have c1 := own_tokens s w HV.out
  rcases tokens_parts s.data.toList (by show s.size ≤ 3000; omega) with ⟨ts, ln, ht, hfit, hlen⟩ | ⟨x, n, ht, hx⟩
  · rw [ht] at c1
    unfold ToksSays at c1
    dsimp only at c1
    have hall := fit_all (ln := ln) hfit
    have hback := back_read (gapN zs) (gapN_lt zs) ln ts hfit
    have hL : (ts ++ [(⟨6, ⟨#[]⟩, 0, ln⟩ : Tok)]).length ≤ 3001 := by
      rw [List.length_append, List.length_singleton]
      have : s.data.toList.length = s.size := rfl
      omega
    generalize ts ++ [(⟨6, ⟨#[]⟩, 0, ln⟩ : Tok)] = l at *
    clear hfit ht hlen ts
    have HALL := Lib.hid hall
    have HBK := Lib.hid hback
    clear hall hback
    have hq0 := fun w => neq_fault 0 0 0 0 w
    rw [show (!decide ((0 : Int) = 0 ∧ (0 : Int) = 0)) = false from rfl] at hq0
    obtain ⟨n, hna⟩ : ∃ n, n = l.length := ⟨_, rfl⟩
    rw [← hna] at hL
    have HNA := Lib.hid hna
    clear hna
    go_enter Tryz.func5, Tryz.ntmps5
    go_wp2_with fail
    refine c1.mono ?_
    rintro e w1 ⟨v, rfl, hv, hb⟩
    have hnew := (Below.refl w1.heap.size w1).alloc (Nat.le_refl _) (.cells #[.int .i64 0, .int .i64 0] 33)
    have hv2 := hv.below hnew
    have HB2 := Lib.hid (trans_below hb hnew)
    have k0 := cell_of_heap4 (heap_new w1 (.cells #[.int .i64 0, .int .i64 0] 33)) 0 (.int .i64 0) rfl
    have k1 := cell_of_heap4 (heap_new w1 (.cells #[.int .i64 0, .int .i64 0] 33)) 1 (.int .i64 0) rfl
    obtain ⟨ao, ca, rfl, hca⟩ := hv2
    rw [← HNA.out]
    clear hv hb hnew c1
    go_wp2_with fail
    generalize (w1.alloc (.cells #[.int .i64 0, .int .i64 0] 33)) = w2 at *
    clear k0 k1
    obtain ⟨S, hS⟩ : ∃ S, S = bld (gapN zs) 0 l := ⟨_, rfl⟩
    have HSS := Lib.hid hS
    go_loopg [7, 8] n (fun r a i wr => ∃ (k : Nat) (T : ByteArray), r = n - k ∧ a = .string T ∧ i = .int .i64 (k : Int) ∧ k ≤ n ∧ T.data.toList ++ bld (gapN zs) k (l.drop k) = S ∧ T.size ≤ k * 80030 ∧ Below w2.heap.size w2 wr)
    case atStart => exact ⟨0, ⟨#[]⟩, rfl, rfl, rfl, Nat.zero_le _, by rw [hS]; rfl, Nat.zero_le _, Below.refl _ _⟩
    case round =>
      clear hS
      obtain ⟨k, T, rfl, rfl, rfl, hk, hT, hTs, hbw⟩ := hrel
      have HBW := Lib.hid hbw
      by_cases hlt : k < n
      · have hlt' : (k : Int) < n := by omega
        have hlta : k < l.length := by have := HNA.out; omega
        obtain ⟨g1, hg1, rfl, hc⟩ := hca (fun h => by rw [h] at hlta; cases hlta)
        obtain ⟨c0, c1, c2, c3⟩ := hc k hlta
        have hb3 := hbw.alloc hbw.size (.cells #[.string ⟨#[32]⟩, .string ⟨#[10]⟩, .string ⟨#[9, 32, 9]⟩, .string ⟨#[32, 45, 45, 120, 10]⟩, .string ⟨#[32, 45, 45, 91, 91, 32, 93, 93, 32]⟩, .string ⟨#[13, 10]⟩, .string ⟨#[32, 45, 45, 91, 61, 91, 10, 93, 93, 93, 61, 93]⟩, .string ⟨#[11, 12]⟩] 9)
        rw [← hb3.cell (p := ⟨g1, _, none⟩) hg1] at c0 c1 c2 c3
        have hstep := bld_step hlta hT
        obtain ⟨ha1, ha2⟩ := HALL.out _ (List.getElem_mem hlta)
        have hws := wrt_small ha1 ha2
        have hgk := gapN_lt zs k
        have hgs := gap_small _ hgk
        have cg := gap_cell wr _ hgk
        have cw := fun w hV => law_written (l[k]'hlta) w ha1 ha2 hV
        have hat := gapN_at (zs := zs) k
        generalize gapsT[gapN zs k]'hgk = gp at *
        generalize l[k]'hlta = t at *
        have hW : (⟨(wrt t).toArray⟩ : ByteArray).data.toList = wrt t := rfl
        have hWs : (⟨(wrt t).toArray⟩ : ByteArray).size = (wrt t).length := rfl
        rw [← hW, ← cat_three] at hstep
        generalize (⟨(wrt t).toArray⟩ : ByteArray) = W at *
        have a1 := fun w => run_string_add_sum (P := Tryz.prog) (w := w) T W (by omega)
        have a2 := fun w => run_string_add_sum (P := Tryz.prog) (w := w) (T ++ W) gp (by rw [ByteArray.size_append]; omega)
        have hsz : (T ++ W ++ gp).size ≤ (k + 1) * 80030 := by rw [ByteArray.size_append, ByteArray.size_append]; omega
        generalize T ++ W ++ gp = T2 at *
        generalize T ++ W = T1 at *
        have HST := Lib.hid hstep
        have HSZ := Lib.hid hsz
        have HB3 := Lib.hid hb3
        have e0 := IntWalk.i64_in k (by omega)
        by_cases hz : zs.length = 0
        · have hgz : gapN zs k = 0 := by unfold gapN; rw [dif_pos hz]
          rw [hgz] at cg
          have hz0 : ¬ (0 : Int) < (zs.length : Int) := by omega
          clear hbz hat hc hca hb3 hbw hT hstep hsz hgz hgk hgs hws hW hWs ha1 ha2 hz
          go_wp2_with fail
          refine (cw _ (HV.out.below (trans_below HB2.out HB3.out))).mono ?_
          rintro e w4 ⟨rfl, b4⟩
          have HB4 := Lib.hid (trans_below HB3.out b4)
          clear b4 c0 c1 c2 c3 cg
          go_wp2_with fail
          go_roundg (n - (k + 1))
          case measure => omega
          case rel => exact ⟨k + 1, T2, rfl, rfl, by go_num, by omega, HST.out, HSZ.out, HB4.out⟩
        · have hz0 : (0 : Int) < (zs.length : Int) := by omega
          obtain ⟨g0, off, hg0, rfl, hzc⟩ := hbz (fun h => hz (by rw [h]; rfl))
          obtain ⟨j, hj⟩ : ∃ j, j = k % zs.length := ⟨_, rfl⟩
          have hjl : j < zs.length := by rw [hj]; exact Nat.mod_lt _ (by omega)
          have cz := hzc j hjl
          rw [← (trans_below HB2.out hbw).cell (p := ⟨g0, _, none⟩) hg0] at cz
          replace hat := hat hz
          simp only [← hj] at hat
          generalize zs[j]'hjl = zz at *
          generalize gapN zs k = gk at *
          have hand : bits .and .i64 zz 7 = (gk : Int) := by rw [i64_and7]; omega
          have hrem : (k : Int).tmod (zs.length : Int) = (j : Int) := by
            rw [Int.tmod_eq_emod_of_nonneg (by omega), hj]; omega
          have hgk' : (gk : Int) < 8 := by omega
          have hj' : (j : Int) < (zs.length : Int) := by omega
          have hne : ((zs.length : Int) == 0) = false := by rw [beq_eq_false_iff_ne]; omega
          have e1 := IntWalk.i64_in j (by omega)
          clear hat hzc hc hca hb3 hbw hT hstep hsz hgs hws hW hWs ha1 ha2 hbz hj hz
          generalize zs.length = nz at *
          go_wp2_with fail
          refine (cw _ (HV.out.below (trans_below HB2.out HB3.out))).mono ?_
          rintro e w4 ⟨rfl, b4⟩
          have HB4 := Lib.hid (trans_below HB3.out b4)
          clear b4 c0 c1 c2 c3 cg
          go_wp2_with fail
          go_roundg (n - (k + 1))
          case measure => omega
          case rel => exact ⟨k + 1, T2, rfl, rfl, by go_num, by omega, HST.out, HSZ.out, HB4.out⟩
      · obtain rfl : k = n := by omega
        have hdn : l.drop k = [] := List.drop_of_length_le (by have := HNA.out; omega)
        rw [hdn, bld, List.append_nil] at hT
        have hTz : T.data.toList.length = T.size := rfl
        clear hbz hdn
        by_cases hbig : 65535 < T.size
        · have hbig' : (65535 : Int) < T.size := by omega
          clear hT hca hbw hTz
          go_wp2_with fail
          refine (awake_lex _ (HV.out.below (trans_below HB2.out HBW.out))).mono ?_
          rintro e w4 ⟨rfl, b4⟩
          have HB4 := Lib.hid (trans_below (trans_below HB2.out HBW.out) b4)
          clear b4
          go_wp2_with fail
          go_ret
          exact ⟨rfl, HB4.out⟩
        · have hbig' : ¬ (65535 : Int) < T.size := by omega
          obtain ⟨m, hm1, hm2⟩ := HBK.out (by rw [← HSS.out, ← hT, hTz]; omega)
          rw [← HSS.out, ← hT] at hm1
          have hml := key_len hm2
          have hpl := pl_same hm2
          rw [← HNA.out] at hml
          have c4 := own_tokens T wr (HV.out.below (trans_below HB2.out hbw))
          rw [hm1] at c4
          unfold ToksSays at c4
          dsimp only at c4
          have V1 := Lib.hid (show TokReads wr (.slice ao k ca) l from TokReads.below (w := w2) ⟨ao, ca, by rw [HNA.out], hca⟩ hbw)
          have hl6 : l.length ≤ 1000000 := by have := HNA.out; omega
          have hm6 : m.length ≤ 1000000 := by omega
          have HPL := Lib.hid hpl
          clear hm1 hm2 hpl hT hTz hca
          go_wp2_with fail
          refine c4.mono ?_
          rintro e w5 ⟨v5, rfl, hv5, b5⟩
          have hnew5 := (Below.refl w5.heap.size w5).alloc (Nat.le_refl _) (.cells #[.int .i64 0, .int .i64 0] 33)
          have HB6 := Lib.hid (trans_below HBW.out (trans_below b5 hnew5))
          have V6 := Lib.hid (V1.out.below (trans_below b5 hnew5))
          have U6 := Lib.hid (hv5.below hnew5)
          have k0 := cell_of_heap4 (heap_new w5 (.cells #[.int .i64 0, .int .i64 0] 33)) 0 (.int .i64 0) rfl
          have k1 := cell_of_heap4 (heap_new w5 (.cells #[.int .i64 0, .int .i64 0] 33)) 1 (.int .i64 0) rfl
          obtain ⟨mo, mc, rfl, _⟩ := hv5
          rw [hml] at U6
          rw [hml]
          clear b5 hnew5 c4 hbw
          go_wp2_with fail
          refine (law_plain _ l _ V6.out hl6).mono ?_
          rintro e w7 ⟨va, rfl, hva, b7⟩
          have HB7 := Lib.hid (trans_below HB6.out b7)
          have U7 := Lib.hid (U6.out.below b7)
          have VA := Lib.hid hva
          clear hva b7 k0 k1
          go_wp2_with fail
          refine (law_plain _ m _ U7.out hm6).mono ?_
          rintro e w8 ⟨vb, rfl, hvb, b8⟩
          have HB8 := Lib.hid (trans_below HB7.out b8)
          have hva := VA.out.below b8
          rw [HPL.out] at hvb
          obtain ⟨a1, a1c, rfl, ha⟩ := hva
          obtain ⟨b1, b1c, rfl, hb⟩ := hvb
          have hAl : (l.map pl).length = k := by rw [List.length_map]; exact HNA.out.symm
          generalize l.map pl = A at *
          have HAL := Lib.hid hAl
          rw [hAl]
          clear hAl b8 VA U7 U6 V6 V1 HB7 HB6 hml
          go_wp2_with fail
          go_loopg [15] k (fun r i wq => ∃ j : Nat, r = k - j ∧ i = .int .i64 (j : Int) ∧ j ≤ k ∧ Below w8.heap.size w8 wq)
          case atStart => exact ⟨0, rfl, rfl, Nat.zero_le _, Below.refl _ _⟩
          case round =>
            obtain ⟨j, rfl, rfl, hj, hbq⟩ := hrel
            have HBQ := Lib.hid hbq
            by_cases hjl : j < k
            · have hjl' : (j : Int) < k := by omega
              have hja : j < A.length := by have := HAL.out; omega
              obtain ⟨g1, hg1, rfl, hc⟩ := ha (fun h => by rw [h] at hja; cases hja)
              obtain ⟨g2, hg2, rfl, hd⟩ := hb (fun h => by rw [h] at hja; cases hja)
              obtain ⟨c0, c1, c2, c3⟩ := hc j hja
              obtain ⟨d0, d1, d2, d3⟩ := hd j hja
              rw [← hbq.cell (p := ⟨g1, _, none⟩) hg1] at c0 c1 c2 c3
              rw [← hbq.cell (p := ⟨g2, _, none⟩) hg2] at d0 d1 d2 d3
              generalize A[j] = t at *
              have e0 := IntWalk.i64_in j (by omega)
              have hmt := tok_guard
              have hq : ∀ w, (binOp .neq 25 (.agg #[.int .u8 t.k, .string t.s, .int .i64 t.n, .int .i64 t.line]) (.agg #[.int .u8 t.k, .string t.s, .int .i64 t.n, .int .i64 t.line])).run Tryz.prog w = .ok (.bool false) w := fun w => by rw [neq_tok]; simp
              clear ha hb hc hd hbq
              go_wp2_with fail
              go_quiet (fail)
              have HBQ2 := Lib.hid (below_drewN HBQ.out nq)
              clear hmt hq e0 c0 c1 c2 c3 d0 d1 d2 d3
              go_wp2_with fail
              go_roundg (k - (j + 1))
              case measure => omega
              case rel => exact ⟨j + 1, rfl, by go_num, by omega, HBQ2.out⟩
            · have hjl' : ¬ (j : Int) < k := by omega
              clear ha hb hbq
              go_wp2_with fail
              refine (awake_lex _ (HV.out.below (trans_below HB2.out (trans_below HB8.out HBQ.out)))).mono ?_
              rintro e w9 ⟨rfl, b9⟩
              have HB9 := Lib.hid (trans_below (trans_below HB2.out (trans_below HB8.out HBQ.out)) b9)
              clear b9
              go_wp2_with fail
              go_ret
              exact ⟨rfl, HB9.out⟩
  · rw [ht] at c1
    unfold ToksSays at c1
    dsimp only at c1
    have hq := fun w => neq_fault x n 0 0 w
    rw [show (!decide ((x : Int) = 0 ∧ (n : Int) = 0)) = true from by rw [decide_eq_false (fun h => hx (by omega))]; rfl] at hq
    clear ht hx hbz
    go_enter Tryz.func5, Tryz.ntmps5
    go_wp2_with fail
    refine c1.mono ?_
    rintro e w1 ⟨v, rfl, ⟨ao, ca, rfl, _⟩, hb⟩
    have HB1 := Lib.hid (hb.alloc hb.size (.cells #[.int .i64 x, .int .i64 n] 33))
    have k0 := cell_of_heap4 (heap_new w1 (.cells #[.int .i64 x, .int .i64 n] 33)) 0 (.int .i64 x) rfl
    have k1 := cell_of_heap4 (heap_new w1 (.cells #[.int .i64 x, .int .i64 n] 33)) 1 (.int .i64 n) rfl
    clear hb c1
    go_wp2_with fail
    refine (awake_lex _ (HV.out.below HB1.out)).mono ?_
    rintro e w2 ⟨rfl, b2⟩
    have HB2 := Lib.hid (trans_below HB1.out b2)
    clear b2
    go_wp2_with fail
    go_ret
    exact ⟨rfl, HB2.out⟩

end Go.Proofs.YtajeghkmgcpgiaaGreatDoor.Lex
