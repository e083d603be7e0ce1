/-
  A part of the proof.
-/
import Derived.Laws.MakeOwn
import Derived.Lib.Hide
import Derived.Test.YtnkejjlidgnkkaaGreatDoorClRZH
set_option maxRecDepth 100000
set_option maxHeartbeats 40000000
namespace Go.Proofs.YtnkejjlidgnkkaaGreatDoor.Nd

open Go.Lib renaming hid → qh
open Go Go.RowKit Go.ChangeShapes Go.WideShapes Go.Shelf
abbrev Bl (w : World) (g : Nat) (f : List Bool) : Prop := w.heap[g]? = some (.cells ((f.map Value.bool).toArray) 4 (0, 0))
theorem Bl.at {w : World} {g : Nat} {f : List Bool} (h : Bl w g f) {j : Nat} (hj : j < f.length) : w.cell? ⟨g, j, none⟩ = some (.bool (f.getD j false)) := by
 refine cell_of h j _ ?_;rw [List.getD_eq_getElem?_getD, List.getElem?_eq_getElem hj];simp [hj]
theorem Bl.set {w : World} {g : Nat} {f : List Bool} (h : Bl w g f) (j : Nat) (b : Bool) : Bl (w.setCell ⟨g, j, none⟩ (.bool b)) g (f.set j b) := by
 have := Joins.block_setCell (i := j) h (.bool b);unfold Bl;rw [this]
 congr 2
 simp [List.map_set]
theorem index_b (g n : Nat) (f : List Bool) (w : World) (h : Bl w g f) (hn : n = f.length) (hl : n <= 1000000000) :
  Calls Tryz.prog 102 #[.slice (some ⟨g, 0, none⟩) n n, .bool false] w fun e w' => (∃ i : Int, e = .returned (.int .i64 i) /\ (0 <= i ↔ false ∈ f) /\ -1 <= i /\ i <= 1000000000) /\ w = w' := by
 have HK := qh h;have HN := qh hn;clear hn h;go_enter Tryz.func102, Tryz.ntmps102;go_wp2_with fail;go_loopg [8] n (fun r i wr => ∃ k : Nat, r = n - k /\ i = .int .i64 (k : Int) /\ k <= n /\ wr = w /\ ∀ i (hi : i < k), f.getD i false = true)
 case atStart => exact ⟨0, rfl, rfl, Nat.zero_le _, rfl, fun i hi => absurd hi (by omega)⟩
 case round =>
  obtain ⟨k, rfl, rfl, hk, rfl, hno⟩ := hrel;have HNO := qh hno;clear hno;by_cases hlt : k < n
  ·have hkl : k < f.length := by have := HN.out; omega
   have hcell := HK.out.at hkl;obtain ⟨y, hy⟩ : ∃ y, f.getD k false = y := ⟨_, rfl⟩;rw [hy] at hcell;have HY := qh hy;clear hy;have hlt' : (k : Int) < n := by omega
   cases y with
   | false =>
    go_wp2_with fail;go_ret;refine ⟨⟨_, rfl, ⟨fun _ => ?_, fun _ => by omega⟩, by omega, by omega⟩, rfl⟩;have := HY.out;rw [List.getD_eq_getElem?_getD, List.getElem?_eq_getElem hkl] at this;have e : f[k] = false := this;rw [<- e];exact List.getElem_mem hkl
   | true =>
    go_wp2_with fail;go_roundg (n - (k + 1))
    case measure => omega
    case rel => exact ⟨k + 1, rfl, by go_num, by omega, rfl, fun i hi => by
     rcases Nat.lt_or_ge i k with h1 | h1
     ·exact HNO.out i h1
     ·obtain rfl : i = k := by omega
      exact HY.out⟩
  ·obtain rfl : k = n := by omega
   have hlt' : ¬ (k : Int) < k := by omega
   go_wp2_with fail;go_ret;refine ⟨⟨-1, rfl, ⟨fun h => absurd h (by omega), fun hm => ?_⟩, by omega, by omega⟩, rfl⟩
   exfalso
   obtain ⟨i, hi, e⟩ := List.getElem_of_mem hm;have := HNO.out i (by have := HN.out; omega);rw [List.getD_eq_getElem?_getD, List.getElem?_eq_getElem hi, e] at this;cases this
theorem contains_b (g n : Nat) (f : List Bool) (w : World) (h : Bl w g f) (hn : n = f.length) (hl : n <= 1000000000) :
  Calls Tryz.prog 54 #[.slice (some ⟨g, 0, none⟩) n n, .bool false] w fun e w' => e = .returned (.bool (f.contains false)) /\ w = w' := by
 have c := index_b g n f w h hn hl;clear h hn;go_enter Tryz.func54, Tryz.ntmps54;go_wp2_with fail;refine c.mono ?_;rintro e w1 ⟨⟨i, rfl, hi, h1, h2⟩, rfl⟩;have HI := qh hi;clear hi c;by_cases h0 : 0 <= i
 ·go_wp2_with fail;go_ret;exact ⟨ret_bool (by rw [List.contains_eq_mem, eq_comm, decide_eq_true_iff]; exact HI.out.1 h0), rfl⟩
 ·go_wp2_with fail;go_ret;exact ⟨ret_bool (by rw [List.contains_eq_mem]; exact decide_eq_decide.2 HI.out), rfl⟩
theorem infoBool : (Tryz.prog.info? 4).map (fun i => (i.zero, i.size, i.bytes)) = some (some (.bool false), 1, 1) := by kernel_rfl
theorem made_bools (n : Nat) : madeCells #[Value.bool false] n = ((List.replicate n false).map Value.bool).toArray := by
 unfold madeCells
 apply Array.ext
 ·simp
 ·intro i h1 h2;simp [Nat.mod_one]
theorem tie_cons (N : Nat) (f : List Bool) (c : Int) (R : List Int) : tieGo N f (c :: R) = if c < 0 \/ (N : Int) <= c \/ f.getD c.toNat false = true then none else tieGo N (f.set c.toNat true) R := rfl
theorem own_tied (v : Value) (l : List Nd) (root : Int) (w : World) (hS : SynAt w v l root) (hr : inR l root) (hl : l.length <= 1000000) (hK : ∀ n ∈ l, n.kids.length <= 100000000000000000) :
  Calls Tryz.prog 24 #[v] w fun e w' => e = .returned (.bool (tiedB l root)) /\ Below w.heap.size w w' := by
 obtain ⟨ao, c, rfl, hNd, hr64⟩ := hS.open;have HND := qh hNd;obtain ⟨rt, rfl, hrt⟩ := of_inR hr;obtain ⟨Z, hZ⟩ : ∃ Z, tiedB l (rt : Int) = Z := ⟨_, rfl⟩;rw [hZ];have HZ := qh hZ;obtain ⟨N, hN⟩ : ∃ N, N = l.length := ⟨_, rfl⟩;rw [<- hN] at HND hl hrt ⊢;have HN := qh hN;have HKK := qh hK;have T0 : tieAll l (rt : Int) = tieGo N ((List.replicate N false).set rt true) (l.flatMap (·.kids)) := by unfold tieAll; rw [<- hN]; rfl
 have HT0 := qh T0;clear hS hNd hr64 hZ hN T0 hr hK;obtain ⟨iB, hiB, hzB, hsB, hbB⟩ := info_parts infoBool;have hmk : ∀ W : World, (Instr.makeSlice 94 (.int .i64 (N : Int)) (.int .i64 (N : Int))).run Tryz.prog W = .ok (.slice (some ⟨W.heap.size, 0, none⟩) N N) (W.alloc (.cells (((List.replicate N false).map Value.bool).toArray) 4)) := fun W => by
  have := run_make (P := Tryz.prog) W 94 4 iB (.bool false) Tryz.underlying94 hiB hzB .i64 .i64 (N : Int) (N : Int) (by omega) (by omega) (by rw [hbB]; omega) (by omega);rw [hsB] at this;simp only [Int.toNat_natCast, Nat.mul_one] at this;rw [this, <- made_bools]
  rfl
 have hmk1 := hmk (w.alloc (.cells #[.slice ao N c, .int .i64 (rt : Int)] 27));rw [World.size_alloc] at hmk1;clear hmk hiB hzB hsB hbB;obtain ⟨w2, hw2⟩ : ∃ w2, ((w.alloc (.cells #[.slice ao N c, .int .i64 (rt : Int)] 27)).alloc (.cells (((List.replicate N false).map Value.bool).toArray) 4)) = w2 := ⟨_, rfl⟩;rw [hw2] at hmk1;have hB : Below w.heap.size w w2 := by rw [<- hw2]; exact ((Below.refl _ _).alloc (Nat.le_refl _) _).alloc (by simp) _
 have hbox : w2.heap[w.heap.size]? = some (.cells #[.slice ao N c, .int .i64 (rt : Int)] 27 (0, 0)) := by
  rw [<- hw2]; exact (Below.heap_alloc _ _ _ (by simp)).trans (new_block w _)
 have hbl : Bl w2 (w.heap.size + 1) (List.replicate N false) := by
  rw [<- hw2];have := new_block (w.alloc (.cells #[.slice ao N c, .int .i64 (rt : Int)] 27)) (.cells (((List.replicate N false).map Value.bool).toArray) 4)
  rwa [World.size_alloc] at this
 have hsz2 : w.heap.size + 1 < w2.heap.size := lt_of_get hbl;have c1 := cell_of hbox 1 (.int .i64 (rt : Int)) rfl;have c0 := cell_of hbox 0 (.slice ao N c) rfl;have f1 := free_of hbl rt;have crt := hbl.at (j := rt) (by simp; exact hrt);have hrt0 : (0 : Int) <= rt := Int.natCast_nonneg rt;have hrtN : (rt : Int) < N := by omega
 have HB := qh hB;have HBOX := qh hbox;have HBL := qh hbl;clear hw2 hB hbox hbl;go_enter Tryz.func24, Tryz.ntmps24;go_wp2_with fail;have hbl3 := HBL.out.set rt true;have hbox3 : (w2.setCell ⟨w.heap.size + 1, rt, none⟩ (.bool true)).heap[w.heap.size]? = some (.cells #[.slice ao N c, .int .i64 (rt : Int)] 27 (0, 0)) := (Below.heap_setCell _ _ _ _ (by show w.heap.size ≠ w.heap.size + 1; omega)).trans HBOX.out;have hB3 := HB.out.setCell (p := ⟨w.heap.size + 1, rt, none⟩) (by show w.heap.size <= w.heap.size + 1; omega) (.bool true);obtain ⟨w3, hw3⟩ : ∃ w3, w2.setCell ⟨w.heap.size + 1, rt, none⟩ (.bool true) = w3 := ⟨_, rfl⟩;rw [hw3] at hbl3 hbox3 hB3;rw [hw3];obtain ⟨f0, hf0⟩ : ∃ f0, f0 = (List.replicate N false).set rt true := ⟨_, rfl⟩;rw [<- hf0] at hbl3 HT0;have hl0 : f0.length = N := by rw [hf0]; simp
 have HB3 := qh hB3;have HBOX3 := qh hbox3;have HBL3 := qh hbl3;have HL0 := qh hl0;clear hw3 hbl3 hbox3 hB3 hf0 hl0 c1 c0 f1 crt hmk1 HBL HBOX HB hsz2;go_loopg [19] N (fun r i wr => ∃ (k : Nat) (f : List Bool), r = N - k /\ i = .int .i64 (k : Int) /\ k <= N /\ f.length = N /\ Below w.heap.size w wr /\ wr.heap[w.heap.size]? = some (.cells #[.slice ao N c, .int .i64 (rt : Int)] 27 (0, 0)) /\ Bl wr (w.heap.size + 1) f /\ tieAll l (rt : Int) = tieGo N f ((l.drop k).flatMap (·.kids)))
 case atStart => exact ⟨0, f0, rfl, rfl, Nat.zero_le _, HL0.out, HB3.out, HBOX3.out, HBL3.out, HT0.out⟩
 case round =>
  obtain ⟨k, f, rfl, rfl, hk, hlf, hb, hbox, hbl, htie⟩ := hrel;have HLF := qh hlf;have HBr := qh hb;have HX := qh hbox;have HBl := qh hbl;have HT := qh htie;have c0 := cell_of hbox 0 (.slice ao N c) rfl;have hgl : w.heap.size + 1 < wr.heap.size := lt_of_get hbl;clear hlf hb hbox hbl htie;by_cases hlt : k < N
  ·have hlt' : (k : Int) < N := by omega
   have hkl : k < l.length := by have := HN.out; omega
   obtain ⟨g, off, hg, rfl, hnd⟩ := HND.out.at hkl;have hmem : at' l (k : Int) ∈ l := at_mem (inR_nat.2 hkl);have hkk := HKK.out _ hmem;have hdrop : (l.drop k).flatMap (·.kids) = (at' l (k : Int)).kids ++ (l.drop (k + 1)).flatMap (·.kids) := by
    rw [List.drop_eq_getElem_cons hkl, List.flatMap_cons, at_nat hkl]
   have htd := HT.out;rw [hdrop] at htd;have HTD := qh htd;obtain ⟨an, cn, ak, ck, e0, e1, e2, e3, e4, e5, hv⟩ := hnd.open;obtain ⟨_, _, _, _, ev, _, hLk, _⟩ := hv;cases ev;have HLK := qh hLk;have hbw := HBr.out;rw [<- hbw.cell (p := ⟨g, _, none⟩) hg] at e0 e1 e2 e3 e4 e5;clear hbw;clear hmem hdrop htd hnd hLk HT;generalize at' l (k : Int) = nd at *;go_wp2_with fail;have hX := new_block wr (.cells #[.int .u8 (nd.k : Int), .int .i64 nd.n, .string nd.name, .slice an nd.names.length cn, .slice ak nd.kids.length ck, .int .i64 nd.line] 35);have hal : Below wr.heap.size wr (wr.alloc (.cells #[.int .u8 (nd.k : Int), .int .i64 nd.n, .string nd.name, .slice an nd.names.length cn, .slice ak nd.kids.length ck, .int .i64 nd.line] 35)) := (Below.refl _ _).alloc (Nat.le_refl _) _;obtain ⟨w4, hw4⟩ : ∃ w4, wr.alloc (.cells #[.int .u8 (nd.k : Int), .int .i64 nd.n, .string nd.name, .slice an nd.names.length cn, .slice ak nd.kids.length ck, .int .i64 nd.line] 35) = w4 := ⟨_, rfl⟩;rw [hw4] at hal;rw [hw4];have HB4 := qh (HBr.out.trans (hal.mono HBr.out.size));have HBL4 := qh (show Bl w4 (w.heap.size + 1) f from (hal.block _ hgl).trans HBl.out);have HX4 := qh ((hal.block _ (lt_of_get HX.out)).trans HX.out);obtain ⟨m, hm⟩ : ∃ m, m = nd.kids.length := ⟨_, rfl⟩;rw [<- hm] at HLK hkk;rw [<- hm];have HM := qh hm;have HLF2 := HLF;clear hX hal hw4 hm e0 e1 e2 e3 e4 e5 c0 HBl HX;go_loopg [26] m (fun r i wr' => ∃ (j : Nat) (f' : List Bool), r = m - j /\ i = .int .i64 (j : Int) /\ j <= m /\ f'.length = N /\ Below w.heap.size w wr' /\ wr'.heap[w.heap.size]? = some (.cells #[.slice (some ⟨g, off, none⟩) N c, .int .i64 (rt : Int)] 27 (0, 0)) /\ Bl wr' (w.heap.size + 1) f' /\ tieAll l (rt : Int) = tieGo N f' (nd.kids.drop j ++ (l.drop (k + 1)).flatMap (·.kids)))
   case atStart => exact ⟨0, f, rfl, rfl, Nat.zero_le _, HLF.out, HB4.out, HX4.out, HBL4.out, HTD.out⟩
   case round =>
    obtain ⟨j, f', rfl, rfl, hj, hlf', hb', hbox', hbl', htie'⟩ := hrel;have HLF' := qh hlf';have HBr' := qh hb';have HX' := qh hbox';have HBl' := qh hbl';have HT' := qh htie';have c0 := cell_of hbox' 0 (.slice (some ⟨g, off, none⟩) N c) rfl;clear hlf' hb' hbox' hbl' htie';by_cases hltj : j < m
    ·have hltj' : (j : Int) < m := by omega
     have hjk : j < nd.kids.length := by have := HM.out; omega
     obtain ⟨gk, offk, rfl, hck⟩ := (HLK.out.below HBr'.out).int hjk;have hdj : nd.kids.drop j = nd.kids[j] :: nd.kids.drop (j + 1) := List.drop_eq_getElem_cons hjk;obtain ⟨z, hz⟩ : ∃ z, nd.kids[j] = z := ⟨_, rfl⟩;rw [hz] at hck hdj;have hT2 := HT'.out;rw [hdj, List.cons_append, tie_cons] at hT2;have HT2 := qh hT2;clear hz hdj hT2;have hfail : (z < 0 \/ (N : Int) <= z \/ f'.getD z.toNat false = true) -> Z = false := fun h => by
      have h1 := HT2.out;rw [if_pos h] at h1;rw [<- HZ.out];unfold tiedB;rw [h1]
     have HFAIL := qh hfail;clear hfail;by_cases z0 : z < 0
     ·go_wp2_with fail;go_ret;exact ⟨ret_bool (HFAIL.out (.inl z0)).symm, HBr'.out⟩
     by_cases zN : (N : Int) <= z
     ·go_wp2_with fail;go_ret;exact ⟨ret_bool (HFAIL.out (.inr (.inl zN))).symm, HBr'.out⟩
     obtain ⟨d, rfl⟩ := Int.eq_ofNat_of_zero_le (show 0 <= z by omega);have hdN : d < N := by omega
     have hcd := HBl'.out.at (j := d) (by rw [HLF'.out]; exact hdN);have hfd := free_of HBl'.out d;have hdt : ((d : Int)).toNat = d := Int.toNat_natCast d;obtain ⟨b, hb⟩ : ∃ b, f'.getD d false = b := ⟨_, rfl⟩;rw [hb] at hcd;have HB := qh hb;clear hb;have hdlt : (d : Int) < N := by omega
     cases b with
     | true =>
      go_wp2_with fail;go_ret;exact ⟨ret_bool (HFAIL.out (.inr (.inr (by rw [Int.toNat_natCast]; exact HB.out)))).symm, HBr'.out⟩
     | false =>
      go_wp2_with fail;go_roundg (m - (j + 1))
      case measure => omega
      case rel => exact ⟨j + 1, f'.set d true, rfl, by go_num, by omega, by rw [List.length_set]; exact HLF'.out, HBr'.out.setCell (p := ⟨w.heap.size + 1, d, none⟩) (by show w.heap.size <= w.heap.size + 1; omega) _, (Below.heap_setCell _ _ _ _ (by show w.heap.size ≠ w.heap.size + 1; omega)).trans HX'.out, HBl'.out.set d true, by
       rw [HT2.out, if_neg (by rw [Int.toNat_natCast, HB.out]; intro h; rcases h with h | h | h <;> first | omega | cases h), Int.toNat_natCast]⟩
    ·obtain rfl : j = m := by omega
     have hltj' : ¬ (j : Int) < j := by omega
     go_wp2_with fail;go_roundg (N - (k + 1))
     case measure => omega
     case rel => exact ⟨k + 1, f', rfl, by go_num, by omega, HLF'.out, HBr'.out, HX'.out, HBl'.out, by rw [HT'.out, List.drop_of_length_le (by have := HM.out; omega)]; rfl⟩
  ·obtain rfl : k = N := by omega
   have hlt' : ¬ (k : Int) < k := by omega
   have ct := contains_b (w.heap.size + 1) k f wr HBl.out HLF.out.symm (by omega);have hz : Z = !f.contains false := by
    have h1 := HT.out;rw [List.drop_of_length_le (by have := HN.out; omega)] at h1;rw [<- HZ.out];unfold tiedB;rw [h1]
    rfl
   have HZ2 := qh hz;clear hz;generalize f.contains false = R at *;go_wp2_with fail;refine ct.mono ?_;rintro e w4 ⟨rfl, rfl⟩;go_wp2_with fail;go_ret;exact ⟨ret_bool HZ2.out.symm, HBr.out⟩
end Go.Proofs.YtnkejjlidgnkkaaGreatDoor.Nd
