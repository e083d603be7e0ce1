/-
  A part of the proof.
-/
import Derived.Defers
import Derived.Recover
import Derived.Laws.StructEq
import Derived.Laws.Pointers
import Derived.RegionTactic
import Derived.ChangeAlike
import Derived.BigRegion
import Derived.RangeFuncOwn
import Derived.Shelf.Abstract
import Derived.Laws.IdiomStrings
import Derived.Lib.Hide
import Derived.Test.YtnkejjlidgnkkaaGreatDoorClRB
import Derived.Test.YtnkejjlidgnkkaaGreatDoorClRC
import Derived.Test.YtnkejjlidgnkkaaGreatDoorClRD
import Derived.Test.YtnkejjlidgnkkaaGreatDoorClRQ
set_option maxRecDepth 100000
set_option maxHeartbeats 40000000
namespace Go.Proofs.YtnkejjlidgnkkaaGreatDoor.Ps

open Go.Lib renaming hid → qh
open Go Go.RowKit Go.ChangeShapes Go.WideShapes Go.Shelf
open Go.Proofs.YtnkejjlidgnkkaaGreatDoor.Nd
open Go.Proofs.YtnkejjlidgnkkaaGreatDoor.Lex (Tok tokensL TokReads ToksSays)
theorem faultOf_fn (a l : Int) (w : World) : Calls Tryz.prog 14 #[.iface 30 (.agg #[.int .i64 a, .int .i64 l])] w fun e w' => e = .returned (.agg #[.int .i64 a, .int .i64 l]) /\ Below w.heap.size w w' := by
 have hta : ∀ w : World, (Instr.typeAssert (.iface 30 (.agg #[.int .i64 a, .int .i64 l])) 20 30 true).run Tryz.prog w = .ok (.tuple #[.agg #[.int .i64 a, .int .i64 l], .bool true]) w := fun _ => by kernel_rfl
 go_enter Tryz.func14, Tryz.ntmps14;go_wp2_with fail;have hb := ((Below.refl w.heap.size w).alloc (Nat.le_refl _) (.cells #[.int .i64 a, .int .i64 l] 30)).alloc (by simp) (.cells #[.int .i64 a, .int .i64 l] 30);have hx : ((w.alloc (.cells #[.int .i64 a, .int .i64 l] 30)).alloc (.cells #[.int .i64 a, .int .i64 l] 30)).heap[w.heap.size]? = some (.cells #[.int .i64 a, .int .i64 l] 30 (0, 0)) := ((al _ _).block w.heap.size (by simp)).trans (hit rfl);have x0 := cell_of hx 0 (.int .i64 a) rfl;have x1 := cell_of hx 1 (.int .i64 l) rfl;generalize (w.alloc (.cells #[.int .i64 a, .int .i64 l] 30)).alloc (.cells #[.int .i64 a, .int .i64 l] 30) = V at *;refine bodyPost_ret (v := .agg #[.int .i64 a, .int .i64 l]) (by simp [results, Tryz.results14, go_sem, x0, x1]) rfl ?_;exact ⟨rfl, hb⟩
theorem catch_idle (p q : Addr) (w : World) : CallsD Tryz.prog 13 #[.pointer (some p), .pointer (some q)] .returning w fun e u' w' => e = .returned (.tuple #[]) /\ u' = .returning /\ w' = w := by
 refine callsD_of_wpS Tryz.func13 rfl fun c₀ cs hu => ?_
 apply wpS_seq
 apply wpS_region
 simp [wpOpsS, go_sem, recoverD, hu, Tryz.ntmps13, Exit.thenS]
 apply wpS_seq
 apply wpS_region
 simp [wpOpsS, go_sem, Exit.thenS];refine wpS_cond (t := false) (by simp [Act.eval, Array.replicate]) ?_;simp only [Bool.false_eq_true, if_false];refine wpS_of_wp (wp_skip ?_);cases c₀
 simp_all [bodyPostS, results, Tryz.results13]
theorem catch_fault (b2 b3 : Nat) (er l : Int) (a0 a1 d0 d1 : Value) (w : World) (h2 : w.heap[b2]? = some (.cells #[a0, a1] 27 (0, 0))) (h3 : w.heap[b3]? = some (.cells #[d0, d1] 30 (0, 0))) :
  CallsD Tryz.prog 13 #[.pointer (some ⟨b2, 0, none⟩), .pointer (some ⟨b3, 0, none⟩)] (.panicking [{ v := .iface 30 (.agg #[.int .i64 er, .int .i64 l]), recovered := false }]) w fun e u' w' =>
   e = .returned (.tuple #[]) /\ u' = .panicking [{ v := .iface 30 (.agg #[.int .i64 er, .int .i64 l]), recovered := true }] /\ ∃ w1, Below w.heap.size w w1 /\ w' = (((w1.setCell ⟨b2, 0, none⟩ (.slice none 0 0)).setCell ⟨b2, 1, none⟩ (.int .i64 0)).setCell ⟨b3, 0, none⟩ (.int .i64 er)).setCell ⟨b3, 1, none⟩ (.int .i64 l) := by
 refine callsD_of_wpS Tryz.func13 rfl fun c₀ cs hu => ?_
 apply wpS_seq
 apply wpS_region
 simp [wpOpsS, go_sem, recoverD, hu, Tryz.ntmps13, Exit.thenS]
 apply wpS_seq
 apply wpS_region
 simp [wpOpsS, go_sem, Exit.thenS];refine wpS_cond (t := true) (by simp [Act.eval, Array.replicate]) ?_;simp only [if_true];refine wpS_of_wp ?_;go_wp2_with fail;refine (faultOf_fn er l w).mono ?_;rintro e w1 ⟨rfl, b⟩;have g2 := (b.block b2 (lt_of_heap h2)).trans h2;have g3 := (b.block b3 (lt_of_heap h3)).trans h3;have x0 := cell_of g2 0 a0 rfl;have x1 := cell_of g2 1 a1 rfl;have z0 := cell_of g3 0 d0 rfl;have z1 := cell_of g3 1 d1 rfl;have f0 := free_of g2 0;have f1 := free_of g2 1;have f2 := free_of g3 0;have f3 := free_of g3 1;have hne : b2 ≠ b3 := fun e => by rw [e, g3] at g2; cases g2
 have HB := qh b;clear b h2 h3 g2 g3;go_wp2_with fail;simp [bodyPostS, results, Tryz.results13];exact ⟨w1, HB.out, rfl⟩
theorem fault_under : Tryz.prog.underlying 30 = some (.struct (Tryz.prog.fieldsOf 30)) := by kernel_rfl
theorem fault_stood : Tryz.prog.stoodInHeld 30 = false := by kernel_rfl
theorem fault_fields : (Tryz.prog.fieldsOf 30).toList.map (fun f => (f.name, f.type, f.offset)) = [("Err", 28, 0), ("Line", 3, 1)] := by kernel_rfl
theorem eq_fault (a b c d : Int) (w : World) : (Op.equalIn 10000 30 (.agg #[.int .i64 a, .int .i64 b]) (.agg #[.int .i64 c, .int .i64 d])).run Tryz.prog w = .ok (decide (a = c /\ b = d)) w := by
 rw [run_equalIn_agg _ _ _ _ _ fault_under fault_stood];have hf := fault_fields;generalize (Tryz.prog.fieldsOf 30).toList = fs at *;obtain ⟨f1, f2, rfl⟩ : ∃ f1 f2, fs = [f1, f2] := by
  have hl := congrArg List.length hf;rw [List.length_map] at hl;rcases fs with _ | ⟨f1, _ | ⟨f2, _ | ⟨f3, r⟩⟩⟩
  ·simp at hl
  ·simp at hl
  ·exact ⟨f1, f2, rfl⟩
  ·simp at hl
 simp only [List.map_cons, List.map_nil, List.cons.injEq, Prod.mk.injEq, and_true] at hf;obtain ⟨⟨n1, t1, o1⟩, n2, t2, o2⟩ := hf;simp only [Op.eqFields, n1, n2, t1, t2, o1, o2];simp [go_sem];by_cases h1 : a = c
 ·by_cases h2 : b = d
  ·simp [h1, h2]
  ·simp [h1, h2]
 ·simp [h1]
theorem neq_fault (a b c d : Int) (w : World) : (binOp .neq 30 (.agg #[.int .i64 a, .int .i64 b]) (.agg #[.int .i64 c, .int .i64 d])).run Tryz.prog w = .ok (.bool (!decide (a = c /\ b = d))) w := by
 rw [run_neq_struct, eq_fault]; rfl
theorem two_set {w : World} {B : Nat} {a b x y : Value} {t : TypeId} (h : w.heap[B]? = some (.cells #[a, b] t (0, 0))) : ((w.setCell ⟨B, 0, none⟩ x).setCell ⟨B, 1, none⟩ y).heap[B]? = some (.cells #[x, y] t (0, 0)) := set_same (set_same h 0 x) 1 y
theorem two_far {w : World} {B k : Nat} {x y : Value} (h : k ≠ B) : ((w.setCell ⟨B, 0, none⟩ x).setCell ⟨B, 1, none⟩ y).heap[k]? = w.heap[k]? := (Below.heap_setCell _ _ _ _ h).trans (Below.heap_setCell _ _ _ _ h)
theorem two_below {w0 w : World} {b B : Nat} (hb : Below b w0 w) (h : b <= B) (x y : Value) : Below b w0 ((w.setCell ⟨B, 0, none⟩ x).setCell ⟨B, 1, none⟩ y) := (hb.setCell (p := ⟨B, 0, none⟩) h _).setCell (p := ⟨B, 1, none⟩) h _
theorem own_two {w : World} {B base : Nat} {a b x y v : Value} {t : TypeId} {rs : List R3} (h : OwnNd w base v rs) (hb : w.heap[B]? = some (.cells #[a, b] t (0, 0))) (h1 : 35 ≠ t) (h2 : 9 ≠ t) (h3 : 3 ≠ t) : OwnNd ((w.setCell ⟨B, 0, none⟩ x).setCell ⟨B, 1, none⟩ y) base v rs :=
 ⟨own_other (own_other h.1 hb h1) (set_same hb 0 x) h1, fun r hr => ((h.2 r hr).set hb h2 h3).set (set_same hb 0 x) h2 h3⟩
def ParseSays (R : List Nd × Int × Nat × Nat) (w : World) (e : Ending) (w' : World) : Prop :=
 ∃ (v : Value) (rs : List R3), e = .returned (.tuple #[.agg #[v, .int .i64 R.2.1], .agg #[.int .i64 (R.2.2.1 : Int), .int .i64 (R.2.2.2 : Int)]]) /\ OwnNd w' w.heap.size v rs /\ rs.map (·.1) = R.1 /\ Below w.heap.size w w'
theorem parse_fn (text : ByteArray) (w : World) (hops : ∃ Ty fr, w.heap[opsG]? = some (.cells opsCells.toArray Ty fr)) (htok : ∀ w', Below w.heap.size w w' -> Calls Tryz.prog 11 #[.string text] w' (ToksSays (tokensL text.data.toList) w'))
  (h0 : (tokensL text.data.toList).2.1 = 0 -> (tokensL text.data.toList).2.2 = 0) (hE : (tokensL text.data.toList).2.1 = 0 -> EndT (tokensL text.data.toList).1 /\ 0 < (tokensL text.data.toList).1.length /\ (tokensL text.data.toList).1.length <= 100000) :
  Calls Tryz.prog 6 #[.string text] w (ParseSays (parseL text) w) := by
 have hmf : ∀ (fn : Fn) (first cap : Array Value) (w : World), (Instr.makeFunc fn first cap).run Tryz.prog w = .ok (.func fn first cap) w := fun _ _ _ _ => rfl
 have HP := qh (show parseL text = if (tokensL text.data.toList).2.1 ≠ 0 then ([], 0, (tokensL text.data.toList).2.1, (tokensL text.data.toList).2.2) else match textM (tokensL text.data.toList).1 ⟨0, []⟩ with
  | .ok r st => (st.l, r, 0, 0)
  | .no e line => ([], 0, e, line) from rfl)
 generalize parseL text = R at *;have HOPS := qh hops;have HTOK := qh htok;have HE := qh hE;have H0 := qh h0;clear hops htok hE h0;generalize tokensL text.data.toList = K at *;obtain ⟨T, er, ln⟩ := K;have hb2 := ((Below.refl w.heap.size w).alloc (Nat.le_refl _) (.cells #[.slice none 0 0, .int .i64 0] 27)).alloc (by simp) (.cells #[.int .i64 0, .int .i64 0] 30);have hS := ((al (w.alloc (.cells #[.slice none 0 0, .int .i64 0] 27)) (.cells #[.int .i64 0, .int .i64 0] 30)).block w.heap.size (by simp)).trans (hit rfl);have hF : ((w.alloc (.cells #[.slice none 0 0, .int .i64 0] 27)).alloc (.cells #[.int .i64 0, .int .i64 0] 30)).heap[w.heap.size + 1]? = some (.cells #[.int .i64 0, .int .i64 0] 30 (0, 0)) := hit (by simp);have HB2 := qh hb2;have HS := qh hS;have HF := qh hF;clear hb2 hS hF;go_enter_defers Tryz.func6, Tryz.ntmps6;go_wp2_with fail;refine (HTOK.out _ HB2.out).mono ?_;rintro e w1 ⟨v, rfl, ht, b⟩;have g2 := (b.block _ (lt_of_heap HS.out)).trans HS.out;have g3 := (b.block _ (lt_of_heap HF.out)).trans HF.out;have x0 := cell_of g2 0 (.slice none 0 0) rfl;have x1 := cell_of g2 1 (.int .i64 0) rfl;have z0 := cell_of g3 0 (.int .i64 0) rfl;have z1 := cell_of g3 1 (.int .i64 0) rfl;have f0 := free_of g2 0;have f1 := free_of g2 1;have f2 := free_of g3 0;have f3 := free_of g3 1;have HB1 := qh (HB2.out.trans (b.mono HB2.out.size));have G2 := qh g2;have G3 := qh g3;have HT := qh (show TokReads w1 v T from ht);clear b g2 g3 ht;by_cases he : er = 0
 ·have hl := H0.out he;subst he;have hl : ln = 0 := hl;subst hl;have hne := neq_fault 0 0 0 0;rw [show decide ((0 : Int) = 0 /\ (0 : Int) = 0) = true from rfl] at hne;have HR := qh (HP.out.trans (if_neg (fun h => h rfl)));obtain ⟨hend, hpos, hfew⟩ := HE.out rfl;have HEND := qh hend;clear HP hend;have q1 := two_set (x := .int .i64 0) (y := .int .i64 0) G3.out;have q2 := (two_far (x := .int .i64 0) (y := .int .i64 0) (show w.heap.size ≠ w.heap.size + 1 by omega)).trans G2.out;have q3 := two_below HB1.out (show w.heap.size <= w.heap.size + 1 by omega) (.int .i64 0) (.int .i64 0);have qt : TokReads ((w1.setCell ⟨w.heap.size + 1, 0, none⟩ (.int .i64 0)).setCell ⟨w.heap.size + 1, 1, none⟩ (.int .i64 0)) v T := toks_keep HT.out (by simp) (fun g j u hg hu => by
   obtain ⟨ao, cap, rfl, hc⟩ := HT.out;obtain ⟨g', hg', rfl, hcell⟩ := hc (fun e => by rw [e] at hpos; exact absurd hpos (Nat.lt_irrefl 0));have e2 : g' = g := by simpa [Value.ownBlock] using hg
   have hgF : w.heap.size + 1 ≠ g := fun e => by
    have h0 := (hcell 0 hpos).1;rw [e2, <- e, Nat.zero_mul, z0] at h0;cases h0
   rw [World.cell?_setCell_far _ _ _ _ hgF, World.cell?_setCell_far _ _ _ _ hgF];exact hu)
  obtain ⟨ao, cap, hvs, _⟩ := HT.out;subst hvs;have HQ1 := qh q1;have HQ2 := qh q2;have HQ3 := qh q3;have HQT := qh qt;clear q1 q2 q3 qt;go_wp2_with fail;have hsz : ((w1.setCell ⟨w.heap.size + 1, 0, none⟩ (.int .i64 0)).setCell ⟨w.heap.size + 1, 1, none⟩ (.int .i64 0)).heap.size = w1.heap.size := by simp
  generalize (w1.setCell ⟨w.heap.size + 1, 0, none⟩ (.int .i64 0)).setCell ⟨w.heap.size + 1, 1, none⟩ (.int .i64 0) = W2 at *;have hlt1 : w.heap.size + 1 < w1.heap.size := lt_of_heap G3.out;have hcell : (W2.alloc (.cells #[.slice ao T.length cap, .int .i64 0, .slice none 0 0] 45)).heap[w1.heap.size]? = some (.cells #[.slice ao T.length cap, .int .i64 0, .slice none 0 0] 45 (0, 0)) := hit hsz.symm;have hb3 := al W2 (.cells #[.slice ao T.length cap, .int .i64 0, .slice none 0 0] 45);generalize W2.alloc (.cells #[.slice ao T.length cap, .int .i64 0, .slice none 0 0] 45) = W3 at *;have hbw : Below w.heap.size w W3 := HQ3.out.trans (hb3.mono HQ3.out.size);have hPA : PAt T (.slice ao T.length cap) w1.heap.size w.heap.size ⟨0, []⟩ ⟨.slice none 0 0, []⟩ W3 := by
   refine ⟨HQT.out.below hb3, hcell, ⟨World.ownsRow_nil _ _ _ _, fun r hr => by cases hr⟩, rfl, hpos, hfew, .inl rfl, hbw.size, Nat.zero_le _, ?_, ?_⟩
   ·obtain ⟨Ty, fr, ho⟩ := HOPS.out;exact ⟨Ty, fr, (hbw.block opsG (lt_of_heap ho)).trans ho⟩
   ·obtain ⟨Ty, fr, ho⟩ := HOPS.out;exact lt_of_heap ho
  have k2 := (hb3.block _ (lt_of_heap HQ2.out)).trans HQ2.out;have k3 := (hb3.block _ (lt_of_heap HQ1.out)).trans HQ1.out;have HTX := qh (text_is HEND.out W3 hPA);have HK2 := qh k2;have HK3 := qh k3;have HBW := qh hbw;have HLT := qh (show w.heap.size + 1 < w1.heap.size /\ W2.heap.size = w1.heap.size from ⟨hlt1, hsz⟩);clear hcell hb3 hbw hPA k2 k3 hlt1 hsz x0 x1 z0 z1 f0 f1 f2 f3;refine HTX.out.mono ?_;intro e w4 hd;rcases does_cases hd with ⟨a4, s4, v4, nv4, hx, rfl, hv, hP4, hT4, _⟩ | ⟨er, l4, nv4, hx, rfl, hT4⟩
  ·obtain ⟨rfl, hr⟩ := hv;have m2 := (hT4.keep w.heap.size (lt_of_heap HK2.out) (by have := HLT.out.1; omega) (by simp [Value.ownBlock]) id).trans HK2.out;have m3 := (hT4.keep (w.heap.size + 1) (lt_of_heap HK3.out) (by have := HLT.out.1; omega) (by simp [Value.ownBlock]) id).trans HK3.out;obtain ⟨an, cn, hnv⟩ := own_slice hP4.nodes.1;have y2 := cell_of hP4.cells 2 nv4.v rfl;rw [hnv] at y2;have u0 := cell_of m2 0 (.slice none 0 0) rfl;have u1 := cell_of m2 1 (.int .i64 0) rfl;have p0 := cell_of m3 0 (.int .i64 0) rfl;have p1 := cell_of m3 1 (.int .i64 0) rfl;have r0 := free_of m2 0;have r1 := free_of m2 1;have r2 := free_of m3 0;have r3 := free_of m3 1;have hbw4 : Below w.heap.size w w4 := ⟨hT4.os.trans HBW.out.os, hT4.tape.trans HBW.out.tape, hT4.output.trans HBW.out.output, Nat.le_trans HBW.out.size hT4.size, fun k hk => (hT4.keep k (Nat.lt_of_lt_of_le hk HBW.out.size) (by have := HLT.out.1; omega) (by simp [Value.ownBlock]) id).trans (HBW.out.block k hk)⟩;have HB4 := qh hbw4;clear hbw4;have HM2 := qh m2;have HM3 := qh m3;have HX := qh hx;have HP4 := qh hP4;have HT4 := qh hT4;have HNV := qh hnv;clear hd hx hr hP4 hT4 hnv m2 m3;go_wp2_with fail;have n2 := two_set (x := .slice an nv4.rs.length cn) (y := .int .i64 a4) HM2.out;have n3 := (two_far (x := .slice an nv4.rs.length cn) (y := .int .i64 a4) (show w.heap.size + 1 ≠ w.heap.size by omega)).trans HM3.out;have nb := two_below HB4.out (Nat.le_refl _) (.slice an nv4.rs.length cn) (.int .i64 a4);have ow := own_two (x := .slice an nv4.rs.length cn) (y := .int .i64 a4) HP4.out.nodes HM2.out (by decide) (by decide) (by decide);clear u0 u1 p0 p1 r0 r1 r2 r3 y2;generalize (w4.setCell ⟨w.heap.size, 0, none⟩ (.slice an nv4.rs.length cn)).setCell ⟨w.heap.size, 1, none⟩ (.int .i64 a4) = W4 at *;have t3 := two_set (x := .int .i64 0) (y := .int .i64 0) n3;have t2 := (two_far (x := .int .i64 0) (y := .int .i64 0) (show w.heap.size ≠ w.heap.size + 1 by omega)).trans n2;have tb := two_below nb (show w.heap.size <= w.heap.size + 1 by omega) (.int .i64 0) (.int .i64 0);have ow2 := own_two (x := .int .i64 0) (y := .int .i64 0) ow n3 (by decide) (by decide) (by decide);generalize (W4.setCell ⟨w.heap.size + 1, 0, none⟩ (.int .i64 0)).setCell ⟨w.heap.size + 1, 1, none⟩ (.int .i64 0) = W5 at *;have e0 := cell_of t2 0 (.slice an nv4.rs.length cn) rfl;have e1 := cell_of t2 1 (.int .i64 a4) rfl;have e2 := cell_of t3 0 (.int .i64 0) rfl;have e3 := cell_of t3 1 (.int .i64 0) rfl;have hR : R = (s4.l, a4, 0, 0) := HR.out.trans (by
    show (match textM T ⟨0, []⟩ with | .ok r st => (st.l, r, 0, 0) | .no e line => ([], 0, e, line)) = _;rw [HX.out])
   have HFIN := qh (show ParseSays R w (.returned (.tuple #[.agg #[.slice an nv4.rs.length cn, .int .i64 a4], .agg #[.int .i64 0, .int .i64 0]])) W5 from by rw [hR]; exact ⟨nv4.v, nv4.rs, by rw [HNV.out]; rfl, ow2, HP4.out.list, tb⟩);clear n2 n3 nb ow t2 t3 tb ow2;refine leaves_cons (f := 13) (args := #[.pointer (some ⟨w.heap.size, 0, none⟩), .pointer (some ⟨w.heap.size + 1, 0, none⟩)]) (by simp) (by simp [go_sem]) ?_;refine (catch_idle _ _ _).mono ?_;rintro e u' w'' ⟨rfl, rfl, rfl⟩;simp [Leaves, settle, results, Tryz.results6, go_sem, e0, e1, e2, e3];exact HFIN.out
  ·have m2 := (hT4.keep w.heap.size (lt_of_heap HK2.out) (by have := HLT.out.1; omega) (by simp [Value.ownBlock]) id).trans HK2.out;have m3 := (hT4.keep (w.heap.size + 1) (lt_of_heap HK3.out) (by have := HLT.out.1; omega) (by simp [Value.ownBlock]) id).trans HK3.out;have hbw4 : Below w.heap.size w w4 := ⟨hT4.os.trans HBW.out.os, hT4.tape.trans HBW.out.tape, hT4.output.trans HBW.out.output, Nat.le_trans HBW.out.size hT4.size, fun k hk => (hT4.keep k (Nat.lt_of_lt_of_le hk HBW.out.size) (by have := HLT.out.1; omega) (by simp [Value.ownBlock]) id).trans (HBW.out.block k hk)⟩;have HB4 := qh hbw4;have HM2 := qh m2;have HM3 := qh m3;have HX := qh hx;clear hd hx hT4 m2 m3 hbw4;go_wp2_with fail;refine leaves_cons (f := 13) (args := #[.pointer (some ⟨w.heap.size, 0, none⟩), .pointer (some ⟨w.heap.size + 1, 0, none⟩)]) (by simp) (by simp [go_sem]) ?_;refine (catch_fault w.heap.size (w.heap.size + 1) (er : Int) (l4 : Int) _ _ _ _ w4 HM2.out HM3.out).mono ?_;rintro e u' w'' ⟨rfl, rfl, w7, b7, rfl⟩;have m2 := (b7.block _ (lt_of_heap HM2.out)).trans HM2.out;have m3 := (b7.block _ (lt_of_heap HM3.out)).trans HM3.out;have mb := HB4.out.trans (b7.mono HB4.out.size);have n2 := two_set (x := .slice none 0 0) (y := .int .i64 0) m2;have n3 := (two_far (x := .slice none 0 0) (y := .int .i64 0) (show w.heap.size + 1 ≠ w.heap.size by omega)).trans m3;have nb := two_below mb (Nat.le_refl _) (.slice none 0 0) (.int .i64 0);generalize (w7.setCell ⟨w.heap.size, 0, none⟩ (.slice none 0 0)).setCell ⟨w.heap.size, 1, none⟩ (.int .i64 0) = W4 at *;have t3 := two_set (x := .int .i64 (er : Int)) (y := .int .i64 (l4 : Int)) n3;have t2 := (two_far (x := .int .i64 (er : Int)) (y := .int .i64 (l4 : Int)) (show w.heap.size ≠ w.heap.size + 1 by omega)).trans n2;have tb := two_below nb (show w.heap.size <= w.heap.size + 1 by omega) (.int .i64 (er : Int)) (.int .i64 (l4 : Int));generalize (W4.setCell ⟨w.heap.size + 1, 0, none⟩ (.int .i64 (er : Int))).setCell ⟨w.heap.size + 1, 1, none⟩ (.int .i64 (l4 : Int)) = W5 at *;have e0 := cell_of t2 0 (.slice none 0 0) rfl;have e1 := cell_of t2 1 (.int .i64 0) rfl;have e2 := cell_of t3 0 (.int .i64 (er : Int)) rfl;have e3 := cell_of t3 1 (.int .i64 (l4 : Int)) rfl;have hR : R = ([], 0, er, l4) := HR.out.trans (by
    show (match textM T ⟨0, []⟩ with | .ok r st => (st.l, r, 0, 0) | .no e line => ([], 0, e, line)) = _;rw [HX.out])
   have HFIN := qh (show ParseSays R w (.returned (.tuple #[.agg #[.slice none 0 0, .int .i64 0], .agg #[.int .i64 (er : Int), .int .i64 (l4 : Int)]])) W5 from by rw [hR]; exact ⟨.slice none 0 0, [], rfl, ⟨World.ownsRow_nil _ _ _ _, fun r hr => by cases hr⟩, rfl, tb⟩);clear m2 m3 mb n2 n3 nb t2 t3 tb;simp [Leaves, settle, results, Tryz.results6, go_sem, e0, e1, e2, e3];exact HFIN.out
 ·have hne := neq_fault (er : Int) (ln : Int) 0 0;rw [show decide ((er : Int) = 0 /\ (ln : Int) = 0) = false from by simp; omega] at hne;have HR := qh (HP.out.trans (if_pos he));clear HP he;go_wp2_with fail;go_region;go_wp2_with fail;have q1 := two_set (x := .int .i64 (er : Int)) (y := .int .i64 (ln : Int)) G3.out;have q2 := (two_far (x := .int .i64 (er : Int)) (y := .int .i64 (ln : Int)) (show w.heap.size ≠ w.heap.size + 1 by omega)).trans G2.out;have q3 := two_below HB1.out (show w.heap.size <= w.heap.size + 1 by omega) (.int .i64 (er : Int)) (.int .i64 (ln : Int));generalize (w1.setCell ⟨w.heap.size + 1, 0, none⟩ (.int .i64 (er : Int))).setCell ⟨w.heap.size + 1, 1, none⟩ (.int .i64 (ln : Int)) = W2 at *;have r1 := two_set (x := .slice none 0 0) (y := .int .i64 0) q2;have r2 := (two_far (x := .slice none 0 0) (y := .int .i64 0) (show w.heap.size + 1 ≠ w.heap.size by omega)).trans q1;have r3 := two_below q3 (Nat.le_refl _) (.slice none 0 0) (.int .i64 0);generalize (W2.setCell ⟨w.heap.size, 0, none⟩ (.slice none 0 0)).setCell ⟨w.heap.size, 1, none⟩ (.int .i64 0) = W3 at *;have t1 := two_set (x := .int .i64 (er : Int)) (y := .int .i64 (ln : Int)) r2;have t2 := (two_far (x := .int .i64 (er : Int)) (y := .int .i64 (ln : Int)) (show w.heap.size ≠ w.heap.size + 1 by omega)).trans r1;have t3 := (two_below r3 (show w.heap.size <= w.heap.size + 1 by omega) (.int .i64 (er : Int)) (.int .i64 (ln : Int))).drew;generalize (W3.setCell ⟨w.heap.size + 1, 0, none⟩ (.int .i64 (er : Int))).setCell ⟨w.heap.size + 1, 1, none⟩ (.int .i64 (ln : Int)) = W4 at *
  replace t1 : W4.drew.heap[w.heap.size + 1]? = _ := t1
  replace t2 : W4.drew.heap[w.heap.size]? = _ := t2
  generalize W4.drew = W5 at *;have e0 := cell_of t1 0 (.int .i64 (er : Int)) rfl;have e1 := cell_of t1 1 (.int .i64 (ln : Int)) rfl;have e2 := cell_of t2 0 (.slice none 0 0) rfl;have e3 := cell_of t2 1 (.int .i64 0) rfl;have HFIN := qh (show ParseSays R w (.returned (.tuple #[.agg #[.slice none 0 0, .int .i64 0], .agg #[.int .i64 (er : Int), .int .i64 (ln : Int)]])) W5 from by rw [HR.out]; exact ⟨_, [], rfl, ⟨World.ownsRow_nil _ _ _ _, fun r hr => by cases hr⟩, rfl, t3⟩);clear q1 q2 q3 r1 r2 r3 t1 t2 t3;simp [bodyPostD, Leaves, results, Tryz.results6, go_sem, e0, e1, e2, e3];exact HFIN.out
end Go.Proofs.YtnkejjlidgnkkaaGreatDoor.Ps
namespace Go.Proofs.YtnkejjlidgnkkaaGreatDoor.Ps

open Go.Lib renaming hid → qh
open Go Go.RowKit
open Go.Proofs.YtnkejjlidgnkkaaGreatDoor.Lex
theorem rest_lt {l : List UInt8} {k : Nat} (h : l.drop (blanks l) ≠ []) (hk : 1 <= k) : ((l.drop (blanks l)).drop k).length < l.length := by
 have h1 : (l.drop (blanks l)).length ≠ 0 := fun g => h (List.eq_nil_of_length_eq_zero g)
 rw [List.length_drop] at h1;rw [List.length_drop, List.length_drop]; omega
def Ended (G : Tok -> Prop) (n : Nat) (R : List Tok × Nat × Nat) : Prop :=
 R.2.1 ≠ 0 \/ (R.2.1 = 0 /\ R.2.2 = 0 /\ ∃ A t, R.1 = A ++ [t] /\ t.k = 6 /\ A.length <= n /\ (∀ x ∈ A, G x) /\ 1 <= t.line /\ t.s = ⟨#[]⟩)
theorem tokF_ended (G : Tok -> Prop) (hG : ∀ (l : List UInt8) (line : Nat), l.length <= 65535 -> 1 <= line -> (oneL l).e = 0 -> G ⟨(oneL l).k, (oneL l).s, (oneL l).n, line⟩) :
  ∀ (f line : Nat) (l : List UInt8) (acc : List Tok), l.length < f -> l.length <= 65535 -> 1 <= line -> (∀ x ∈ acc, G x) -> Ended G (acc.length + l.length) (tokF f line l acc)
 | 0, _, _, _, h, _, _, _ => absurd h (Nat.not_lt_zero _)
 | f + 1, line, l, acc, h, h6, h1, ha => by
  rw [tokF]
  split
  ·exact .inr ⟨rfl, rfl, acc, _, rfl, rfl, Nat.le_add_right _ _, ha, by show 1 <= line + _; omega, rfl⟩
  ·rename_i hne
   split
   ·exact .inl (by show (30 : Nat) ≠ 0; decide)
   ·rename_i k hk;have hlt := rest_lt hne (k := k + 1) (by omega);rcases tokF_ended G hG f (line + linesOf (l.take (blanks l)) + linesOf ((l.drop (blanks l)).take (k + 1))) ((l.drop (blanks l)).drop (k + 1)) acc (by omega) (by omega) (by omega) ha with h2 | ⟨e1, e2, A, t, e3, e4, e5, e6⟩
    ·exact .inl h2
    ·exact .inr ⟨e1, e2, A, t, e3, e4, by omega, e6⟩
   ·split
    ·rename_i he;have hd6 : (l.drop (blanks l)).length <= 65535 := by rw [List.length_drop]; omega
     have hg := hG (l.drop (blanks l)) (line + linesOf (l.take (blanks l))) hd6 (by omega) he;have hlt := rest_lt hne (one_len he).1;generalize oneL (l.drop (blanks l)) = O at *;rcases tokF_ended G hG f (line + linesOf (l.take (blanks l)) + linesOf ((l.drop (blanks l)).take O.len)) ((l.drop (blanks l)).drop O.len) (acc ++ [⟨O.k, O.s, O.n, line + linesOf (l.take (blanks l))⟩]) (by omega) (by omega) (by omega)
      (fun x hx => by
       rcases List.mem_append.1 hx with hx | hx
       ·exact ha x hx
       ·rw [List.mem_singleton] at hx; rw [hx]; exact hg) with h2 | ⟨e1, e2, A, t, e3, e4, e5, e6⟩
     ·exact .inl h2
     ·exact .inr ⟨e1, e2, A, t, e3, e4, by rw [List.length_append, List.length_singleton] at e5; omega, e6⟩
    ·rename_i he;exact .inl he
theorem tokens_ended (G : Tok -> Prop) (hG : ∀ (l : List UInt8) (line : Nat), l.length <= 65535 -> 1 <= line -> (oneL l).e = 0 -> G ⟨(oneL l).k, (oneL l).s, (oneL l).n, line⟩) (l : List UInt8) : Ended G 65535 (tokensL l) := by
 unfold tokensL
 split
 ·exact .inl (by show (3 : Nat) ≠ 0; decide)
 ·rcases tokF_ended G hG (l.length + 1) 1 l [] (by omega) (by omega) (Nat.le_refl _) (fun x hx => by cases hx) with h2 | ⟨e1, e2, A, t, e3, e4, e5, e6⟩
  ·exact .inl h2
  ·exact .inr ⟨e1, e2, A, t, e3, e4, by rw [List.length_nil] at e5; omega, e6⟩
theorem tokens_line0 (l : List UInt8) (h : (tokensL l).2.1 = 0) : (tokensL l).2.2 = 0 := by
 rcases tokens_ended (fun _ => True) (fun _ _ _ _ _ => trivial) l with h2 | ⟨_, e2, _⟩
 ·exact absurd h h2
 ·exact e2
theorem end_of_snoc {A : List Tok} {t : Tok} (h : t.k = 6) (d : Tok) : ∀ i, i < (A ++ [t]).length -> ((A ++ [t]).getD i d).k ≠ 6 -> i + 1 < (A ++ [t]).length := fun i hi hk => by
 rw [List.length_append, List.length_singleton] at hi ⊢;rcases Nat.lt_or_ge i A.length with h2 | h2
 ·omega
 ·have : i = A.length := by omega
  subst this;rw [List.getD_eq_getElem?_getD, List.getElem?_append_right (Nat.le_refl _), Nat.sub_self] at hk;exact absurd h hk
theorem tokens_end (l : List UInt8) (h : (tokensL l).2.1 = 0) : EndT (tokensL l).1 /\ 0 < (tokensL l).1.length /\ (tokensL l).1.length <= 100000 := by
 rcases tokens_ended (fun _ => True) (fun _ _ _ _ _ => trivial) l with h2 | ⟨_, _, A, t, e3, e4, e5, _⟩
 ·exact absurd h h2
 ·rw [e3];refine ⟨end_of_snoc e4 _, ?_, ?_⟩
  ·rw [List.length_append, List.length_singleton]; omega
  ·rw [List.length_append, List.length_singleton]; omega
theorem parse_is (text : ByteArray) (w : World) (hops : ∃ Ty fr, w.heap[opsG]? = some (.cells opsCells.toArray Ty fr)) (htok : ∀ w', Below w.heap.size w w' -> Calls Tryz.prog 11 #[.string text] w' (ToksSays (tokensL text.data.toList) w')) :
  Calls Tryz.prog 6 #[.string text] w (ParseSays (parseL text) w) :=
 parse_fn text w hops htok (tokens_line0 _) (tokens_end _)
end Go.Proofs.YtnkejjlidgnkkaaGreatDoor.Ps
namespace Go.Proofs.YtnkejjlidgnkkaaGreatDoor.Nd

open Go.Lib renaming hid → qh
open Go Go.RowKit Go.ChangeShapes Go.WideShapes Go.Shelf
theorem ret_bool {x y : Bool} (h : x = y) : Ending.returned (Value.bool x) = .returned (.bool y) := by rw [h]
def Kl (w : World) (v : Value) (ks : List Nat) : Prop :=
 ∃ ao cap, v = .slice ao ks.length cap /\ ks.length <= cap /\ ks.length <= 1000000000 /\ (∀ k ∈ ks, k < 256) /\ (ks ≠ [] -> ∃ g off, g < w.heap.size /\ ao = some ⟨g, off, none⟩ /\ ∀ (j : Nat) (h : j < ks.length), w.cell? ⟨g, off + j, none⟩ = some (.int .u8 (ks[j] : Int)))
theorem Kl.below {w w' : World} {v : Value} {ks : List Nat} (h : Kl w v ks) (hb : Below w.heap.size w w') : Kl w' v ks := by
 obtain ⟨ao, cap, rfl, hl, hc2, h256, hc⟩ := h;refine ⟨ao, cap, rfl, hl, hc2, h256, fun hne => ?_⟩;obtain ⟨g, off, hg, rfl, hx⟩ := hc hne;exact ⟨g, off, Nat.lt_of_lt_of_le hg hb.size, rfl, fun j h => by rw [hb.cell (p := ⟨g, off + j, none⟩) hg]; exact hx j h⟩
theorem Kl.at {w : World} {ao : Option Addr} {n cap : Nat} {ks : List Nat} (h : Kl w (.slice ao n cap) ks) {j : Nat} (hj : j < ks.length) : ∃ g off, ao = some ⟨g, off, none⟩ /\ w.cell? ⟨g, off + j, none⟩ = some (.int .u8 (ks[j] : Int)) /\ ks[j] < 256 := by
 obtain ⟨ao', cap', e, _, _, h256, hc⟩ := h;cases e;obtain ⟨g, off, _, rfl, hx⟩ := hc (fun h => by rw [h] at hj; cases hj);exact ⟨g, off, rfl, hx j hj, h256 _ (List.getElem_mem hj)⟩
def Fn1 (w : World) (fv : Value) (p : Nat -> Bool) : Prop :=
 ∃ f caps, fv = .func (.func f) #[] caps /\ (∀ args W, (callFunc f args).run Tryz.prog W = .ok (.enter f args) W) /\ ∀ W (k : Nat), Below w.heap.size w W -> k < 256 -> Calls Tryz.prog f (#[.int .u8 (k : Int)] ++ caps) W fun e W' => e = .returned (.bool (p k)) /\ Below W.heap.size W W'
theorem Fn1.below {w w' : World} {fv : Value} {p : Nat -> Bool} (h : Fn1 w fv p) (hb : Below w.heap.size w w') : Fn1 w' fv p := by
 obtain ⟨f, caps, rfl, he, hc⟩ := h;exact ⟨f, caps, rfl, he, fun W k hW hk => hc W k (hb.trans (hW.mono hb.size)) hk⟩
theorem own_stat (k : Nat) (w : World) (hk : k < 256) : Calls Tryz.prog 59 #[.int .u8 (k : Int)] w fun e w' => e = .returned (.bool (statK k)) /\ w = w' := by
 have e : statK k = (decide ((2 : Int) <= k) && decide ((k : Int) <= 15)) := by unfold statK; rw [Bool.eq_iff_iff]; simp; omega
 rw [e];clear e;have hk0 : (0 : Int) <= k := Int.natCast_nonneg k;have hk1 : (k : Int) < 256 := by omega
 clear hk;generalize (k : Int) = z at *;go_enter Tryz.func59, Tryz.ntmps59;go_wp2
 all_goals
  go_ret;refine ⟨ret_bool ?_, rfl⟩
  first
   | (simp_all; done)
   | (simp_all; omega)
   | (rw [Bool.eq_iff_iff]; simp; omega)
   | (trace_state; fail)
theorem own_expr (k : Nat) (w : World) (hk : k < 256) : Calls Tryz.prog 65 #[.int .u8 (k : Int)] w fun e w' => e = .returned (.bool (exprK k)) /\ w = w' := by
 have e : exprK k = ((decide ((20 : Int) <= k) && decide ((k : Int) <= 35)) || decide ((k : Int) = 38)) := by unfold exprK; rw [Bool.eq_iff_iff]; simp; omega
 rw [e];clear e;have hk0 : (0 : Int) <= k := Int.natCast_nonneg k;have hk1 : (k : Int) < 256 := by omega
 clear hk;generalize (k : Int) = z at *;go_enter Tryz.func65, Tryz.ntmps65;go_wp2
 all_goals
  go_ret;refine ⟨ret_bool ?_, rfl⟩
  first
   | (simp_all; done)
   | (simp_all; omega)
   | (rw [Bool.eq_iff_iff]; simp; omega)
   | (trace_state; fail)
theorem fn_stat (w : World) : Fn1 w (.func (.func 59) #[] #[]) statK :=
 ⟨_, #[], rfl, enters_of Tryz.func59 (by kernel_rfl) rfl, fun W k _ hk => (own_stat k W hk).mono fun _ _ h => ⟨h.1, h.2 ▸ Below.refl _ _⟩⟩
theorem fn_expr (w : World) : Fn1 w (.func (.func 65) #[] #[]) exprK :=
 ⟨_, #[], rfl, enters_of Tryz.func65 (by kernel_rfl) rfl, fun W k _ hk => (own_expr k W hk).mono fun _ _ h => ⟨h.1, h.2 ▸ Below.refl _ _⟩⟩
theorem index_k (v : Value) (ks : List Nat) (x : Nat) (w : World) (hK : Kl w v ks) :
  Calls Tryz.prog 109 #[v, .int .u8 (x : Int)] w fun e w' => (∃ i : Int, e = .returned (.int .i64 i) /\ (0 <= i ↔ x ∈ ks) /\ -1 <= i /\ i <= 1000000000) /\ w = w' := by
 have HK := qh hK;obtain ⟨ao, cap, rfl, hl, hc2, _, _⟩ := hK;obtain ⟨n, hn⟩ : ∃ n, n = ks.length := ⟨_, rfl⟩;rw [<- hn] at hl hc2;rw [<- hn] at HK ⊢;have HN := qh hn;clear hn;go_enter Tryz.func109, Tryz.ntmps109;go_wp2_with fail;go_loopg [8] n (fun r i wr => ∃ k : Nat, r = n - k /\ i = .int .i64 (k : Int) /\ k <= n /\ wr = w /\ ∀ i (hi : i < k), ks[i]? ≠ some x)
 case atStart => exact ⟨0, rfl, rfl, Nat.zero_le _, rfl, fun i hi => absurd hi (by omega)⟩
 case round =>
  obtain ⟨k, rfl, rfl, hk, rfl, hno⟩ := hrel;have HNO := qh hno;clear hno;by_cases hlt : k < n
  ·have hkl : k < ks.length := by have := HN.out; omega
   obtain ⟨g, off, rfl, hcell, h256⟩ := HK.out.at hkl;obtain ⟨y, hy⟩ : ∃ y, ks[k] = y := ⟨_, rfl⟩;rw [hy] at hcell h256;have HY := qh hy;clear hy;have hlt' : (k : Int) < n := by omega
   by_cases he : x = y
   ·have he' : (x : Int) = y := by omega
    go_wp2_with fail;go_ret;refine ⟨⟨_, rfl, ?_, by omega, by omega⟩, rfl⟩;refine ⟨fun _ => ?_, fun _ => by omega⟩;rw [he, <- HY.out];exact List.getElem_mem hkl
   ·have he' : ¬ (x : Int) = y := by omega
    go_wp2_with fail;go_roundg (n - (k + 1))
    case measure => omega
    case rel => exact ⟨k + 1, rfl, by go_num, by omega, rfl, fun i hi h => by
     rcases Nat.lt_or_ge i k with h1 | h1
     ·exact HNO.out i h1 h
     ·obtain rfl : i = k := by omega
      rw [List.getElem?_eq_getElem hkl, HY.out] at h;exact he (Option.some.inj h).symm⟩
  ·obtain rfl : k = n := by omega
   have hlt' : ¬ (k : Int) < k := by omega
   go_wp2_with fail;go_ret;refine ⟨⟨-1, rfl, ?_, by omega, by omega⟩, rfl⟩;refine ⟨fun h => absurd h (by omega), fun hm => ?_⟩
   exfalso
   obtain ⟨i, hi, e⟩ := List.getElem_of_mem hm;exact HNO.out i (by have := HN.out; omega) (by rw [List.getElem?_eq_getElem hi, e])
theorem contains_k (v : Value) (ks : List Nat) (x : Nat) (w : World) (hK : Kl w v ks) :
  Calls Tryz.prog 63 #[v, .int .u8 (x : Int)] w fun e w' => e = .returned (.bool (ks.contains x)) /\ w = w' := by
 have c := index_k v ks x w hK;obtain ⟨ao, cap, rfl, _⟩ := hK;go_enter Tryz.func63, Tryz.ntmps63;go_wp2_with fail;refine c.mono ?_;rintro e w1 ⟨⟨i, rfl, hi, h1, h2⟩, rfl⟩;have HI := qh hi;clear hi c;by_cases h0 : 0 <= i
 ·go_wp2_with fail;go_ret;exact ⟨ret_bool (by rw [List.contains_eq_mem, eq_comm, decide_eq_true_iff]; exact HI.out.1 h0), rfl⟩
 ·go_wp2_with fail;go_ret;exact ⟨ret_bool (by rw [List.contains_eq_mem]; exact decide_eq_decide.2 HI.out), rfl⟩
theorem index_n (v : Value) (ks : List Nat) (x : Nat) (w : World) (hK : Kl w v ks) :
  Calls Tryz.prog 134 #[v, .int .u8 (x : Int)] w fun e w' => (∃ i : Int, e = .returned (.int .i64 i) /\ (0 <= i ↔ x ∈ ks) /\ -1 <= i /\ i <= 1000000000) /\ w = w' := by
 have HK := qh hK;obtain ⟨ao, cap, rfl, hl, hc2, _, _⟩ := hK;obtain ⟨n, hn⟩ : ∃ n, n = ks.length := ⟨_, rfl⟩;rw [<- hn] at hl hc2;rw [<- hn] at HK ⊢;have HN := qh hn;clear hn;go_enter Tryz.func134, Tryz.ntmps134;go_wp2_with fail;go_loopg [8] n (fun r i wr => ∃ k : Nat, r = n - k /\ i = .int .i64 (k : Int) /\ k <= n /\ wr = w /\ ∀ i (hi : i < k), ks[i]? ≠ some x)
 case atStart => exact ⟨0, rfl, rfl, Nat.zero_le _, rfl, fun i hi => absurd hi (by omega)⟩
 case round =>
  obtain ⟨k, rfl, rfl, hk, rfl, hno⟩ := hrel;have HNO := qh hno;clear hno;by_cases hlt : k < n
  ·have hkl : k < ks.length := by have := HN.out; omega
   obtain ⟨g, off, rfl, hcell, h256⟩ := HK.out.at hkl;obtain ⟨y, hy⟩ : ∃ y, ks[k] = y := ⟨_, rfl⟩;rw [hy] at hcell h256;have HY := qh hy;clear hy;have hlt' : (k : Int) < n := by omega
   by_cases he : x = y
   ·have he' : (x : Int) = y := by omega
    go_wp2_with fail;go_ret;refine ⟨⟨_, rfl, ?_, by omega, by omega⟩, rfl⟩;refine ⟨fun _ => ?_, fun _ => by omega⟩;rw [he, <- HY.out];exact List.getElem_mem hkl
   ·have he' : ¬ (x : Int) = y := by omega
    go_wp2_with fail;go_roundg (n - (k + 1))
    case measure => omega
    case rel => exact ⟨k + 1, rfl, by go_num, by omega, rfl, fun i hi h => by
     rcases Nat.lt_or_ge i k with h1 | h1
     ·exact HNO.out i h1 h
     ·obtain rfl : i = k := by omega
      rw [List.getElem?_eq_getElem hkl, HY.out] at h;exact he (Option.some.inj h).symm⟩
  ·obtain rfl : k = n := by omega
   have hlt' : ¬ (k : Int) < k := by omega
   go_wp2_with fail;go_ret;refine ⟨⟨-1, rfl, ?_, by omega, by omega⟩, rfl⟩;refine ⟨fun h => absurd h (by omega), fun hm => ?_⟩
   exfalso
   obtain ⟨i, hi, e⟩ := List.getElem_of_mem hm;exact HNO.out i (by have := HN.out; omega) (by rw [List.getElem?_eq_getElem hi, e])
theorem contains_n (v : Value) (ks : List Nat) (x : Nat) (w : World) (hK : Kl w v ks) :
  Calls Tryz.prog 106 #[v, .int .u8 (x : Int)] w fun e w' => e = .returned (.bool (ks.contains x)) /\ w = w' := by
 have c := index_n v ks x w hK;obtain ⟨ao, cap, rfl, _⟩ := hK;go_enter Tryz.func106, Tryz.ntmps106;go_wp2_with fail;refine c.mono ?_;rintro e w1 ⟨⟨i, rfl, hi, h1, h2⟩, rfl⟩;have HI := qh hi;clear hi c;by_cases h0 : 0 <= i
 ·go_wp2_with fail;go_ret;exact ⟨ret_bool (by rw [List.contains_eq_mem, eq_comm, decide_eq_true_iff]; exact HI.out.1 h0), rfl⟩
 ·go_wp2_with fail;go_ret;exact ⟨ret_bool (by rw [List.contains_eq_mem]; exact decide_eq_decide.2 HI.out), rfl⟩
end Go.Proofs.YtnkejjlidgnkkaaGreatDoor.Nd
namespace Go.Proofs.YtnkejjlidgnkkaaGreatDoor.Nd

open Go.Lib renaming hid → qh
open Go Go.RowKit Go.ChangeShapes Go.WideShapes Go.Shelf
open Go.Proofs.YtnkejjlidgnkkaaGreatDoor.Num (run_index_at)
def digB (b : Nat) : Bool := decide (48 <= b /\ b <= 57)
def letB (b : Nat) : Bool := decide (65 <= b /\ b <= 90 \/ 97 <= b /\ b <= 122 \/ b = 95)
def wordsL : List ByteArray := [⟨#[97, 110, 100]⟩, ⟨#[98, 114, 101, 97, 107]⟩, ⟨#[100, 111]⟩, ⟨#[101, 108, 115, 101]⟩, ⟨#[101, 108, 115, 101, 105, 102]⟩, ⟨#[101, 110, 100]⟩, ⟨#[102, 97, 108, 115, 101]⟩, ⟨#[102, 111, 114]⟩, ⟨#[102, 117, 110, 99, 116, 105, 111, 110]⟩, ⟨#[103, 111, 116, 111]⟩, ⟨#[105, 102]⟩, ⟨#[105, 110]⟩, ⟨#[108, 111, 99, 97, 108]⟩, ⟨#[110, 105, 108]⟩, ⟨#[110, 111, 116]⟩, ⟨#[111, 114]⟩, ⟨#[114, 101, 112, 101, 97, 116]⟩, ⟨#[114, 101, 116, 117, 114, 110]⟩, ⟨#[116, 104, 101, 110]⟩, ⟨#[116, 114, 117, 101]⟩, ⟨#[117, 110, 116, 105, 108]⟩, ⟨#[119, 104, 105, 108, 101]⟩]
def wordB (s : ByteArray) : Bool := wordsL.any fun t => t.toList == s.toList
theorem own_digit (b : Nat) (w : World) (hb : b < 256) : Calls Tryz.prog 47 #[.int .u8 (b : Int)] w fun e w' => e = .returned (.bool (digB b)) /\ w = w' := by
 go_enter Tryz.func47, Tryz.ntmps47;go_wp2
 all_goals
  go_ret;refine ⟨ret_bool ?_, rfl⟩;unfold digB;rw [Bool.eq_iff_iff]
  first | (simp; done) | (simp; omega)
theorem own_letter (b : Nat) (w : World) (hb : b < 256) : Calls Tryz.prog 45 #[.int .u8 (b : Int)] w fun e w' => e = .returned (.bool (letB b)) /\ w = w' := by
 go_enter Tryz.func45, Tryz.ntmps45;go_wp2
 all_goals
  go_ret;refine ⟨ret_bool ?_, rfl⟩;unfold letB;rw [Bool.eq_iff_iff]
  first | (simp; done) | (simp; omega)
theorem own_word (s : ByteArray) (w : World) :
  Calls Tryz.prog 90 #[.string s] w fun e w' => e = .returned (.bool (wordB s)) /\ w = w' := by
 go_enter Tryz.func90, Tryz.ntmps90;go_wp2
 all_goals
  go_ret;refine ⟨ret_bool ?_, rfl⟩;unfold wordB wordsL
  first
   | (simp_all; done)
   | (simp_all; and_intros <;> (intro h; exact absurd h.symm (by assumption)))
def charsB (s : ByteArray) (k : Nat) : Bool := (List.range' k (s.size - k)).all fun i => letB (Num.byteAt s i) || digB (Num.byteAt s i)
def nmD (s : ByteArray) : Bool := !(decide (s.toList = []) || decide (60 < s.size) || digB (Num.byteAt s 0) || wordB s) && charsB s 0
theorem chars_end (s : ByteArray) : charsB s s.size = true := by unfold charsB; rw [Nat.sub_self]; rfl
theorem chars_step (s : ByteArray) (k : Nat) (h : k < s.size) : charsB s k = ((letB (Num.byteAt s k) || digB (Num.byteAt s k)) && charsB s (k + 1)) := by
 unfold charsB;rw [show s.size - k = (s.size - (k + 1)) + 1 by omega, List.range'_succ, List.all_cons]
theorem own_name (s : ByteArray) (w : World) :
  Calls Tryz.prog 56 #[.string s] w fun e w' => e = .returned (.bool (nmD s)) /\ Below w.heap.size w w' := by
 obtain ⟨Z, hZ⟩ : ∃ Z, nmD s = Z := ⟨_, rfl⟩;rw [hZ];have HZ := qh hZ;clear hZ;by_cases h0 : s.toList = []
 ·have e : Z = false := by
   rw [<- HZ.out]; unfold nmD; rw [decide_eq_true h0]; rfl
  go_enter Tryz.func56, Tryz.ntmps56;go_wp2_with fail;go_ret;exact ⟨ret_bool e.symm, Below.refl _ _⟩
 have hsz : 0 < s.size := by
  rcases Nat.eq_zero_or_pos s.size with h | h
  ·exact absurd (by rw [ByteArray.toList_eq]; exact List.eq_nil_of_length_eq_zero h) h0
  ·exact h
 have he : s.toList.isEmpty = false := by
  cases h : s.toList with
  | nil => exact absurd h h0
  | cons _ _ => rfl
 by_cases h1 : 60 < s.size
 ·have e : Z = false := by
   rw [<- HZ.out]; unfold nmD; rw [decide_eq_true h1, Bool.or_true]; rfl
  have h1' : (60 : Int) < s.size := by omega
  go_enter Tryz.func56, Tryz.ntmps56;go_wp2_with fail;go_ret;exact ⟨ret_bool e.symm, Below.refl _ _⟩
 have h1' : ¬ (60 : Int) < s.size := by omega
 have hx := run_index_at (P := Tryz.prog) 9 s 0 0 Tryz.underlying9 hsz rfl;have cd := fun w => own_digit (Num.byteAt s 0) w (Num.byteAt_lt s 0)
 have cw := fun w => own_word s w
 have hz2 : Z = (!(digB (Num.byteAt s 0) || wordB s) && charsB s 0) := by
  rw [<- HZ.out]; unfold nmD; rw [decide_eq_false h0, decide_eq_false h1, Bool.false_or, Bool.false_or]
 have HZ2 := qh hz2;clear hz2;generalize digB (Num.byteAt s 0) = D at *;generalize wordB s = W at *;have HC0 := qh (rfl : Num.byteAt s 0 = Num.byteAt s 0);cases D with
 | true =>
  go_enter Tryz.func56, Tryz.ntmps56;go_wp2_with (go_at_call 47; refine (cd _).mono ?_; rintro e w' ⟨rfl, rfl⟩);go_ret;exact ⟨ret_bool HZ2.out.symm, Below.refl _ _⟩
 | false =>
 cases W with
 | true =>
  go_enter Tryz.func56, Tryz.ntmps56;go_wp2_with (first | (go_at_call 47; refine (cd _).mono ?_; rintro e w' ⟨rfl, rfl⟩) | (go_at_call 90; refine (cw _).mono ?_; rintro e w' ⟨rfl, rfl⟩));go_ret;exact ⟨ret_bool HZ2.out.symm, Below.refl _ _⟩
 | false =>
  have hrun := run_bytes_of_string (P := Tryz.prog) w 9 78 5 s Tryz.underlying9 Tryz.underlying78 Tryz.underlying5;obtain ⟨w1, hw1⟩ : ∃ w1, w.drew.alloc (.cells (bytesRow s (grownCap w s.size 0 5)) 5 ((bytesRow s (grownCap w s.size 0 5)).size, (bytesRow s (grownCap w s.size 0 5)).size + 1)) = w1 := ⟨_, rfl⟩;rw [hw1] at hrun;have hB : Below w.heap.size w w1 := by rw [<- hw1]; exact ((Below.refl _ w).drew).alloc (Nat.le_refl _) _
  have hcells : ∀ k, k < s.size -> w1.cell? ⟨w.heap.size, k, none⟩ = some (.int .u8 (Num.byteAt s k : Int)) := by
   intro k hk;rw [<- hw1];have := World.cell?_alloc_mark w.drew (bytesRow s (grownCap w s.size 0 5)) 5 ((bytesRow s (grownCap w s.size 0 5)).size, (bytesRow s (grownCap w s.size 0 5)).size + 1) k;refine this.trans ?_;rw [bytesRow_at s _ k hk];unfold Num.byteAt ByteArray.get!;simp [hk]
  generalize grownCap w s.size 0 5 = cp at *;have HCL := qh hcells;have HB := qh hB;clear hcells hw1 hB;obtain ⟨n, hn⟩ : ∃ n, s.size = n := ⟨_, rfl⟩;rw [hn] at hsz h1 h1' hrun;have HN := qh hn;obtain ⟨g, hg⟩ : ∃ g, w.heap.size = g := ⟨_, rfl⟩;rw [hg] at hrun;have HG := qh hg;have hlen : (s.size : Int) = n := by omega
  clear hn hg;go_enter Tryz.func56, Tryz.ntmps56;go_wp2_with (first | (go_at_call 47; refine (cd _).mono ?_; rintro e w' ⟨rfl, rfl⟩) | (go_at_call 90; refine (cw _).mono ?_; rintro e w' ⟨rfl, rfl⟩));clear hx cd cw hrun;go_loopg [24] n (fun r i wr => ∃ k : Nat, r = n - k /\ i = .int .i64 (k : Int) /\ k <= n /\ wr = w1 /\ charsB s 0 = charsB s k)
  case atStart => exact ⟨0, rfl, rfl, Nat.zero_le _, rfl, rfl⟩
  case round =>
   obtain ⟨k, rfl, rfl, hk, rfl, hch⟩ := hrel;have HCH := qh hch;clear hch;by_cases hlt : k < n
   ·have hlt' : (k : Int) < n := by omega
    have hc := HCL.out k (by have := HN.out; omega);rw [HG.out] at hc;have hst := chars_step s k (by have := HN.out; omega);have HST := qh hst;have cl := fun w => own_letter (Num.byteAt s k) w (Num.byteAt_lt s k)
    have cd := fun w => own_digit (Num.byteAt s k) w (Num.byteAt_lt s k)
    clear hst;generalize letB (Num.byteAt s k) = L at *;generalize digB (Num.byteAt s k) = D at *;generalize Num.byteAt s k = b at *;cases L with
    | true =>
     go_wp2_with (go_at_call 45; refine (cl _).mono ?_; rintro e w' ⟨rfl, rfl⟩);go_roundg (n - (k + 1))
     case measure => omega
     case rel => exact ⟨k + 1, rfl, by go_num, by omega, rfl, by rw [HCH.out, HST.out]; rfl⟩
    | false =>
     cases D with
     | true =>
      go_wp2_with (first | (go_at_call 47; refine (cd _).mono ?_; rintro e w' ⟨rfl, rfl⟩) | (go_at_call 45; refine (cl _).mono ?_; rintro e w' ⟨rfl, rfl⟩));go_roundg (n - (k + 1))
      case measure => omega
      case rel => exact ⟨k + 1, rfl, by go_num, by omega, rfl, by rw [HCH.out, HST.out]; rfl⟩
     | false =>
      go_wp2_with (first | (go_at_call 47; refine (cd _).mono ?_; rintro e w' ⟨rfl, rfl⟩) | (go_at_call 45; refine (cl _).mono ?_; rintro e w' ⟨rfl, rfl⟩));go_ret;exact ⟨ret_bool (by rw [HZ2.out, HCH.out, HST.out]; rfl), HB.out⟩
   ·obtain rfl : k = n := by omega
    have hlt' : ¬ (k : Int) < k := by omega
    go_wp2_with fail;go_ret;exact ⟨ret_bool (by rw [HZ2.out, HCH.out, <- HN.out, chars_end]; rfl), HB.out⟩
end Go.Proofs.YtnkejjlidgnkkaaGreatDoor.Nd
