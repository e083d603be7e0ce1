/-
  A part of the proof.
-/
import Derived.Laws.Rows
import Derived.RegionTactic
import Derived.ChangeAlike
import Derived.BigRegion
import Derived.Lib.Hide
import Derived.Test.YtnkejjlidgnkkaaGreatDoorClRG
set_option maxRecDepth 100000
set_option maxHeartbeats 40000000
namespace Go.Proofs.YtnkejjlidgnkkaaGreatDoor.Ps

open Go.Lib renaming hid → qh
open Go Go.RowKit Go.ChangeShapes Go.WideShapes Go.Shelf
open Go.Proofs.YtnkejjlidgnkkaaGreatDoor.Nd
open Go.Proofs.YtnkejjlidgnkkaaGreatDoor.Lex (Tok tokensL TokReads)
theorem run_index_part {P : Program} (t e : TypeId) (n z : Nat) (cs : Array Value) (k : Nat) (h : P.underlying t = some (.array n e)) (ha : ∀ w, (isAgg e).run P w = .ok true w) (hz : ∀ w, (sizeOf e).run P w = .ok z w)
  (hk : k < n) (x : Int) (hx : x = k) (w : World) : (Instr.index t (.agg cs) (.int .i64 x)).run P w = .ok (.agg (cs.extract (k * z) (k * z + z))) w := by
 subst hx;have h1 : (0 : Int) <= (k : Int) /\ (k : Int) < (n : Int) := by omega
 simp [Instr.index, asIntOf, run_underlying h, h1, part, ha, hz, go_sem];exact fun g => by omega
def opV (m : ByteArray) (o : Oper) : Array Value := #[.string m, .int .u8 (o.kind : Int), .int .u8 (o.op : Int), .int .i64 (o.binds : Int)]
theorem ops_at : ∀ (k : Nat) (h : k < 19), opsCells.toArray.extract (k * 4) (k * 4 + 4) = opV (operators[k]'h).1 (operators[k]'h).2
 | 0, _ => rfl | 1, _ => rfl | 2, _ => rfl | 3, _ => rfl | 4, _ => rfl | 5, _ => rfl | 6, _ => rfl | 7, _ => rfl | 8, _ => rfl | 9, _ => rfl
 | 10, _ => rfl | 11, _ => rfl | 12, _ => rfl | 13, _ => rfl | 14, _ => rfl | 15, _ => rfl | 16, _ => rfl | 17, _ => rfl | 18, _ => rfl
 | n + 19, h => by omega
theorem find_drop (m : ByteArray) (k : Nat) (h : k < 19) : operFind (operators.drop k) m = if (operators[k]'h).1 = m then (operators[k]'h).2 else operFind (operators.drop (k + 1)) m := by
 rw [List.drop_eq_getElem_cons (show k < operators.length from h)]
 rfl
theorem set_same {w : World} {B : Nat} {cs : Array Value} {t : TypeId} {fr : Nat × Nat} (h : w.heap[B]? = some (.cells cs t fr)) (j : Nat) (v : Value) : (w.setCell ⟨B, j, none⟩ v).heap[B]? = some (.cells (cs.setIfInBounds j v) t fr) := Joins.block_setCell (i := j) h v
theorem four_set {w : World} {B : Nat} {a0 a1 a2 a3 v0 v1 v2 v3 : Value} {t : TypeId} (h : w.heap[B]? = some (.cells #[a0, a1, a2, a3] t (0, 0))) :
  ((((w.setCell ⟨B, 0, none⟩ v0).setCell ⟨B, 1, none⟩ v1).setCell ⟨B, 2, none⟩ v2).setCell ⟨B, 3, none⟩ v3).heap[B]? = some (.cells #[v0, v1, v2, v3] t (0, 0)) := by
 have h1 := set_same h 0 v0;have h2 := set_same h1 1 v1;have h3 := set_same h2 2 v2;exact set_same h3 3 v3
theorem four_below {w0 w : World} {b B : Nat} (hb : Below b w0 w) (h : b <= B) (v0 v1 v2 v3 : Value) : Below b w0 ((((w.setCell ⟨B, 0, none⟩ v0).setCell ⟨B, 1, none⟩ v1).setCell ⟨B, 2, none⟩ v2).setCell ⟨B, 3, none⟩ v3) :=
 (((hb.setCell (p := ⟨B, 0, none⟩) h _).setCell (p := ⟨B, 1, none⟩) h _).setCell (p := ⟨B, 2, none⟩) h _).setCell (p := ⟨B, 3, none⟩) h _
theorem operatorOf_fn (m : ByteArray) (w : World) (hg : ∃ Ty fr, w.heap[opsG]? = some (.cells opsCells.toArray Ty fr)) : Calls Tryz.prog 171 #[.string m] w fun e w' => (∃ mm, e = .returned (.agg (opV mm (operOf m)))) /\ Below w.heap.size w w' := by
 obtain ⟨Ty, fr, hg⟩ := hg;have hgW := fun o => ((al w o).block _ (lt_of_heap hg)).trans hg
 clear hg;go_enter Tryz.func171, Tryz.ntmps171;go_wp2_with (refine wpList_load_row rfl 171 _ rfl opsG rfl Ty _ fr _ (hgW _) Tryz.underlying171 rfl (by kernel_rfl) ?_);generalize hcs : opsCells.toArray = cs at *;have HCS := qh hcs;clear hcs hgW;go_loopg [6] 19 (fun r x wr => ∃ k : Nat, r = 19 - k /\ k <= 19 /\ x = .int .i64 (k : Int) /\ Below w.heap.size w wr /\ wr.heap[w.heap.size]? = some (.cells #[.string ⟨#[]⟩, .int .u8 0, .int .u8 0, .int .i64 0] 159 (0, 0)) /\ operOf m = operFind (operators.drop k) m)
 case atStart => exact ⟨0, rfl, by omega, rfl, al _ _, hit rfl, rfl⟩
 case round =>
  obtain ⟨k, rfl, hk, rfl, hb, hB, hm⟩ := hrel;have HB := qh hb;have HM := qh hm;have z0 := cell_of hB 0 (.string ⟨#[]⟩) rfl;have z1 := cell_of hB 1 (.int .u8 0) rfl;have z2 := cell_of hB 2 (.int .u8 0) rfl;have z3 := cell_of hB 3 (.int .i64 0) rfl;have f0 := free_of hB 0;have f1 := free_of hB 1;have f2 := free_of hB 2;have f3 := free_of hB 3;have hBlt : w.heap.size < wr.heap.size := lt_of_heap hB;have HBB := qh hB;clear hb hm hB;by_cases hk19 : k < 19
  ·have hlt : (k : Int) < 19 := by omega
   have hix := run_index_part (P := Tryz.prog) 171 159 19 4 cs k Tryz.underlying171 (fun _ => by kernel_rfl) (fun _ => by kernel_rfl) hk19 (k : Int) rfl;rw [<- HCS.out, ops_at k hk19, HCS.out] at hix;have HF := qh (find_drop m k hk19);generalize (operators[k]'hk19).1 = u at *;generalize (operators[k]'hk19).2 = o at *;unfold opV at hix;by_cases hu : u = m
   ·subst hu;have HO := qh (show operOf u = o from by rw [HM.out, HF.out, if_pos rfl]);clear HM HF;have z0 := fun o => cell_up (al wr o) z0
    have z1 := fun o => cell_up (al wr o) z1
    have z2 := fun o => cell_up (al wr o) z2
    have z3 := fun o => cell_up (al wr o) z3
    have f0 := fun o => ((al wr o).frozen (p := ⟨w.heap.size, 0, none⟩) hBlt).trans f0
    have f1 := fun o => ((al wr o).frozen (p := ⟨w.heap.size, 1, none⟩) hBlt).trans f1
    have f2 := fun o => ((al wr o).frozen (p := ⟨w.heap.size, 2, none⟩) hBlt).trans f2
    have f3 := fun o => ((al wr o).frozen (p := ⟨w.heap.size, 3, none⟩) hBlt).trans f3
    go_wp2_with fail;have hV := four_set (v0 := .string u) (v1 := .int .u8 (o.kind : Int)) (v2 := .int .u8 (o.op : Int)) (v3 := .int .i64 (o.binds : Int)) HBB.out;have hU := four_below HB.out (Nat.le_refl _) (.string u) (.int .u8 (o.kind : Int)) (.int .u8 (o.op : Int)) (.int .i64 (o.binds : Int));generalize (((wr.setCell ⟨w.heap.size, 0, none⟩ (.string u)).setCell ⟨w.heap.size, 1, none⟩ (.int .u8 (o.kind : Int))).setCell ⟨w.heap.size, 2, none⟩ (.int .u8 (o.op : Int))).setCell ⟨w.heap.size, 3, none⟩ (.int .i64 (o.binds : Int)) = V at *;have hV2 := ((al V (.cells #[.string u, .int .u8 (o.kind : Int), .int .u8 (o.op : Int), .int .i64 (o.binds : Int)] 159)).block _ (lt_of_heap hV)).trans hV;have e0 := cell_of hV2 0 (.string u) rfl;have e1 := cell_of hV2 1 (.int .u8 (o.kind : Int)) rfl;have e2 := cell_of hV2 2 (.int .u8 (o.op : Int)) rfl;have e3 := cell_of hV2 3 (.int .i64 (o.binds : Int)) rfl;refine bodyPost_ret (v := .agg (opV u o)) (by simp [results, Tryz.results171, go_sem, e0, e1, e2, e3, opV]) rfl ?_;exact ⟨⟨u, by rw [HO.out]⟩, hU.alloc hU.size _⟩
   ·have b1 : (u.toList == m.toList) = false := by
     cases hx : (u.toList == m.toList) with
     | false => rfl
     | true => exact absurd (text_eq (by simpa using hx)) hu
    have HO := qh (show operOf m = operFind (operators.drop (k + 1)) m from by rw [HM.out, HF.out, if_neg hu]);have hw : IntKind.i64.wrap ((k : Int) + 1) = ((k + 1 : Nat) : Int) := by rw [IntWalk.i64_in _ (by omega)]; omega
    clear HM HF hu;go_wp2_with fail;go_roundg (19 - (k + 1))
    case measure => omega
    case rel => exact ⟨k + 1, rfl, by omega, rfl, HB.out.alloc (Nat.le_of_lt hBlt) _, ((al wr _).block _ hBlt).trans HBB.out, HO.out⟩
  ·have hlt : ¬ (k : Int) < 19 := by omega
   have HO := qh (show operOf m = ⟨0, 0, 0⟩ from by
    have e : k = 19 := by omega
    rw [HM.out, e]; rfl)
   clear HM;go_wp2_with fail;have hV := four_set (v0 := .string ⟨#[]⟩) (v1 := .int .u8 0) (v2 := .int .u8 0) (v3 := .int .i64 0) HBB.out;have hU := four_below HB.out (Nat.le_refl _) (.string ⟨#[]⟩) (.int .u8 0) (.int .u8 0) (.int .i64 0);generalize (((wr.setCell ⟨w.heap.size, 0, none⟩ (.string ⟨#[]⟩)).setCell ⟨w.heap.size, 1, none⟩ (.int .u8 0)).setCell ⟨w.heap.size, 2, none⟩ (.int .u8 0)).setCell ⟨w.heap.size, 3, none⟩ (.int .i64 0) = V at *;have e0 := cell_of hV 0 (.string ⟨#[]⟩) rfl;have e1 := cell_of hV 1 (.int .u8 0) rfl;have e2 := cell_of hV 2 (.int .u8 0) rfl;have e3 := cell_of hV 3 (.int .i64 0) rfl;refine bodyPost_ret (v := .agg (opV ⟨#[]⟩ ⟨0, 0, 0⟩)) (by simp [results, Tryz.results171, go_sem, e0, e1, e2, e3, opV]) rfl ?_;exact ⟨⟨_, by rw [HO.out]⟩, hU⟩

open Go.Lib renaming hid → qh
open Go Go.RowKit Go.ChangeShapes Go.WideShapes Go.Shelf
open Go.Proofs.YtnkejjlidgnkkaaGreatDoor.Nd
open Go.Proofs.YtnkejjlidgnkkaaGreatDoor.Lex (Tok tokensL TokReads)
def nodeV (nd : Nd) (nm kv : Value) : Value := .agg #[.int .u8 (nd.k : Int), .int .i64 nd.n, .string nd.name, nm, kv, .int .i64 nd.line]
theorem alloc3_mid (w : World) (a b c : Obj) : (((w.alloc a).alloc b).alloc c).heap[w.heap.size + 1]? = some b :=
 ((al ((w.alloc a).alloc b) c).block (w.heap.size + 1) (by simp)).trans (hit (by simp))
theorem literal_fn (t : Tok) (w : World) : Calls Tryz.prog 186 #[tokV t] w fun e w' => e = .returned (nodeV (literal t) (.slice none 0 0) (.slice none 0 0)) /\ Below w.heap.size w w' := by
 obtain ⟨r, hr⟩ : ∃ r, r = literal t := ⟨_, rfl⟩;rw [<- hr];have HM := qh hr;unfold literal at HM;clear hr;obtain ⟨k, ts, n, line⟩ := t
 dsimp only at HM
 unfold tokV nodeV;by_cases h4 : k = 4
 ·have b4 : ((k : Int) == 4) = true := by simp; omega
  have HR := qh (HM.out.trans (if_pos h4));clear HM h4;go_enter Tryz.func186, Tryz.ntmps186;go_wp2_with fail;go_region;go_wp2_with fail;have hb := (((Below.refl w.heap.size w).alloc (Nat.le_refl _) (.cells #[.int .u8 (k : Int), .string ts, .int .i64 n, .int .i64 (line : Int)] 55)).alloc (by simp) (.cells #[.int .u8 23, .int .i64 n, .string ⟨#[]⟩, .slice none 0 0, .slice none 0 0, .int .i64 (line : Int)] 35)).alloc (by simp; omega) (.cells #[.int .u8 23, .int .i64 n, .string ⟨#[]⟩, .slice none 0 0, .slice none 0 0, .int .i64 (line : Int)] 35);have hx := alloc3_mid w (.cells #[.int .u8 (k : Int), .string ts, .int .i64 n, .int .i64 (line : Int)] 55) (.cells #[.int .u8 23, .int .i64 n, .string ⟨#[]⟩, .slice none 0 0, .slice none 0 0, .int .i64 (line : Int)] 35) (.cells #[.int .u8 23, .int .i64 n, .string ⟨#[]⟩, .slice none 0 0, .slice none 0 0, .int .i64 (line : Int)] 35);generalize ((w.alloc (.cells #[.int .u8 (k : Int), .string ts, .int .i64 n, .int .i64 (line : Int)] 55)).alloc (.cells #[.int .u8 23, .int .i64 n, .string ⟨#[]⟩, .slice none 0 0, .slice none 0 0, .int .i64 (line : Int)] 35)).alloc (.cells #[.int .u8 23, .int .i64 n, .string ⟨#[]⟩, .slice none 0 0, .slice none 0 0, .int .i64 (line : Int)] 35) = V at *
  replace hb := hb.drew
  replace hx : V.drew.heap[w.heap.size + 1]? = _ := hx
  generalize V.drew = V at *;have x0 := cell_of hx 0 (.int .u8 23) rfl;have x1 := cell_of hx 1 (.int .i64 n) rfl;have x2 := cell_of hx 2 (.string ⟨#[]⟩) rfl;have x3 := cell_of hx 3 (.slice none 0 0) rfl;have x4 := cell_of hx 4 (.slice none 0 0) rfl;have x5 := cell_of hx 5 (.int .i64 (line : Int)) rfl;refine bodyPost_ret (v := .agg #[.int .u8 23, .int .i64 n, .string ⟨#[]⟩, .slice none 0 0, .slice none 0 0, .int .i64 (line : Int)]) (by simp [results, Tryz.results186, go_sem, x0, x1, x2, x3, x4, x5]) rfl ?_;exact ⟨by rw [HR.out]; rfl, hb⟩
 ·skip
  by_cases h5 : k = 5
  ·have b5 : ((k : Int) == 5) = true := by simp; omega
   have b4 : ((k : Int) == 4) = false := by simp; omega
   have HR := qh (HM.out.trans ((if_neg h4).trans (if_pos h5)));clear HM h5 h4;go_enter Tryz.func186, Tryz.ntmps186;go_wp2_with fail;go_region;go_wp2_with fail;have hb := (((Below.refl w.heap.size w).alloc (Nat.le_refl _) (.cells #[.int .u8 (k : Int), .string ts, .int .i64 n, .int .i64 (line : Int)] 55)).alloc (by simp) (.cells #[.int .u8 24, .int .i64 0, .string ts, .slice none 0 0, .slice none 0 0, .int .i64 (line : Int)] 35)).alloc (by simp; omega) (.cells #[.int .u8 24, .int .i64 0, .string ts, .slice none 0 0, .slice none 0 0, .int .i64 (line : Int)] 35);have hx := alloc3_mid w (.cells #[.int .u8 (k : Int), .string ts, .int .i64 n, .int .i64 (line : Int)] 55) (.cells #[.int .u8 24, .int .i64 0, .string ts, .slice none 0 0, .slice none 0 0, .int .i64 (line : Int)] 35) (.cells #[.int .u8 24, .int .i64 0, .string ts, .slice none 0 0, .slice none 0 0, .int .i64 (line : Int)] 35);generalize ((w.alloc (.cells #[.int .u8 (k : Int), .string ts, .int .i64 n, .int .i64 (line : Int)] 55)).alloc (.cells #[.int .u8 24, .int .i64 0, .string ts, .slice none 0 0, .slice none 0 0, .int .i64 (line : Int)] 35)).alloc (.cells #[.int .u8 24, .int .i64 0, .string ts, .slice none 0 0, .slice none 0 0, .int .i64 (line : Int)] 35) = V at *
   replace hb := hb.drew
   replace hx : V.drew.heap[w.heap.size + 1]? = _ := hx
   generalize V.drew = V at *;have x0 := cell_of hx 0 (.int .u8 24) rfl;have x1 := cell_of hx 1 (.int .i64 0) rfl;have x2 := cell_of hx 2 (.string ts) rfl;have x3 := cell_of hx 3 (.slice none 0 0) rfl;have x4 := cell_of hx 4 (.slice none 0 0) rfl;have x5 := cell_of hx 5 (.int .i64 (line : Int)) rfl;refine bodyPost_ret (v := .agg #[.int .u8 24, .int .i64 0, .string ts, .slice none 0 0, .slice none 0 0, .int .i64 (line : Int)]) (by simp [results, Tryz.results186, go_sem, x0, x1, x2, x3, x4, x5]) rfl ?_;exact ⟨by rw [HR.out]; rfl, hb⟩
  ·have b5 : ((k : Int) == 5) = false := by simp; omega
   have b4 : ((k : Int) == 4) = false := by simp; omega
   have HR0 := qh (HM.out.trans ((if_neg h4).trans (if_neg h5)));clear HM h4 h5;by_cases hwNil : ts = wNil
   ·have bwNil := w_t [110, 105, 108] hwNil;have HR := qh (show r = ⟨20, 0, ⟨#[]⟩, [], [], line⟩ from by rw [HR0.out, if_pos hwNil]);clear HR0 hwNil;go_enter Tryz.func186, Tryz.ntmps186;go_wp2_with fail;have hb := (((Below.refl w.heap.size w).alloc (Nat.le_refl _) (.cells #[.int .u8 (k : Int), .string ts, .int .i64 n, .int .i64 (line : Int)] 55)).alloc (by simp) (.cells #[.int .u8 20, .int .i64 0, .string ⟨#[]⟩, .slice none 0 0, .slice none 0 0, .int .i64 (line : Int)] 35)).alloc (by simp; omega) (.cells #[.int .u8 20, .int .i64 0, .string ⟨#[]⟩, .slice none 0 0, .slice none 0 0, .int .i64 (line : Int)] 35);have hx := alloc3_mid w (.cells #[.int .u8 (k : Int), .string ts, .int .i64 n, .int .i64 (line : Int)] 55) (.cells #[.int .u8 20, .int .i64 0, .string ⟨#[]⟩, .slice none 0 0, .slice none 0 0, .int .i64 (line : Int)] 35) (.cells #[.int .u8 20, .int .i64 0, .string ⟨#[]⟩, .slice none 0 0, .slice none 0 0, .int .i64 (line : Int)] 35);generalize ((w.alloc (.cells #[.int .u8 (k : Int), .string ts, .int .i64 n, .int .i64 (line : Int)] 55)).alloc (.cells #[.int .u8 20, .int .i64 0, .string ⟨#[]⟩, .slice none 0 0, .slice none 0 0, .int .i64 (line : Int)] 35)).alloc (.cells #[.int .u8 20, .int .i64 0, .string ⟨#[]⟩, .slice none 0 0, .slice none 0 0, .int .i64 (line : Int)] 35) = V at *;have x0 := cell_of hx 0 (.int .u8 20) rfl;have x1 := cell_of hx 1 (.int .i64 0) rfl;have x2 := cell_of hx 2 (.string ⟨#[]⟩) rfl;have x3 := cell_of hx 3 (.slice none 0 0) rfl;have x4 := cell_of hx 4 (.slice none 0 0) rfl;have x5 := cell_of hx 5 (.int .i64 (line : Int)) rfl;refine bodyPost_ret (v := .agg #[.int .u8 20, .int .i64 0, .string ⟨#[]⟩, .slice none 0 0, .slice none 0 0, .int .i64 (line : Int)]) (by simp [results, Tryz.results186, go_sem, x0, x1, x2, x3, x4, x5]) rfl ?_;exact ⟨by rw [HR.out]; rfl, hb⟩
   ·have bwNil := w_f [110, 105, 108] hwNil;by_cases hwTrue : ts = wTrue
    ·have bwTrue := w_t [116, 114, 117, 101] hwTrue;have HR := qh (show r = ⟨21, 0, ⟨#[]⟩, [], [], line⟩ from by rw [HR0.out, if_neg hwNil, if_pos hwTrue]);clear HR0 hwNil hwTrue;go_enter Tryz.func186, Tryz.ntmps186;go_wp2_with fail;have hb := (((Below.refl w.heap.size w).alloc (Nat.le_refl _) (.cells #[.int .u8 (k : Int), .string ts, .int .i64 n, .int .i64 (line : Int)] 55)).alloc (by simp) (.cells #[.int .u8 21, .int .i64 0, .string ⟨#[]⟩, .slice none 0 0, .slice none 0 0, .int .i64 (line : Int)] 35)).alloc (by simp; omega) (.cells #[.int .u8 21, .int .i64 0, .string ⟨#[]⟩, .slice none 0 0, .slice none 0 0, .int .i64 (line : Int)] 35);have hx := alloc3_mid w (.cells #[.int .u8 (k : Int), .string ts, .int .i64 n, .int .i64 (line : Int)] 55) (.cells #[.int .u8 21, .int .i64 0, .string ⟨#[]⟩, .slice none 0 0, .slice none 0 0, .int .i64 (line : Int)] 35) (.cells #[.int .u8 21, .int .i64 0, .string ⟨#[]⟩, .slice none 0 0, .slice none 0 0, .int .i64 (line : Int)] 35);generalize ((w.alloc (.cells #[.int .u8 (k : Int), .string ts, .int .i64 n, .int .i64 (line : Int)] 55)).alloc (.cells #[.int .u8 21, .int .i64 0, .string ⟨#[]⟩, .slice none 0 0, .slice none 0 0, .int .i64 (line : Int)] 35)).alloc (.cells #[.int .u8 21, .int .i64 0, .string ⟨#[]⟩, .slice none 0 0, .slice none 0 0, .int .i64 (line : Int)] 35) = V at *;have x0 := cell_of hx 0 (.int .u8 21) rfl;have x1 := cell_of hx 1 (.int .i64 0) rfl;have x2 := cell_of hx 2 (.string ⟨#[]⟩) rfl;have x3 := cell_of hx 3 (.slice none 0 0) rfl;have x4 := cell_of hx 4 (.slice none 0 0) rfl;have x5 := cell_of hx 5 (.int .i64 (line : Int)) rfl;refine bodyPost_ret (v := .agg #[.int .u8 21, .int .i64 0, .string ⟨#[]⟩, .slice none 0 0, .slice none 0 0, .int .i64 (line : Int)]) (by simp [results, Tryz.results186, go_sem, x0, x1, x2, x3, x4, x5]) rfl ?_;exact ⟨by rw [HR.out]; rfl, hb⟩
    ·have bwTrue := w_f [116, 114, 117, 101] hwTrue;by_cases hwFalse : ts = wFalse
     ·have bwFalse := w_t [102, 97, 108, 115, 101] hwFalse;have HR := qh (show r = ⟨22, 0, ⟨#[]⟩, [], [], line⟩ from by rw [HR0.out, if_neg hwNil, if_neg hwTrue, if_pos hwFalse]);clear HR0 hwNil hwTrue hwFalse;go_enter Tryz.func186, Tryz.ntmps186;go_wp2_with fail;have hb := (((Below.refl w.heap.size w).alloc (Nat.le_refl _) (.cells #[.int .u8 (k : Int), .string ts, .int .i64 n, .int .i64 (line : Int)] 55)).alloc (by simp) (.cells #[.int .u8 22, .int .i64 0, .string ⟨#[]⟩, .slice none 0 0, .slice none 0 0, .int .i64 (line : Int)] 35)).alloc (by simp; omega) (.cells #[.int .u8 22, .int .i64 0, .string ⟨#[]⟩, .slice none 0 0, .slice none 0 0, .int .i64 (line : Int)] 35);have hx := alloc3_mid w (.cells #[.int .u8 (k : Int), .string ts, .int .i64 n, .int .i64 (line : Int)] 55) (.cells #[.int .u8 22, .int .i64 0, .string ⟨#[]⟩, .slice none 0 0, .slice none 0 0, .int .i64 (line : Int)] 35) (.cells #[.int .u8 22, .int .i64 0, .string ⟨#[]⟩, .slice none 0 0, .slice none 0 0, .int .i64 (line : Int)] 35);generalize ((w.alloc (.cells #[.int .u8 (k : Int), .string ts, .int .i64 n, .int .i64 (line : Int)] 55)).alloc (.cells #[.int .u8 22, .int .i64 0, .string ⟨#[]⟩, .slice none 0 0, .slice none 0 0, .int .i64 (line : Int)] 35)).alloc (.cells #[.int .u8 22, .int .i64 0, .string ⟨#[]⟩, .slice none 0 0, .slice none 0 0, .int .i64 (line : Int)] 35) = V at *;have x0 := cell_of hx 0 (.int .u8 22) rfl;have x1 := cell_of hx 1 (.int .i64 0) rfl;have x2 := cell_of hx 2 (.string ⟨#[]⟩) rfl;have x3 := cell_of hx 3 (.slice none 0 0) rfl;have x4 := cell_of hx 4 (.slice none 0 0) rfl;have x5 := cell_of hx 5 (.int .i64 (line : Int)) rfl;refine bodyPost_ret (v := .agg #[.int .u8 22, .int .i64 0, .string ⟨#[]⟩, .slice none 0 0, .slice none 0 0, .int .i64 (line : Int)]) (by simp [results, Tryz.results186, go_sem, x0, x1, x2, x3, x4, x5]) rfl ?_;exact ⟨by rw [HR.out]; rfl, hb⟩
     ·have bwFalse := w_f [102, 97, 108, 115, 101] hwFalse;by_cases hwDots : ts = wDots
      ·have bwDots := w_t [46, 46, 46] hwDots;have HR := qh (show r = ⟨25, 0, ⟨#[]⟩, [], [], line⟩ from by rw [HR0.out, if_neg hwNil, if_neg hwTrue, if_neg hwFalse, if_pos hwDots]);clear HR0 hwNil hwTrue hwFalse hwDots;go_enter Tryz.func186, Tryz.ntmps186;go_wp2_with fail;have hb := (((Below.refl w.heap.size w).alloc (Nat.le_refl _) (.cells #[.int .u8 (k : Int), .string ts, .int .i64 n, .int .i64 (line : Int)] 55)).alloc (by simp) (.cells #[.int .u8 25, .int .i64 0, .string ⟨#[]⟩, .slice none 0 0, .slice none 0 0, .int .i64 (line : Int)] 35)).alloc (by simp; omega) (.cells #[.int .u8 25, .int .i64 0, .string ⟨#[]⟩, .slice none 0 0, .slice none 0 0, .int .i64 (line : Int)] 35);have hx := alloc3_mid w (.cells #[.int .u8 (k : Int), .string ts, .int .i64 n, .int .i64 (line : Int)] 55) (.cells #[.int .u8 25, .int .i64 0, .string ⟨#[]⟩, .slice none 0 0, .slice none 0 0, .int .i64 (line : Int)] 35) (.cells #[.int .u8 25, .int .i64 0, .string ⟨#[]⟩, .slice none 0 0, .slice none 0 0, .int .i64 (line : Int)] 35);generalize ((w.alloc (.cells #[.int .u8 (k : Int), .string ts, .int .i64 n, .int .i64 (line : Int)] 55)).alloc (.cells #[.int .u8 25, .int .i64 0, .string ⟨#[]⟩, .slice none 0 0, .slice none 0 0, .int .i64 (line : Int)] 35)).alloc (.cells #[.int .u8 25, .int .i64 0, .string ⟨#[]⟩, .slice none 0 0, .slice none 0 0, .int .i64 (line : Int)] 35) = V at *;have x0 := cell_of hx 0 (.int .u8 25) rfl;have x1 := cell_of hx 1 (.int .i64 0) rfl;have x2 := cell_of hx 2 (.string ⟨#[]⟩) rfl;have x3 := cell_of hx 3 (.slice none 0 0) rfl;have x4 := cell_of hx 4 (.slice none 0 0) rfl;have x5 := cell_of hx 5 (.int .i64 (line : Int)) rfl;refine bodyPost_ret (v := .agg #[.int .u8 25, .int .i64 0, .string ⟨#[]⟩, .slice none 0 0, .slice none 0 0, .int .i64 (line : Int)]) (by simp [results, Tryz.results186, go_sem, x0, x1, x2, x3, x4, x5]) rfl ?_;exact ⟨by rw [HR.out]; rfl, hb⟩
      ·have bwDots := w_f [46, 46, 46] hwDots;have HR := qh (show r = ⟨0, 0, ⟨#[]⟩, [], [], line⟩ from by rw [HR0.out, if_neg hwNil, if_neg hwTrue, if_neg hwFalse, if_neg hwDots]);clear HR0 hwNil hwTrue hwFalse hwDots;go_enter Tryz.func186, Tryz.ntmps186;go_wp2_with fail;have hb := (((Below.refl w.heap.size w).alloc (Nat.le_refl _) (.cells #[.int .u8 (k : Int), .string ts, .int .i64 n, .int .i64 (line : Int)] 55)).alloc (by simp) (.cells #[.int .u8 0, .int .i64 0, .string ⟨#[]⟩, .slice none 0 0, .slice none 0 0, .int .i64 (line : Int)] 35)).alloc (by simp; omega) (.cells #[.int .u8 0, .int .i64 0, .string ⟨#[]⟩, .slice none 0 0, .slice none 0 0, .int .i64 (line : Int)] 35);have hx := alloc3_mid w (.cells #[.int .u8 (k : Int), .string ts, .int .i64 n, .int .i64 (line : Int)] 55) (.cells #[.int .u8 0, .int .i64 0, .string ⟨#[]⟩, .slice none 0 0, .slice none 0 0, .int .i64 (line : Int)] 35) (.cells #[.int .u8 0, .int .i64 0, .string ⟨#[]⟩, .slice none 0 0, .slice none 0 0, .int .i64 (line : Int)] 35);generalize ((w.alloc (.cells #[.int .u8 (k : Int), .string ts, .int .i64 n, .int .i64 (line : Int)] 55)).alloc (.cells #[.int .u8 0, .int .i64 0, .string ⟨#[]⟩, .slice none 0 0, .slice none 0 0, .int .i64 (line : Int)] 35)).alloc (.cells #[.int .u8 0, .int .i64 0, .string ⟨#[]⟩, .slice none 0 0, .slice none 0 0, .int .i64 (line : Int)] 35) = V at *;have x0 := cell_of hx 0 (.int .u8 0) rfl;have x1 := cell_of hx 1 (.int .i64 0) rfl;have x2 := cell_of hx 2 (.string ⟨#[]⟩) rfl;have x3 := cell_of hx 3 (.slice none 0 0) rfl;have x4 := cell_of hx 4 (.slice none 0 0) rfl;have x5 := cell_of hx 5 (.int .i64 (line : Int)) rfl;refine bodyPost_ret (v := .agg #[.int .u8 0, .int .i64 0, .string ⟨#[]⟩, .slice none 0 0, .slice none 0 0, .int .i64 (line : Int)]) (by simp [results, Tryz.results186, go_sem, x0, x1, x2, x3, x4, x5]) rfl ?_;exact ⟨by rw [HR.out]; rfl, hb⟩
def eqBehind (T : List Tok) (s : St) : Bool := (tk T ⟨s.at' + 1, s.l⟩).k == 3 && decide ((tk T ⟨s.at' + 1, s.l⟩).s = wEq)
section
variable {T : List Tok} {tv : Value} {P base : Nat} {s : St} {nv : NR}
theorem tok_behind {w : World} (h : PAt T tv P base s nv w) (hn : s.at' + 1 < T.length) : ∃ g c, tv = .slice (some ⟨g, 0, none⟩) T.length c /\ w.cell? ⟨g, (s.at' + 1) * 4, none⟩ = some (.int .u8 ((tk T ⟨s.at' + 1, s.l⟩).k : Int)) /\ w.cell? ⟨g, (s.at' + 1) * 4 + 1, none⟩ = some (.string (tk T ⟨s.at' + 1, s.l⟩).s) /\ w.cell? ⟨g, (s.at' + 1) * 4 + 2, none⟩ = some (.int .i64 (tk T ⟨s.at' + 1, s.l⟩).n) /\ w.cell? ⟨g, (s.at' + 1) * 4 + 3, none⟩ = some (.int .i64 ((tk T ⟨s.at' + 1, s.l⟩).line : Int)) := by
 obtain ⟨ao, cap, rfl, hc⟩ := h.toks;obtain ⟨g, hg, rfl, hcell⟩ := hc (fun e => by have := h.here; rw [e] at this; exact absurd this (Nat.not_lt_zero _));have := hcell (s.at' + 1) hn;have e : tk T ⟨s.at' + 1, s.l⟩ = T[s.at' + 1]'hn := by unfold tk; rw [List.getD_eq_getElem?_getD, List.getElem?_eq_getElem hn]; rfl
 rw [e];exact ⟨g, cap, rfl, this⟩
theorem nextIs_fn (w : World) (h : PAt T tv P base s nv w) (hn : s.at' + 1 < T.length) : Calls Tryz.prog 199 #[.pointer (some ⟨P, 0, none⟩), .string wEq] w fun e w' => e = .returned (.bool (eqBehind T s)) /\ Below w.heap.size w w' := by
 obtain ⟨g, c, rfl, x0, x1, x2, x3⟩ := tok_behind h hn;have y0 := cell_of h.cells 0 (.slice (some ⟨g, 0, none⟩) T.length c) rfl;have y1 := cell_of h.cells 1 (.int .i64 (s.at' : Int)) rfl;have hlt : (((s.at' + 1 : Nat) : Int)) < (T.length : Int) := by omega
 have hw : IntKind.i64.wrap ((s.at' : Int) + 1) = ((s.at' + 1 : Nat) : Int) := by rw [IntWalk.i64_in _ (by have := h.few; omega)]; omega
 have HM := qh (show eqBehind T s = ((tk T ⟨s.at' + 1, s.l⟩).k == 3 && decide ((tk T ⟨s.at' + 1, s.l⟩).s = wEq)) from rfl);generalize eqBehind T s = u at *;generalize tk T ⟨s.at' + 1, s.l⟩ = t at *;obtain ⟨k, ts, nn, line⟩ := t
 dsimp only at x0 x1 x2 x3 HM
 generalize s.at' + 1 = j at *;clear h hn;have hal := fun o => al w o
 have y0' := fun o => cell_up (hal o) y0
 have y1' := fun o => cell_up (hal o) y1
 have x0' := fun o => cell_up (hal o) x0
 have x1' := fun o => cell_up (hal o) x1
 have x2' := fun o => cell_up (hal o) x2
 have x3' := fun o => cell_up (hal o) x3
 have HAL := qh hal;clear hal;by_cases h3 : k = 3
 ·have b3 : ((k : Int) == 3) = true := by simp; omega
  by_cases he : ts = wEq
  ·obtain rfl : u = true := by rw [HM.out]; simp [h3, he]
   have be := w_t [61] he;have be2 : (ts.toList == wEq.toList) = true := by rw [he]; simp
   clear HM h3 he;go_enter Tryz.func199, Tryz.ntmps199;go_wp2_with fail;go_region;go_wp2_with fail;go_ret;exact ⟨rfl, (HAL.out _).drew⟩
  ·obtain rfl : u = false := by rw [HM.out, h3]; simp [he]
   have be := w_f [61] he;have be2 : (ts.toList == wEq.toList) = false := by
    cases hx : (ts.toList == wEq.toList) with
    | false => rfl
    | true => exact absurd (text_eq (by simpa using hx)) he
   clear HM h3 he;go_enter Tryz.func199, Tryz.ntmps199;go_wp2_with fail;go_region;go_wp2_with fail;go_ret;exact ⟨rfl, (HAL.out _).drew⟩
 ·have b3 : ((k : Int) == 3) = false := by simp; omega
  obtain rfl : u = false := by rw [HM.out]; simp [h3]
  clear HM h3;generalize wEq = q at *;go_enter Tryz.func199, Tryz.ntmps199;go_wp2_with fail;go_region;go_wp2_with fail;go_ret;exact ⟨rfl, (HAL.out _).drew⟩
end
end Go.Proofs.YtnkejjlidgnkkaaGreatDoor.Ps
