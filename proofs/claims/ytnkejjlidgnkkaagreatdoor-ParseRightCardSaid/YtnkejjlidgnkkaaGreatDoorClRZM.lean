/-
  A part of the proof.
-/
import Derived.Test.YtnkejjlidgnkkaaGreatDoorCards
import Derived.Test.YtnkejjlidgnkkaaGreatDoorTie
import Derived.ChangeArms
import Derived.WalkKit
import Derived.ProofKit
import Derived.OpenShut
import Derived.ShutString
import Derived.Below
import Derived.Deep.DeepHandedRow
import Derived.Lib.LaidTab
import Derived.Stop.LaidErr
import Derived.MakeChecks
import Derived.LaidMore
import Derived.Lay
import Derived.SevenTiedAt
import Derived.Stop.Joined
import Derived.Deep.CutBlock
import Derived.Deep.DeepCutAuto
import Derived.Lib.Hide
import Derived.Deep.LoopGhost
import Derived.BigQuiet
import Derived.Deep.QuietTactic
import Derived.BigGuard
import Derived.StillTailTactics
import Derived.Test.YtnkejjlidgnkkaaGreatDoorClRB
import Derived.Test.YtnkejjlidgnkkaaGreatDoorClRC
import Derived.Test.YtnkejjlidgnkkaaGreatDoorClRR
import Derived.Test.YtnkejjlidgnkkaaGreatDoorClRS
import Derived.Test.YtnkejjlidgnkkaaGreatDoorClRU
import Derived.Test.YtnkejjlidgnkkaaGreatDoorClRV
import Derived.Test.YtnkejjlidgnkkaaGreatDoorClRZC
import Derived.Test.YtnkejjlidgnkkaaGreatDoorClRZH
import Derived.Test.YtnkejjlidgnkkaaGreatDoorClRZL
set_option maxRecDepth 100000
set_option maxHeartbeats 40000000
namespace Go.Proofs.YtnkejjlidgnkkaaGreatDoor.Nd

open Go.Lib renaming hid → qh
open Go Go.RowKit Go.ChangeShapes Go.WideShapes
theorem own_at {w : World} {b g n cap size : Nat} {o : Nat} {e : TypeId} {xs : List Value} (h : w.ownsRow b e size (.slice (some ⟨g, o, none⟩) n cap) n xs) : o = 0 /\ b <= g /\ n <= cap /\ ∃ cur, w.heap[g]? = some (.cells cur e (0, 0)) /\ ∀ (j : Nat) (u : Value), xs[j]? = some u -> cur[j]? = some u := by
 rcases h.2 with ⟨h1, _⟩ | ⟨g', cap', cur, hv, hg, hh, hc, hm, hs, ht⟩
 ·cases h1
 ·cases hv;refine ⟨rfl, hg, hc, cur, hh, fun j u hj => ?_⟩;rw [<- ht] at hj;have h2 := (List.getElem?_eq_some_iff.1 hj).1;rw [List.length_take] at h2;rw [List.getElem?_take, if_pos (by omega), Array.getElem?_toList] at hj;exact hj
theorem lst_of {w : World} {b n : Nat} {e : TypeId} {v : Value} {xs : List Value} (h : w.ownsRow b e 1 v n xs) (hl : n <= 9223372036854775807) : Lst w v xs := by
 have hn : xs.length = n := by have := h.1; omega
 rcases h.2 with ⟨rfl, h1⟩ | ⟨g, cap, cur, rfl, hg, hh, hc, hm, hs, ht⟩
 ·subst h1;exact ⟨none, 0, by rw [hn], by omega, fun h => absurd (List.length_eq_zero_iff.1 hn) h⟩
 ·refine ⟨some ⟨g, 0, none⟩, cap, by rw [hn], by omega, fun _ => ⟨g, 0, (Array.getElem?_eq_some_iff.1 hh).1, rfl, fun j hj => ?_⟩⟩;obtain ⟨_, _, _, cur', hh', hx⟩ := own_at h;rw [hh] at hh';cases hh';rw [Nat.zero_add];exact cell_of hh j _ (hx j _ (List.getElem?_eq_getElem hj))
theorem row_at : ∀ (rs : List R3) (j i : Nat) (r : R3), rs[j]? = some r -> i < 6 -> (rowCells rs)[j * 6 + i]? = (cells6 r)[i]?
 | [], j, i, r, h, _ => by cases h
 | t :: l, 0, i, r, h, hi => by
  cases h
  show (cells6 t ++ rowCells l)[0 * 6 + i]? = _;rw [Nat.zero_mul, Nat.zero_add, List.getElem?_append_left hi]
 | t :: l, j + 1, i, r, h, hi => by
  show (cells6 t ++ rowCells l)[(j + 1) * 6 + i]? = _;rw [List.getElem?_append_right (by show 6 <= _; omega), show (j + 1) * 6 + i - (cells6 t).length = j * 6 + i by show (j + 1) * 6 + i - 6 = _; omega];exact row_at l j i r h hi
theorem own_syn {w : World} {b : Nat} {v : Value} {rs : List R3} {root : Int} (h : OwnNd w b v rs) (hf : ∀ r ∈ rs, Fine r.1) (hr : In64 root) (hl : rs.length <= 1000000) : SynAt w (.agg #[v, .int .i64 root]) (rs.map (·.1)) root := by
 refine ⟨v, rfl, ?_, hr⟩;rcases h.1.2 with ⟨h3, h4⟩ | ⟨g, cap, cur, rfl, hg, hh, hc, hm, hs, ht⟩
 ·have : rs = [] := List.length_eq_zero_iff.1 h4;subst this;exact ⟨none, 0, h3, Nat.zero_le _, fun h => absurd rfl h⟩
 ·obtain ⟨_, _, _, cur', hh', hx⟩ := own_at h.1;rw [hh] at hh';cases hh';refine ⟨some ⟨g, 0, none⟩, cap, by rw [List.length_map], by rw [List.length_map]; omega, fun _ => ⟨g, 0, (Array.getElem?_eq_some_iff.1 hh).1, rfl, fun i hi => ?_⟩⟩;rw [List.length_map] at hi;have hri := List.getElem?_eq_getElem hi;have hS := h.2 _ (List.getElem_mem hi);have hF := hf _ (List.getElem_mem hi);have at6 : ∀ k, k < 6 -> ∀ u, (cells6 rs[i])[k]? = some u -> w.cell? ⟨g, 0 + i * 6 + k, none⟩ = some u := fun k hk u hu => by
   rw [Nat.zero_add];exact cell_of hh _ _ (hx _ _ (by rw [row_at rs i k _ hri hk, hu]))
  rw [List.getElem_map];have f6 := hF.2.2.2.2.2.1;have f7 := hF.2.2.2.2.2.2.1;exact ⟨rs[i].2.1, rs[i].2.2, at6 0 (by omega) _ rfl, at6 1 (by omega) _ rfl, at6 2 (by omega) _ rfl, at6 3 (by omega) _ rfl, at6 4 (by omega) _ rfl, at6 5 (by omega) _ rfl, lst_of hS.1 (by omega), lst_of hS.2 (by omega), hF⟩
end Go.Proofs.YtnkejjlidgnkkaaGreatDoor.Nd
namespace Go.Proofs.YtnkejjlidgnkkaaGreatDoor.Ps

open Go.Lib renaming hid → qh
open Go Go.RowKit Go.ChangeShapes Go.WideShapes Go.Shelf
open Go.Proofs.YtnkejjlidgnkkaaGreatDoor.Nd
open Go.Proofs.YtnkejjlidgnkkaaGreatDoor.Lex (Tok tokensL TokReads ToksSays LVars)
structure PVars (w : World) : Prop where
 lex : LVars w
 ops : ∃ Ty fr, w.heap[opsG]? = some (.cells opsCells.toArray Ty fr)
theorem PVars.below {w w' : World} (h : PVars w) (hb : Below w.heap.size w w') : PVars w' := by
 obtain ⟨h1, ⟨T, fr, h2⟩⟩ := h;exact ⟨h1.below hb, T, fr, (hb.block opsG (lt_of_heap h2)).trans h2⟩
theorem parse_calls (text : ByteArray) (w : World) (h : PVars w) : Calls Tryz.prog 6 #[.string text] w (ParseSays (parseL text) w) :=
 parse_is text w h.ops fun w' hb => Lex.own_tokens text w' (h.below hb).lex
theorem says_syn {text : ByteArray} {w w' : World} {v : Value} {rs : List R3} (hO : OwnNd w' w.heap.size v rs) (hm : rs.map (·.1) = (parseL text).1) (hR : RightP (rowD nmD) (parseL text).1 (parseL text).2.1) :
  SynAt w' (.agg #[v, .int .i64 (parseL text).2.1]) (parseL text).1 (parseL text).2.1 := by
 have hf := parse_fine text hR;have hl := hR.few;have ht := hR.top;rw [<- hm] at hf hl ht ⊢;refine own_syn hO (fun r hr => hf _ (List.mem_map_of_mem hr)) ?_ (by rw [List.length_map] at hl; omega);obtain ⟨h1, h2⟩ := ht;exact ⟨by omega, by omega⟩
theorem right_true {v : Value} {l : List Nd} {root : Int} {w : World} (hS : SynAt w v l root) (hf : ∀ n ∈ l, Fine n) (h : RightP (rowD nmD) l root) :
  Calls Tryz.prog 12 #[v] w fun e w' => e = .returned (.bool true) /\ Below w.heap.size w w' :=
 (callsIn_wide.1 (right_fn v l root w hS (by have := h.few; omega) hf)).mono fun e w' ⟨b, he, hb, hw⟩ => by
  obtain rfl : b = true := hb.2 ((right_iff _ _ _).2 h);exact ⟨he, hw⟩
end Go.Proofs.YtnkejjlidgnkkaaGreatDoor.Ps
namespace Go.Proofs.YtnkejjlidgnkkaaGreatDoor

open Go.Lib renaming hid → qh
open Go.ChangeShapes Go.WideShapes Go.ChangeAt Go.RowKit
theorem own : ownKnob Tryz.prog.godebug = none := by kernel_rfl
abbrev theLaid : List (String × DataW Unit) := [("math/bits.deBruijn32tab", Rows.laid_math_bits_deBruijn32tab), ("math/bits.deBruijn64tab", Rows.laid_math_bits_deBruijn64tab), ("internal/strconv.uint64pow10", Rows.laid_internal_strconv_uint64pow10), ("strconv.ErrRange", Rows.laid_strconv_ErrRange), ("strconv.ErrSyntax", Rows.laid_strconv_ErrSyntax), ("twinstep/lex.signs", Rows.laid_twinstep_lex_signs), ("twinstep/parse.operators", Rows.laid_twinstep_parse_operators)]
theorem laid_met (os : Os) (args : Array Value) : laidMetH Tryz.prog theLaid ((World.laidAll Tryz.prog os theLaid).forCall (fun _ _ => 0) ⟨#[], args, []⟩).memory := by
 rw [MakeChecks.laidMetH_plain _ _ _ (by kernel_rfl)]; exact laidMet_laidAll _ (by kernel_rfl) (by kernel_rfl)
theorem gTab : Tryz.prog.globalNamed "internal/strconv.uint64pow10" = some 5 := by kernel_rfl
theorem gTabType : (Tryz.prog.globals[5]?).map (·.type) = some 192 := by kernel_rfl
theorem gBad : Tryz.prog.globalNamed "strconv.ErrSyntax" = some 3 := by kernel_rfl
theorem gBadType : (Tryz.prog.globals[3]?).map (·.type) = some 83 := by kernel_rfl
theorem gFar : Tryz.prog.globalNamed "strconv.ErrRange" = some 4 := by kernel_rfl
theorem gFarType : (Tryz.prog.globals[4]?).map (·.type) = some 83 := by kernel_rfl
theorem gSig : Tryz.prog.globalNamed "twinstep/lex.signs" = some 0 := by kernel_rfl
theorem gSigType : (Tryz.prog.globals[0]?).map (·.type) = some 124 := by kernel_rfl
theorem gOps : Tryz.prog.globalNamed "twinstep/parse.operators" = some 2 := by kernel_rfl
theorem gOpsType : (Tryz.prog.globals[2]?).map (·.type) = some 171 := by kernel_rfl
theorem cellsOps : Tryz.prog.cellsOf 171 = 76 := by kernel_rfl
theorem cellsOp : Tryz.prog.cellsOf 159 = 4 := by kernel_rfl
theorem cellsTab : Tryz.prog.cellsOf 192 = 20 := by kernel_rfl
theorem cellsSig : Tryz.prog.cellsOf 124 = 31 := by kernel_rfl
theorem cellsOne : Tryz.prog.cellsOf 113 = 1 := by kernel_rfl
theorem cellsErr : Tryz.prog.cellsOf 184 = 1 := by kernel_rfl
theorem cellsStr : Tryz.prog.cellsOf 9 = 1 := by kernel_rfl
theorem starred : "*" ++ "errors.errorString" = "*errors.errorString" := by decide
theorem errRow (u : TypeId) (h : Tryz.prog.typeName? 3 u = some "*errors.errorString") : u = 182 :=
 typeName_ptr_named (nm := "errors.errorString") (by rw [starred]; kernel_rfl) (by kernel_rfl) (by decide) u (by rw [starred]; exact h)
theorem tabSame : (Rows.laid_internal_strconv_uint64pow10 : DataW Unit) = Lib.tabData .u64 Lib.pow10Tab := by kernel_rfl
def textsData (ts : List ByteArray) : DataW Unit := .agg (ts.map fun t => .lit (.string t.data.toList))
theorem sigSame : (Rows.laid_twinstep_lex_signs : DataW Unit) = textsData Lex.signsT := by kernel_rfl
theorem cells_texts {enc : TypeId × Value -> Unit} {P : Program} {w : World} {base : Nat} {sp : Nat -> Bool} {held : Bool} {fuel : Nat} {t e : TypeId} {n : Nat} {cs : List Value} {ts : List ByteArray} {p : List MemPlace}
  (ht : P.underlying t = some (.array n e)) (he : P.underlying e = some .string) (hce : P.cellsOf e = 1) (hct : P.cellsOf t = n)
  (h : DataW.trod enc P w base sp held fuel t cs = some (textsData ts, p)) : cs = ts.map Value.string := by
 cases fuel with
 | zero => simp [DataW.trod] at h
 | succ fuel =>
  simp only [DataW.trod, ht, hce, hct, Nat.mul_one] at h
  split at h
  ·rename_i hl;obtain ⟨xs, hm, hx⟩ := Option.map_eq_some_iff.1 h;have hxs : xs.map (·.1) = ts.map fun t => (DataW.lit (.string t.data.toList) : DataW Unit) := by
    have := congrArg Prod.fst hx
    simpa [textsData] using this
   have hxl : xs.length = n := by simpa using Lib.mapM_length hm
   have htl : ts.length = n := by
    have := congrArg List.length hxs;simp at this;omega
   apply List.ext_getElem?
   intro i;by_cases hi : i < n
   ·obtain ⟨b, hb, hf⟩ := Lib.mapM_at hm i i (by simp [hi]);obtain ⟨s, hc, rfl, _⟩ := DataW.trod_string he hf;have h1 : cs[i]? = some (.string s) := by
     have := congrArg (·[0]?) hc
     simpa [List.getElem?_take, List.getElem?_drop] using this
    have h2 : (xs.map (·.1))[i]? = some (DataW.lit (.string s.data.toList) : DataW Unit) := by simp [hb]
    rw [hxs] at h2;simp only [List.getElem?_map, Option.map_eq_some_iff, DataW.lit.injEq, Lit.string.injEq] at h2;obtain ⟨t', ht', he'⟩ := h2;have : t' = s := by
     apply ByteArray.ext
     apply Array.ext'
     exact he'
    subst this;simp [h1, ht']
   ·rw [List.getElem?_eq_none (by omega), List.getElem?_eq_none (by simp; omega)]
  ·cases h
def opData (x : ByteArray × Ps.Oper) : DataW Unit := .agg [.lit (.string x.1.data.toList), .lit (.int .u8 x.2.kind), .lit (.int .u8 x.2.op), .lit (.int .i64 x.2.binds)]
def opV4 (x : ByteArray × Ps.Oper) : List Value := [.string x.1, .int .u8 (x.2.kind : Int), .int .u8 (x.2.op : Int), .int .i64 (x.2.binds : Int)]
theorem opsSame : (Rows.laid_twinstep_parse_operators : DataW Unit) = .agg (Ps.operators.map opData) := by kernel_rfl
theorem chunks {α : Type} (f : α -> List Value) (hf : ∀ x, (f x).length = 4) : ∀ (l : List α) (cs : List Value), cs.length = 4 * l.length -> (∀ (i : Nat) (h : i < l.length), (cs.drop (i * 4)).take 4 = f l[i]) -> cs = l.flatMap f
 | [], cs, hl, _ => by
  have : cs = [] := List.length_eq_zero_iff.1 (by simpa using hl);rw [this]; rfl
 | a :: r, cs, hl, h => by
  have h0 := h 0 (by simp);simp only [Nat.zero_mul, List.drop_zero, List.getElem_cons_zero] at h0;have hr := chunks f hf r (cs.drop 4) (by rw [List.length_drop, hl, List.length_cons]; omega) (fun i hi => by
   have := h (i + 1) (by rw [List.length_cons]; omega);rw [List.getElem_cons_succ] at this;rw [List.drop_drop, <- this]
   congr 2
   omega)
  rw [List.flatMap_cons, <- h0, <- hr, List.take_append_drop]
theorem opFields : (Tryz.prog.underlying 159).map (fun u => match u with | .struct fs => fs.toList.map fun f => (f.type, f.offset) | _ => []) = some [(9, 0), (23, 1), (133, 2), (3, 3)] := by kernel_rfl
theorem cells_ops {enc : TypeId × Value -> Unit} {w : World} {base : Nat} {sp : Nat -> Bool} {held : Bool} {fuel : Nat} {cs : List Value} {p : List MemPlace}
  (h : DataW.trod enc Tryz.prog w base sp held fuel 171 cs = some (.agg (Ps.operators.map opData), p)) : cs = Ps.opsCells := by
 obtain ⟨xs, m, _, hx, hl, hn, hi⟩ := DataW.trod_array Tryz.underlying171 h;rw [cellsOps] at hl;rw [cellsOp] at hi;have hxs : xs.map (·.1) = Ps.operators.map opData := by
  have := congrArg Prod.fst hx
  simpa using this.symm
 refine chunks opV4 (fun _ => rfl) Ps.operators cs (by rw [hl]; rfl) fun i hlt => ?_
 have h19 : i < 19 := hlt;have h1 := hi i h19;have hxi : i < xs.length := by omega
 have h2 : xs[i].1 = opData Ps.operators[i] := by
  have e1 : (xs.map (·.1))[i]? = (Ps.operators.map opData)[i]? := by rw [hxs]
  rw [List.getElem?_map, List.getElem?_map, List.getElem?_eq_getElem hxi, List.getElem?_eq_getElem hlt] at e1;exact Option.some.inj e1
 rw [List.getElem?_eq_getElem hxi] at h1;obtain ⟨fs, hu, hfs⟩ : ∃ fs, Tryz.prog.underlying 159 = some (.struct fs) /\ fs.toList.map (fun f => (f.type, f.offset)) = [(9, 0), (23, 1), (133, 2), (3, 3)] := by
  have := opFields;rw [Option.map_eq_some_iff] at this;obtain ⟨u, hu, hm⟩ := this
  split at hm
  ·exact ⟨_, hu, hm⟩
  ·cases hm
 obtain ⟨ys, m2, _, hy, hyl, hyn, hyi⟩ := DataW.trod_struct hu h1;rw [cellsOp] at hyl;generalize Ps.operators[i] = o at *;have hsz : fs.size = 4 := by have := congrArg List.length hfs; simpa using this
 have hys : ys.map (·.1) = [.lit (.string o.1.data.toList), .lit (.int .u8 o.2.kind), .lit (.int .u8 o.2.op), .lit (.int .i64 o.2.binds)] := by
  rw [hy] at h2
  simpa [opData] using h2
 have hfield : ∀ (k : Nat) (t : TypeId) (off : Nat), (fs.toList.map fun f => (f.type, f.offset))[k]? = some (t, off) -> ∃ f, fs[k]? = some f /\ f.type = t /\ f.offset = off := fun k t off hk => by
  rw [List.getElem?_map, Option.map_eq_some_iff] at hk;obtain ⟨f, hf, he⟩ := hk;rw [Array.getElem?_toList] at hf
  injection he with he1 he2
  exact ⟨f, hf, he1, he2⟩
 rw [hfs] at hfield;obtain ⟨f0, g0, t0, o0⟩ := hfield 0 _ _ rfl;obtain ⟨f1, g1, t1, o1⟩ := hfield 1 _ _ rfl;obtain ⟨f2, g2, t2, o2⟩ := hfield 2 _ _ rfl;obtain ⟨f3, g3, t3, o3⟩ := hfield 3 _ _ rfl;have k0 := hyi 0 f0 g0;have k1 := hyi 1 f1 g1;have k2 := hyi 2 f2 g2;have k3 := hyi 3 f3 g3;rw [t0, o0] at k0;rw [t1, o1] at k1;rw [t2, o2] at k2;rw [t3, o3] at k3;rw [show Tryz.prog.cellsOf 9 = 1 by kernel_rfl] at k0;rw [show Tryz.prog.cellsOf 23 = 1 by kernel_rfl] at k1;rw [show Tryz.prog.cellsOf 133 = 1 by kernel_rfl] at k2;rw [show Tryz.prog.cellsOf 3 = 1 by kernel_rfl] at k3
 match ys, hyn.trans hsz, hys with
 | [y0, y1, y2, y3], _, hys =>
  simp only [List.map_cons, List.map_nil, List.cons.injEq, and_true] at hys;obtain ⟨s0, s1, s2, s3⟩ := hys;obtain ⟨s, c0, e0, -⟩ := DataW.trod_string Tryz.underlying9 k0;obtain ⟨n1, c1, e1, -⟩ := DataW.trod_int Tryz.underlying23 k1;obtain ⟨n2, c2, e2, -⟩ := DataW.trod_int Tryz.underlying133 k2;obtain ⟨n3, c3, e3, -⟩ := DataW.trod_int Tryz.underlying3 k3;subst e0 e1 e2 e3;simp only [DataW.lit.injEq, Lit.string.injEq, Lit.int.injEq, true_and] at s0 s1 s2 s3;have hs : s = o.1 := by
   apply ByteArray.ext
   apply Array.ext'
   exact s0
  subst hs s1 s2 s3;generalize (cs.drop (i * 4)).take 4 = ch at *
  match ch, hyl with
  | [a, b, c, d], _ =>
   simp at c0 c1 c2 c3;subst c0 c1 c2 c3
   rfl
theorem block_of_var {P : Program} {w : World} {name : String} {g : Nat} {cs : Array Value} (hg : P.globalNamed name = some g) (h : w.var? P name = some cs) : ∃ T fr, w.heap[g]? = some (.cells cs T fr) := by
 unfold World.var? at h;rw [hg] at h;simp only [Option.bind_some] at h
 split at h
 ·rename_i c T fr hc
  injection h with h
  subst h;exact ⟨T, fr, hc⟩
 ·cases h
theorem lt_of_cell {w : World} {g j : Nat} {v : Value} (h : w.cell? ⟨g, j, none⟩ = some v) : g < w.heap.size := by
 rcases Nat.lt_or_ge g w.heap.size with h' | h'
 ·exact h'
 ·unfold World.cell? at h;rw [Array.getElem?_eq_none h'] at h;cases h
theorem vars_of {W : World} (h : laidMetH Tryz.prog theLaid W) (hsh : W.ShapedOpen Tryz.prog) : Ps.PVars W := by
 rw [MakeChecks.laidMetH_plain _ _ _ (by kernel_rfl)] at h;have h2 := h.tail.tail;have h3 := h2.tail;have h4 := h3.tail;have h5 := h4.tail;have h5' := h5;rw [tabSame] at h2;rw [sigSame] at h5;obtain ⟨a0, s0, hv0, -, -, -⟩ := laid_sentinel h3 gFar gFarType Tryz.underlying83 errRow Tryz.underlying182 Tryz.underlying184 rfl rfl Tryz.underlying9 cellsErr cellsStr;obtain ⟨a1, s1, hv1, -, -, -⟩ := laid_sentinel h4 gBad gBadType Tryz.underlying83 errRow Tryz.underlying182 Tryz.underlying184 rfl rfl Tryz.underlying9 cellsErr cellsStr;obtain ⟨m, hm⟩ := Tryz.laysM143.s1_3 W hsh;obtain ⟨ps, ⟨g', t', cs, fuel, p, q, hg', ht', hvar, hd, _, _⟩, _⟩ := h5;obtain rfl := Option.some.inj (gSig.symm.trans hg');obtain rfl := Option.some.inj (gSigType.symm.trans ht');have hcs := cells_texts Tryz.underlying124 Tryz.underlying9 cellsStr cellsSig hd;have hcs2 : cs = (Lex.signsT.map Value.string).toArray := by rw [<- hcs]
 subst hcs2;have h6 := h5'.tail;rw [opsSame] at h6;obtain ⟨ps6, ⟨g6, t6, cs6, fuel6, p6, q6, hg6, ht6, hvar6, hd6, _, _⟩, _⟩ := h6;obtain rfl := Option.some.inj (gOps.symm.trans hg6);obtain rfl := Option.some.inj (gOpsType.symm.trans ht6);have hcs6 := cells_ops hd6;have hcs7 : cs6 = Ps.opsCells.toArray := by rw [<- hcs6]
 subst hcs7;refine ⟨?_, block_of_var gOps hvar6⟩;exact ⟨⟨Lib.tabIs_of_head gTab gTabType Tryz.underlying192 Tryz.underlying113 cellsOne cellsTab h2, ⟨_, _, hv1⟩, ⟨_, _, hv0⟩⟩, ⟨m, hm⟩, lt_of_cell hm, block_of_var gSig hvar⟩
theorem met_heap {w w' : World} (h : w.heap = w'.heap) (hm : laidMetH Tryz.prog theLaid w) : laidMetH Tryz.prog theLaid w' := laidMetH.of_heap h hm
theorem wrapped {H : Type} {enc : TypeId × Value -> H} {os : Os} {f : FuncId} {fn : Func} {s : ChangeSpec} (started : os.Started) (noInit : Tryz.checked.prog.inits.idxOf? f = none) (hfn : Tryz.checked.prog.funcs[f]? = some fn)
  (witness : ∃ (w : World) (tape : Tape) (i : Input), w.os = os /\ (w.forCall tape i).Shaped Tryz.checked.prog /\ i.vars = [] /\ Input.okWide Tryz.checked.prog (w.forCall tape i) .any w.heap.size f i /\
   ((s.pre enc Tryz.checked.prog fn [] false (w.forCall tape i).memory i.args /\ laidMetH Tryz.prog theLaid (w.forCall tape i).memory) /\ sizedMet enc Tryz.checked.prog fn (OpenSpec.ofChange s) false (w.forCall tape i).memory i.args) /\ Assume.holds {} Tryz.checked.prog (lone (Frame.enter Tryz.checked.prog f i.args .normal) [] (w.forCall tape i)))
  (walk : ∀ (W : World) (base : Nat) (args : Array Value) (ds gs : List (DataW H)) (before : List MemPlace), W.ShapedOpen Tryz.prog -> laidMetH Tryz.prog theLaid W ->
   (∀ (j : Nat) t v, fn.params[j]? = some t -> args[j]? = some v -> Value.okWide Tryz.checked.prog W .any base t v) -> DataW.Whole enc Tryz.checked.prog fn.params.toList s.vars false W args.toList ds gs before ->
   (DataW.weightsEach Tryz.checked.prog (fn.params.toList ++ s.plain.varTypes Tryz.checked.prog) (ds ++ gs)).all (· <= reachBytes) = true ->
   Calls Tryz.checked.prog f args W fun e W' => ∃ v, e = .returned v /\ s.post enc Tryz.checked.prog fn false true false false W args v W') :
  ReturnsInHanded {} Tryz.checked os f .any (fun w args => (s.pre enc Tryz.checked.prog fn [] false w args /\ laidMetH Tryz.prog theLaid w) /\ sizedMet enc Tryz.checked.prog fn (OpenSpec.ofChange s) false w args) (s.post enc Tryz.checked.prog fn false true false false) := by
 refine returnsInHanded_of_calls own started noInit witness ?_;intro w tape i _ hsh _ hok hpre _;obtain ⟨_, _, _, fn2, hfn2, _, _, _, _, hval⟩ := hok;obtain rfl : fn2 = fn := Option.some.inj (hfn2.symm.trans hfn);obtain ⟨⟨⟨ds, gs, before, hw, _⟩, hx⟩, hz⟩ := hpre;refine (walk (w.forCall tape i) w.heap.size i.args ds gs before hsh (met_heap (w := (w.forCall tape i).memory) (by rfl) hx) hval (DataW.Whole.of_heap (w' := w.forCall tape i) (by rfl) hw) (hz.weights hw)).mono fun e W' ⟨v, he, hp⟩ => ?_
 subst he;exact ChangeSpec.post_blind hp
end Go.Proofs.YtnkejjlidgnkkaaGreatDoor
namespace Go.Proofs.YtnkejjlidgnkkaaGreatDoor.Ps

open Go.Lib renaming hid → qh
open Go Go.RowKit Go.ChangeShapes Go.WideShapes
open Go.Proofs.YtnkejjlidgnkkaaGreatDoor.Nd
theorem miss6 {w : World} {o o' : Obj} {k : Nat} (hk : w.heap[k]? = some o') : (w.alloc o).heap[k]? = some o' := (Below.heap_alloc _ _ _ (lt_of_heap hk)).trans hk
theorem below_drews {w w' : World} {b : Nat} (h : Below b w w') (n : Nat) : Below b w (w'.drewN n) := h.trans ⟨rfl, rfl, rfl, Nat.le_refl _, fun _ _ => rfl⟩
theorem same_texts (x y : Value) (a : List ByteArray) (w : World) (hx : Lst w x (a.map .string)) (hy : Lst w y (a.map .string)) (ha : a.length <= 1000000000) :
  Calls Tryz.prog 7 #[x, y] w fun e w' => e = .returned (.bool true) /\ Below w.heap.size w w' := by
 obtain ⟨ao, ca, rfl, -, hca⟩ := hx;obtain ⟨bo, cb, rfl, -, hcb⟩ := hy;rw [List.length_map] at *;obtain ⟨n, hna⟩ : ∃ n, n = a.length := ⟨_, rfl⟩;rw [<- hna];rw [<- hna] at ha;have HNA := qh hna;clear hna;go_enter Tryz.func7, Tryz.ntmps7;go_wp2_with fail;go_loopg [5] n (fun r i wr => ∃ k : Nat, r = n - k /\ i = .int .i64 k /\ k <= n /\ Below w.heap.size w wr)
 case atStart => exact ⟨0, rfl, rfl, Nat.zero_le _, Below.refl _ _⟩
 case round =>
  obtain ⟨k, rfl, rfl, hk, hbw⟩ := hrel;by_cases hlt : k < n
  ·have hlt' : (k : Int) < n := by omega
   have hlta : k < a.length := by have := HNA.out; omega
   obtain ⟨g, off, hg, rfl, hc⟩ := hca (fun h => by rw [List.map_eq_nil_iff] at h; rw [h] at hlta; cases hlta);obtain ⟨g2, off2, hg2, rfl, hd⟩ := hcb (fun h => by rw [List.map_eq_nil_iff] at h; rw [h] at hlta; cases hlta);have c0 := hc k (by rw [List.length_map]; exact hlta);have d0 := hd k (by rw [List.length_map]; exact hlta);rw [<- hbw.cell (p := ⟨g, _, none⟩) hg, List.getElem_map] at c0;rw [<- hbw.cell (p := ⟨g2, _, none⟩) hg2, List.getElem_map] at d0;generalize a[k] = t at *;have HBW := qh hbw;clear hca hcb hc hd hbw;have e0 := IntWalk.i64_in k (by omega);go_wp2_with fail;go_quiet (fail);have HB2 := qh (below_drews HBW.out nq);clear e0 c0 d0;go_wp2_with fail;go_roundg (n - (k + 1))
   case measure => omega
   case rel => exact ⟨k + 1, rfl, by go_num, by omega, HB2.out⟩
  ·have hnlt : ¬ (k : Int) < n := by omega
   have HBW := qh hbw;clear hbw;go_wp2_with fail;go_ret;exact ⟨rfl, HBW.out⟩
theorem same_ints (x y : Value) (a : List Int) (w : World) (hx : Lst w x (a.map (.int .i64))) (hy : Lst w y (a.map (.int .i64))) (ha : a.length <= 1000000000) :
  Calls Tryz.prog 84 #[x, y] w fun e w' => e = .returned (.bool true) /\ Below w.heap.size w w' := by
 obtain ⟨ao, ca, rfl, -, hca⟩ := hx;obtain ⟨bo, cb, rfl, -, hcb⟩ := hy;rw [List.length_map] at *;obtain ⟨n, hna⟩ : ∃ n, n = a.length := ⟨_, rfl⟩;rw [<- hna];rw [<- hna] at ha;have HNA := qh hna;clear hna;go_enter Tryz.func84, Tryz.ntmps84;go_wp2_with fail;go_loopg [5] n (fun r i wr => ∃ k : Nat, r = n - k /\ i = .int .i64 k /\ k <= n /\ Below w.heap.size w wr)
 case atStart => exact ⟨0, rfl, rfl, Nat.zero_le _, Below.refl _ _⟩
 case round =>
  obtain ⟨k, rfl, rfl, hk, hbw⟩ := hrel;by_cases hlt : k < n
  ·have hlt' : (k : Int) < n := by omega
   have hlta : k < a.length := by have := HNA.out; omega
   obtain ⟨g, off, hg, rfl, hc⟩ := hca (fun h => by rw [List.map_eq_nil_iff] at h; rw [h] at hlta; cases hlta);obtain ⟨g2, off2, hg2, rfl, hd⟩ := hcb (fun h => by rw [List.map_eq_nil_iff] at h; rw [h] at hlta; cases hlta);have c0 := hc k (by rw [List.length_map]; exact hlta);have d0 := hd k (by rw [List.length_map]; exact hlta);rw [<- hbw.cell (p := ⟨g, _, none⟩) hg, List.getElem_map] at c0;rw [<- hbw.cell (p := ⟨g2, _, none⟩) hg2, List.getElem_map] at d0;generalize a[k] = t at *;have HBW := qh hbw;clear hca hcb hc hd hbw;have e0 := IntWalk.i64_in k (by omega);go_wp2_with fail;go_quiet (fail);have HB2 := qh (below_drews HBW.out nq);clear e0 c0 d0;go_wp2_with fail;go_roundg (n - (k + 1))
   case measure => omega
   case rel => exact ⟨k + 1, rfl, by go_num, by omega, HB2.out⟩
  ·have hnlt : ¬ (k : Int) < n := by omega
   have HBW := qh hbw;clear hbw;go_wp2_with fail;go_ret;exact ⟨rfl, HBW.out⟩
theorem same_node (n : Nd) (vn vk un uk : Value) (w : World) (h1 : Lst w vn (n.names.map .string)) (h2 : Lst w un (n.names.map .string)) (h3 : Lst w vk (n.kids.map (.int .i64))) (h4 : Lst w uk (n.kids.map (.int .i64))) (hl1 : n.names.length <= 1000000000) (hl2 : n.kids.length <= 1000000000) :
  Calls Tryz.prog 40 #[.agg #[.int .u8 n.k, .int .i64 n.n, .string n.name, vn, vk, .int .i64 n.line], .agg #[.int .u8 n.k, .int .i64 n.n, .string n.name, un, uk, .int .i64 n.line]] w fun e w' => e = .returned (.bool true) /\ Below w.heap.size w w' := by
 have H1 := qh h1;have H2 := qh h2;have H3 := qh h3;have H4 := qh h4;obtain ⟨a1, c1, rfl, -⟩ := h1;obtain ⟨a2, c2, rfl, -⟩ := h2;obtain ⟨a3, c3, rfl, -⟩ := h3;obtain ⟨a4, c4, rfl, -⟩ := h4;have C1 := qh (fun w' (hb : Below w.heap.size w w') => same_texts _ _ n.names w' (H1.out.below hb) (H2.out.below hb) hl1);have C2 := qh (fun w' (hb : Below w.heap.size w w') => same_ints _ _ n.kids w' (H3.out.below hb) (H4.out.below hb) hl2);rw [List.length_map] at *;clear H1 H2 H3 H4;rw [List.length_map] at *;generalize n.names.length = l1 at *;generalize n.kids.length = l2 at *;generalize n.k = k at *;generalize n.n = x at *;generalize n.name = s at *;generalize n.line = li at *;go_enter Tryz.func40, Tryz.ntmps40;go_wp2_with fail;have b2 : Below w.heap.size w ((w.alloc (.cells #[.int .u8 k, .int .i64 x, .string s, .slice a1 l1 c1, .slice a3 l2 c3, .int .i64 li] 35)).alloc (.cells #[.int .u8 k, .int .i64 x, .string s, .slice a2 l1 c2, .slice a4 l2 c4, .int .i64 li] 35)) := ((Below.refl _ _).alloc (Nat.le_refl _) _).alloc (by simp) _;have q1 : ((w.alloc (.cells #[.int .u8 k, .int .i64 x, .string s, .slice a1 l1 c1, .slice a3 l2 c3, .int .i64 li] 35)).alloc (.cells #[.int .u8 k, .int .i64 x, .string s, .slice a2 l1 c2, .slice a4 l2 c4, .int .i64 li] 35)).heap[w.heap.size]? = some (.cells #[.int .u8 k, .int .i64 x, .string s, .slice a1 l1 c1, .slice a3 l2 c3, .int .i64 li] 35 (0, 0)) := miss6 (hit (by simp));have q2 : ((w.alloc (.cells #[.int .u8 k, .int .i64 x, .string s, .slice a1 l1 c1, .slice a3 l2 c3, .int .i64 li] 35)).alloc (.cells #[.int .u8 k, .int .i64 x, .string s, .slice a2 l1 c2, .slice a4 l2 c4, .int .i64 li] 35)).heap[w.heap.size + 1]? = some (.cells #[.int .u8 k, .int .i64 x, .string s, .slice a2 l1 c2, .slice a4 l2 c4, .int .i64 li] 35 (0, 0)) := hit (by simp);generalize ((w.alloc (.cells #[.int .u8 k, .int .i64 x, .string s, .slice a1 l1 c1, .slice a3 l2 c3, .int .i64 li] 35)).alloc (.cells #[.int .u8 k, .int .i64 x, .string s, .slice a2 l1 c2, .slice a4 l2 c4, .int .i64 li] 35)) = W1 at *;refine (C1.out W1 b2).mono ?_;rintro e W2 ⟨rfl, b3⟩;have q1 := (b3.block _ (lt_of_heap q1)).trans q1;have q2 := (b3.block _ (lt_of_heap q2)).trans q2;have b4 := b2.trans (b3.mono b2.size);have d4 := cell_of q1 4 (.slice a3 l2 c3) rfl;have e4 := cell_of q2 4 (.slice a4 l2 c4) rfl;have B4 := qh b4;have Q1 := qh q1;have Q2 := qh q2;clear b2 b3 b4 q1 q2;go_wp2_with fail;refine (C2.out W2 B4.out).mono ?_;rintro e W3 ⟨rfl, b5⟩;have q1 := (b5.block _ (lt_of_heap Q1.out)).trans Q1.out;have q2 := (b5.block _ (lt_of_heap Q2.out)).trans Q2.out;have d5 := cell_of q1 5 (.int .i64 li) rfl;have e5 := cell_of q2 5 (.int .i64 li) rfl;have B5 := qh (B4.out.trans (b5.mono B4.out.size));clear b5 q1 q2 d4 e4;go_wp2_with fail;go_ret;exact ⟨rfl, B5.out⟩
theorem same_syn (x y : Value) (l : List Nd) (r : Int) (w : World) (hx : SynAt w x l r) (hy : SynAt w y l r) (hl : l.length <= 1000000) (hn : ∀ n ∈ l, n.names.length <= 1000000000 /\ n.kids.length <= 1000000000) :
  Calls Tryz.prog 20 #[x, y] w fun e w' => e = .returned (.bool true) /\ Below w.heap.size w w' := by
 obtain ⟨_, rfl, ⟨ao, ca, rfl, -, hca⟩, -⟩ := hx;obtain ⟨_, rfl, ⟨bo, cb, rfl, -, hcb⟩, -⟩ := hy;obtain ⟨n, hna⟩ : ∃ n, n = l.length := ⟨_, rfl⟩;rw [<- hna];rw [<- hna] at hl;have HNA := qh hna;have HN := qh hn;clear hna hn;obtain ⟨h0, hh0⟩ : ∃ h0, h0 = w.heap.size := ⟨_, rfl⟩;have b2 : Below w.heap.size w ((w.alloc (.cells #[.slice ao n ca, .int .i64 r] 27)).alloc (.cells #[.slice bo n cb, .int .i64 r] 27)) := ((Below.refl _ _).alloc (Nat.le_refl _) _).alloc (by simp) _;have q1 : ((w.alloc (.cells #[.slice ao n ca, .int .i64 r] 27)).alloc (.cells #[.slice bo n cb, .int .i64 r] 27)).heap[h0]? = some (.cells #[.slice ao n ca, .int .i64 r] 27 (0, 0)) := miss6 (hit hh0);have q2 : ((w.alloc (.cells #[.slice ao n ca, .int .i64 r] 27)).alloc (.cells #[.slice bo n cb, .int .i64 r] 27)).heap[h0 + 1]? = some (.cells #[.slice bo n cb, .int .i64 r] 27 (0, 0)) := hit (by simp [hh0]);obtain ⟨W1, hW1⟩ : ∃ W1, W1 = (w.alloc (.cells #[.slice ao n ca, .int .i64 r] 27)).alloc (.cells #[.slice bo n cb, .int .i64 r] 27) := ⟨_, rfl⟩;have HB2 := qh (show Below w.heap.size w W1 from hW1 ▸ b2);have HQ1 := qh (show W1.heap[h0]? = some (.cells #[.slice ao n ca, .int .i64 r] 27 (0, 0)) from hW1 ▸ q1);have HQ2 := qh (show W1.heap[h0 + 1]? = some (.cells #[.slice bo n cb, .int .i64 r] 27 (0, 0)) from hW1 ▸ q2);have HW1 := qh hW1;have HH0 := qh hh0;clear b2 q1 q2 hW1;go_enter Tryz.func20, Tryz.ntmps20;go_wp2_with fail;rw [<- HH0.out, <- HW1.out];clear hh0;go_loopg [5] n (fun r i wr => ∃ k : Nat, r = n - k /\ i = .int .i64 k /\ k <= n /\ Below W1.heap.size W1 wr)
 case atStart => exact ⟨0, rfl, rfl, Nat.zero_le _, Below.refl _ _⟩
 case round =>
  obtain ⟨k, rfl, rfl, hk, hbw⟩ := hrel;have q1 := (hbw.block _ (lt_of_heap HQ1.out)).trans HQ1.out;have q2 := (hbw.block _ (lt_of_heap HQ2.out)).trans HQ2.out;have z1 := cell_of q1 0 (.slice ao n ca) rfl;have z2 := cell_of q2 0 (.slice bo n cb) rfl;clear q1 q2;by_cases hlt : k < n
  ·have hlt' : (k : Int) < n := by omega
   have hlta : k < l.length := by have := HNA.out; omega
   obtain ⟨g, off, hg, rfl, hc⟩ := hca (fun h => by rw [h] at hlta; cases hlta);obtain ⟨g2, off2, hg2, rfl, hd⟩ := hcb (fun h => by rw [h] at hlta; cases hlta);have HNX := qh (HN.out l[k] (List.getElem_mem hlta));have hB := HB2.out.trans (hbw.mono HB2.out.size);obtain ⟨vn, vk, c0, c1, c2, c3, c4, c5, cn, ck, -⟩ := (hc k hlta).below hB;obtain ⟨un, uk, d0, d1, d2, d3, d4, d5, dn, dk, -⟩ := (hd k hlta).below hB;have C := qh (fun w' (hb : Below wr.heap.size wr w') => same_node l[k] vn vk un uk w' (cn.below hb) (dn.below hb) (ck.below hb) (dk.below hb) HNX.out.1 HNX.out.2);generalize l[k] = nd at *;have HBW := qh hbw;obtain ⟨a1, e1, rfl, -⟩ := cn;obtain ⟨a2, e2, rfl, -⟩ := ck;obtain ⟨a3, e3, rfl, -⟩ := dn;obtain ⟨a4, e4, rfl, -⟩ := dk;rw [List.length_map, List.length_map] at C;rw [List.length_map] at c3 c4 d3 d4;generalize nd.names.length = l1 at *;generalize nd.kids.length = l2 at *;generalize nd.k = k1 at *;generalize nd.n = x1 at *;generalize nd.name = s1 at *;generalize nd.line = li1 at *;clear hca hcb hc hd hbw hB HNX;have e0 := IntWalk.i64_in k (by omega);go_wp2_with fail;go_still_tail 10, (by kernel_rfl);change wpList _ _ _ _ _ wr.drew;go_wp2_with fail;have hdr : Below wr.heap.size wr wr.drew := ⟨rfl, rfl, rfl, Nat.le_refl _, fun _ _ => rfl⟩;have hdz : wr.drew.heap.size = wr.heap.size := rfl;generalize wr.drew = wd at *;refine (C.out wd hdr).mono ?_;rintro e W2 ⟨rfl, b3⟩;have b4 : Below wr.heap.size wr W2 := hdr.trans (hdz ▸ b3);have b5 := HBW.out.trans (b4.mono HBW.out.size);have HB4 := qh b5;clear b4 b5 hdr hdz;clear e0 c0 c1 c2 c3 c4 c5 d0 d1 d2 d3 d4 d5 b3;go_wp2_with fail;go_roundg (n - (k + 1))
   case measure => omega
   case rel => exact ⟨k + 1, rfl, by go_num, by omega, HB4.out⟩
  ·have hnlt : ¬ (k : Int) < n := by omega
   have HBW := qh hbw;clear hbw;go_wp2_with fail;go_ret;exact ⟨rfl, HB2.out.trans (HBW.out.mono HB2.out.size)⟩
end Go.Proofs.YtnkejjlidgnkkaaGreatDoor.Ps
namespace Go.Proofs.YtnkejjlidgnkkaaGreatDoor.Ps

open Go.Lib renaming hid → qh
open Go Go.RowKit Go.ChangeShapes Go.WideShapes Go.Shelf
open Go.Proofs.YtnkejjlidgnkkaaGreatDoor.Nd
theorem eql_fault (a b c d : Int) (w : World) : (binOp .eql 30 (.agg #[.int .i64 a, .int .i64 b]) (.agg #[.int .i64 c, .int .i64 d])).run Tryz.prog w = .ok (.bool (decide (a = c /\ b = d))) w := by
 rw [run_eql_struct, eq_fault]; rfl
def two (w : World) (v : Value) (r e n : Int) : World := (w.alloc (.cells #[v, .int .i64 r] 27)).alloc (.cells #[.int .i64 e, .int .i64 n] 30)
theorem two_old {w : World} {v : Value} {r e n : Int} : Below w.heap.size w (two w v r e n) := ((Below.refl _ _).alloc (Nat.le_refl _) _).alloc (by simp) _
theorem two_syn {w : World} {v : Value} {r e n : Int} : (two w v r e n).heap[w.heap.size]? = some (.cells #[v, .int .i64 r] 27 (0, 0)) := miss6 (hit rfl)
theorem two_fault {w : World} {v : Value} {r e n : Int} : (two w v r e n).heap[w.heap.size + 1]? = some (.cells #[.int .i64 e, .int .i64 n] 30 (0, 0)) := hit (by simp)
theorem wrong_fn (t : ByteArray) (e n : Int) (w : World) (hv : PVars w) :
  Calls Tryz.prog 19 #[.string t, .int .i64 e, .int .i64 n] w fun en w' => en = .returned (.bool (decide (((parseL t).2.2.1 : Int) = e /\ ((parseL t).2.2.2 : Int) = n) && decide ((parseL t).1.length = 0))) /\ Below w.heap.size w w' := by
 have hc := parse_calls t w hv;generalize parseL t = R at *;obtain ⟨l, r, er, li⟩ := R;simp only;obtain ⟨b, hbd⟩ : ∃ b, decide ((er : Int) = e /\ (li : Int) = n) = b := ⟨_, rfl⟩;have heq := eql_fault er li e n;rw [hbd] at heq ⊢;obtain ⟨b2, hb2⟩ : ∃ b2, decide (l.length = 0) = b2 := ⟨_, rfl⟩;have hb3 : decide ((l.length : Int) = 0) = b2 := by rw [<- hb2]; exact Bool.eq_iff_iff.2 (by simp)
 rw [hb2];obtain ⟨er', hE⟩ : ∃ x : Int, (er : Int) = x := ⟨_, rfl⟩;obtain ⟨li', hL⟩ : ∃ x : Int, (li : Int) = x := ⟨_, rfl⟩;rw [hE, hL] at heq;have HEL := qh (And.intro hE hL);obtain ⟨N, hN⟩ : ∃ N, l.length = N := ⟨_, rfl⟩;rw [hN] at hb3;have HN := qh hN;clear hE hL hb2 hbd hv hN;go_enter Tryz.func19, Tryz.ntmps19;go_wp2_with fail;refine hc.mono ?_;rintro en w1 ⟨v, rs, rfl, ho, hm, hb⟩;obtain ⟨ao, c, rfl⟩ := own_slice ho.1;have hlen : rs.length = N := by have := congrArg List.length hm; rw [List.length_map] at this; exact this.trans HN.out
 rw [hlen];clear ho hm hlen hc;simp only;rw [HEL.out.1, HEL.out.2];have B1 := qh hb;have hal : Below w1.heap.size w1 (two w1 (.slice ao N c) r er' li') := two_old;have q1 : (two w1 (.slice ao N c) r er' li').heap[w1.heap.size]? = some (.cells #[.slice ao N c, .int .i64 r] 27 (0, 0)) := two_syn;have q2 : (two w1 (.slice ao N c) r er' li').heap[w1.heap.size + 1]? = some (.cells #[.int .i64 er', .int .i64 li'] 30 (0, 0)) := two_fault;unfold two at hal q1 q2;have y0 := cell_of q1 0 (.slice ao N c) rfl;have x0 := cell_of q2 0 (.int .i64 er') rfl;have x1 := cell_of q2 1 (.int .i64 li') rfl;have HAL := qh (B1.out.trans (hal.mono B1.out.size));clear q1 q2 hal hb;cases b
 ·go_wp2_with fail;go_ret;exact ⟨by simp <;> omega, HAL.out⟩
 ·cases b2
  ·have h0 : ¬ (N : Int) = 0 := of_decide_eq_false hb3;clear hb3;go_wp2_with fail;go_ret;exact ⟨by simp <;> omega, HAL.out⟩
  ·have h0 : (N : Int) = 0 := of_decide_eq_true hb3;clear hb3;go_wp2_with fail;go_ret;exact ⟨by simp <;> omega, HAL.out⟩
abbrev x1L : List Nd := [⟨27, 0, ⟨#[120]⟩, [], [], 1⟩, ⟨23, 1, ⟨#[]⟩, [], [], 1⟩, ⟨3, 1, ⟨#[]⟩, [], [0, 1], 1⟩, ⟨1, 0, ⟨#[]⟩, [], [2], 1⟩, ⟨26, 1, ⟨#[]⟩, [], [3], 1⟩]
theorem px1 : parseL ⟨#[120, 32, 61, 32, 49]⟩ = (x1L, 4, 0, 0) := by kernel_rfl
theorem px2 : parseL ⟨#[120, 32, 61, 10, 10, 61]⟩ = ([], 0, 40, 3) := by kernel_rfl
instance (n : Nd) : Decidable (Fine n) := by unfold Fine In64; infer_instance
theorem fine_list6 {l : List Nd} (h : decide (∀ n ∈ l, Fine n) = true) : ∀ n ∈ l, Fine n := of_decide_eq_true h
theorem x1_fine : ∀ n ∈ x1L, Fine n := fine_list6 (by kernel_rfl)
theorem own_lit6 {w : World} {b g n : Nat} {e : TypeId} {size : Nat} {cur : Array Value} (hg : b <= g) (h : w.heap[g]? = some (.cells cur e (0, 0))) (hn : cur.size = n * size) (hl : n <= maxLen) : w.ownsRow b e size (.slice (some ⟨g, 0, none⟩) n n) n cur.toList :=
 ⟨by rw [Array.length_toList, hn], .inr ⟨g, n, cur, rfl, hg, h, Nat.le_refl _, hl, hn, by rw [List.take_of_length_le (by rw [Array.length_toList]; omega)]⟩⟩
theorem x1_syn {W : World} {g2 g3 g4 g5 : Nat} (h2 : W.heap[g2]? = some (.cells #[.int .i64 0, .int .i64 1] 3 (0, 0))) (h3 : W.heap[g3]? = some (.cells #[.int .i64 2] 3 (0, 0))) (h4 : W.heap[g4]? = some (.cells #[.int .i64 3] 3 (0, 0)))
  (h5 : W.heap[g5]? = some (.cells #[.int .u8 27, .int .i64 0, .string ⟨#[120]⟩, .slice none 0 0, .slice none 0 0, .int .i64 1, .int .u8 23, .int .i64 1, .string ⟨#[]⟩, .slice none 0 0, .slice none 0 0, .int .i64 1,
    .int .u8 3, .int .i64 1, .string ⟨#[]⟩, .slice none 0 0, .slice (some ⟨g2, 0, none⟩) 2 2, .int .i64 1, .int .u8 1, .int .i64 0, .string ⟨#[]⟩, .slice none 0 0, .slice (some ⟨g3, 0, none⟩) 1 1, .int .i64 1,
    .int .u8 26, .int .i64 1, .string ⟨#[]⟩, .slice none 0 0, .slice (some ⟨g4, 0, none⟩) 1 1, .int .i64 1] 35 (0, 0))) : SynAt W (.agg #[.slice (some ⟨g5, 0, none⟩) 5 5, .int .i64 4]) x1L 4 := by
 have nil : ∀ e, W.ownsRow 0 e 1 (.slice none 0 0) 0 [] := fun e => World.ownsRow_nil _ _ _ _
 refine own_syn (b := 0) (rs := [(x1L[0], .slice none 0 0, .slice none 0 0), (x1L[1], .slice none 0 0, .slice none 0 0), (x1L[2], .slice none 0 0, .slice (some ⟨g2, 0, none⟩) 2 2), (x1L[3], .slice none 0 0, .slice (some ⟨g3, 0, none⟩) 1 1), (x1L[4], .slice none 0 0, .slice (some ⟨g4, 0, none⟩) 1 1)])
  ⟨own_lit6 (Nat.zero_le _) h5 rfl (by unfold maxLen; omega), fun r hr => ?_⟩ (fun r hr => x1_fine _ ?_) ⟨by decide, by decide⟩ (Nat.le_trans (show 5 <= 5 from Nat.le_refl _) (by decide))
 ·simp only [List.mem_cons, List.not_mem_nil, or_false] at hr;rcases hr with rfl | rfl | rfl | rfl | rfl
  ·exact ⟨nil _, nil _⟩
  ·exact ⟨nil _, nil _⟩
  ·exact ⟨nil _, own_lit6 (Nat.zero_le _) h2 rfl (by unfold maxLen; omega)⟩
  ·exact ⟨nil _, own_lit6 (Nat.zero_le _) h3 rfl (by unfold maxLen; omega)⟩
  ·exact ⟨nil _, own_lit6 (Nat.zero_le _) h4 rfl (by unfold maxLen; omega)⟩
 ·simp only [List.mem_cons, List.not_mem_nil, or_false] at hr;rcases hr with rfl | rfl | rfl | rfl | rfl <;> simp
theorem awake_fn (w : World) (hv : PVars w) : Calls Tryz.prog 10 #[] w fun e w' => e = .returned (.bool true) /\ Below w.heap.size w w' := by
 have hc := parse_calls ⟨#[120, 32, 61, 32, 49]⟩ w hv;have hww := fun w' (hb : Below w.heap.size w w') => wrong_fn ⟨#[120, 32, 61, 10, 10, 61]⟩ 40 3 w' (hv.below hb)
 have heq := eql_fault 0 0 0 0;rw [show decide ((0 : Int) = 0 /\ (0 : Int) = 0) = true from rfl] at heq;rw [px1] at hc;rw [px2] at hww;have HC := qh hc;have HWW := qh hww;clear hc hww hv;go_enter Tryz.func10, Tryz.ntmps10;go_wp2_with fail;refine HC.out.mono ?_;rintro en w1 ⟨v, rs, rfl, ho, hm, hb⟩;obtain ⟨ao, c, rfl⟩ := own_slice ho.1;have hlen : rs.length = 5 := by have := congrArg List.length hm; rw [List.length_map] at this; exact this
 have hsyn : SynAt w1 (.agg #[.slice ao rs.length c, .int .i64 4]) x1L 4 := by
  have hm' : rs.map (·.1) = x1L := hm;rw [<- hm'];exact own_syn ho (fun r hr => x1_fine _ (by rw [<- hm']; exact List.mem_map_of_mem hr)) ⟨by decide, by decide⟩ (by omega)
 rw [hlen] at hsyn ⊢;have HS := qh hsyn;have B1 := qh hb;clear ho hm hlen hb hsyn;go_wp2_with fail;obtain ⟨W, hW⟩ : ∃ W, ((((((w1.alloc (.cells #[.slice ao 5 c, .int .i64 4] 27)).alloc (.cells #[.int .i64 0, .int .i64 0] 30)).alloc (.cells #[.int .i64 0, .int .i64 1] 3)).alloc (.cells #[.int .i64 2] 3)).alloc (.cells #[.int .i64 3] 3)).alloc (.cells #[.int .u8 27, .int .i64 0, .string ⟨#[120]⟩, .slice none 0 0, .slice none 0 0, .int .i64 1, .int .u8 23, .int .i64 1, .string ⟨#[]⟩, .slice none 0 0, .slice none 0 0, .int .i64 1,
    .int .u8 3, .int .i64 1, .string ⟨#[]⟩, .slice none 0 0, .slice (some ⟨w1.heap.size + 1 + 1, 0, none⟩) 2 2, .int .i64 1, .int .u8 1, .int .i64 0, .string ⟨#[]⟩, .slice none 0 0, .slice (some ⟨w1.heap.size + 1 + 1 + 1, 0, none⟩) 1 1, .int .i64 1,
    .int .u8 26, .int .i64 1, .string ⟨#[]⟩, .slice none 0 0, .slice (some ⟨w1.heap.size + 1 + 1 + 1 + 1, 0, none⟩) 1 1, .int .i64 1] 35)).alloc (.cells #[.slice (some ⟨w1.heap.size + 1 + 1 + 1 + 1 + 1, 0, none⟩) 5 5, .int .i64 4] 27) = W := ⟨_, rfl⟩
 have hb : Below w1.heap.size w1 W := by
  rw [<- hW];exact (((((((Below.refl _ _).alloc (Nat.le_refl _) _).alloc (by simp) _).alloc (by simp; omega) _).alloc (by simp; omega) _).alloc (by simp; omega) _).alloc (by simp; omega) _).alloc (by simp; omega) _
 have h2 : W.heap[w1.heap.size + 1 + 1]? = some (.cells #[.int .i64 0, .int .i64 1] 3 (0, 0)) := by rw [<- hW]; exact miss6 (miss6 (miss6 (miss6 (hit (by simp)))))
 have h3 : W.heap[w1.heap.size + 1 + 1 + 1]? = some (.cells #[.int .i64 2] 3 (0, 0)) := by rw [<- hW]; exact miss6 (miss6 (miss6 (hit (by simp))))
 have h4 : W.heap[w1.heap.size + 1 + 1 + 1 + 1]? = some (.cells #[.int .i64 3] 3 (0, 0)) := by rw [<- hW]; exact miss6 (miss6 (hit (by simp)))
 have h5 : W.heap[w1.heap.size + 1 + 1 + 1 + 1 + 1]? = some (.cells #[.int .u8 27, .int .i64 0, .string ⟨#[120]⟩, .slice none 0 0, .slice none 0 0, .int .i64 1, .int .u8 23, .int .i64 1, .string ⟨#[]⟩, .slice none 0 0, .slice none 0 0, .int .i64 1,
    .int .u8 3, .int .i64 1, .string ⟨#[]⟩, .slice none 0 0, .slice (some ⟨w1.heap.size + 1 + 1, 0, none⟩) 2 2, .int .i64 1, .int .u8 1, .int .i64 0, .string ⟨#[]⟩, .slice none 0 0, .slice (some ⟨w1.heap.size + 1 + 1 + 1, 0, none⟩) 1 1, .int .i64 1,
    .int .u8 26, .int .i64 1, .string ⟨#[]⟩, .slice none 0 0, .slice (some ⟨w1.heap.size + 1 + 1 + 1 + 1, 0, none⟩) 1 1, .int .i64 1] 35 (0, 0)) := by rw [<- hW]; exact miss6 (hit (by simp))
 have hs := x1_syn h2 h3 h4 h5;have hx := HS.out.below hb;have BW := qh (B1.out.trans (hb.mono B1.out.size));rw [hW];clear hW h2 h3 h4 h5 hb;refine (same_syn _ _ x1L 4 W hx hs (by decide) (by decide)).mono ?_;rintro e W2 ⟨rfl, b2⟩;have BW2 := qh (BW.out.trans (b2.mono BW.out.size));clear hx hs b2;go_wp2_with fail;refine (HWW.out W2 BW2.out).mono ?_;rintro e W3 ⟨rfl, b3⟩;have BW3 := qh (BW2.out.trans (b3.mono BW2.out.size));clear b3;go_wp2_with fail;go_ret;exact ⟨rfl, BW3.out⟩
end Go.Proofs.YtnkejjlidgnkkaaGreatDoor.Ps
