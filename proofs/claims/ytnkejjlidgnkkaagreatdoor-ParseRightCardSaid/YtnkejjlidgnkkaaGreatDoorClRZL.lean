/-
  A part of the proof.
-/
import Derived.Deep.RegionHeld3
import Derived.Sort.LoopGhostIn
import Derived.Lib.Hide
import Derived.Test.YtnkejjlidgnkkaaGreatDoorClRZI
import Derived.Test.YtnkejjlidgnkkaaGreatDoorClRZJ
import Derived.Test.YtnkejjlidgnkkaaGreatDoorClRZK
set_option maxRecDepth 100000
set_option maxHeartbeats 40000000
namespace Go.Proofs.YtnkejjlidgnkkaaGreatDoor.Nd

open Go.Lib renaming hid → qh
open List renaming getElem_toArray → ja, getElem_cons_succ → jb, getElem_cons_zero → jc, setIfInBounds_toArray → jd, set_cons_zero → je, set_cons_succ → jf
open Go Go.RowKit Go.ChangeShapes Go.WideShapes Go.Shelf
open Go.Proofs.YtnkejjlidgnkkaaGreatDoor.Rf
attribute [local go_sem] Oper.semAt_some
theorem own_walk (ao : Option Addr) (n c : Nat) (root : Int) (w : World) : Calls Tryz.prog 29 #[.agg #[.slice ao n c, .int .i64 root]] w fun e w' => e = .returned (.func (.func 69) #[] #[.pointer (some ⟨w.heap.size, 0, none⟩)]) /\ w' = w.alloc (.cells #[.slice ao n c, .int .i64 root] 27) := by
 go_enter Tryz.func29, Tryz.ntmps29;go_wp2_with fail;go_ret;exact ⟨rfl, rfl⟩
theorem walk_seq (Bs : Nat) (ao : Option Addr) (c : Nat) (L : List Nd) (root : Int) (w0 w : World) (hNd : NodesAt w0 (.slice ao L.length c) L) (ht : Tied L root) (hl : L.length <= 1000000)
  (hBs : w.heap[Bs]? = some (.cells #[.slice ao L.length c, .int .i64 root] 27 (0, 0))) (hlow : Below w0.heap.size w0 w) :
  SeqT 7 Tryz.prog 69 #[.pointer (some ⟨Bs, 0, none⟩)] (fun x : PV => #[Value.int .i64 x.1, Value.int .i64 (x.2 : Int)]) TY (pbW w0.heap.size Bs) (okW L root) (allW L root) w := by
 intro lr J Jx W hW hJ hJx hY h0;exact walk_inner lr Bs ao c L root w0 hNd ht hl J Jx W hJ hJx hY ((hW.block Bs (lt_of_heap hBs)).trans hBs) (hlow.trans (hW.mono hlow.size)) h0
theorem leave_right {n : Nat} {tmps : Array Value} {R : Ending -> World -> Prop} {w : World} {b : Bool} {g : Nat} (ht : tmps[2]?.getD undef = .pointer (some ⟨g, 0, none⟩)) (hc : w.cell? ⟨g, 0, none⟩ = some (.bool b)) (h : R (.returned (.bool b)) w) : LeavesInM Fence.wide n Tryz.prog Tryz.f12 tmps R [] .returning w := by
 refine ⟨.bool b, ?_, h⟩;simp [results, Tryz.f12, go_sem, ht, hc]
theorem kids_enough (k : Nat) (n : Int) (ks : List Nat) (h : kidsB k n ks = true) : (k = 34 -> 1 <= ks.length) /\ (k = 31 \/ k = 32 \/ k = 33 -> 2 <= ks.length) := by
 constructor
 ·rintro rfl;have : rowL ks [exprK] = true := h;rw [rowL_iff] at this;rw [this.1]; decide
 ·intro hk;have : rowL ks [exprK, exprK] = true := by rcases hk with rfl | rfl | rfl <;> exact h
  rw [rowL_iff] at this;rw [this.1]; decide
theorem kids_few {l : List Nd} {root : Int} (ht : Tied l root) {i : Int} (hi : inR l i) : (at' l i).kids.length <= l.length := by
 refine few_places ?_ (ht.kids i hi)
 show List.Pairwise _ _;rw [List.pairwise_iff_getElem];intro p q hp hq hpq e;have := (ht.once i i p q _ hi hi (List.getElem?_eq_getElem hp) (by rw [e]; exact List.getElem?_eq_getElem hq)).2;omega
theorem kl_slice {w : World} {v : Value} {ks : List Nat} (h : Kl w v ks) : ∃ ao c, v = .slice ao ks.length c := by
 obtain ⟨ao, c, e, _⟩ := h;exact ⟨ao, c, e⟩
def pcR (n₁ Bs g : Nat) (o : Obj) : Bool := decide (n₁ <= g) && decide (g ≠ Bs) && tyIn [3, 4] o
theorem pcR_cells {n₁ Bs g : Nat} {o : Obj} (h : pcR n₁ Bs g o = true) : o.isCells = true := by
 unfold pcR at h;rw [Bool.and_eq_true] at h;exact tyIn_cells h.2
theorem pcR_yes {n₁ Bs g : Nat} {cs : Array Value} {t : TypeId} {fr : Nat × Nat} (hg : n₁ <= g) (hb : g ≠ Bs) (ht : [3, 4].contains t = true) : pcR n₁ Bs g (.cells cs t fr) = true := by
 unfold pcR tyIn;rw [decide_eq_true hg, decide_eq_true hb];exact ht
theorem pcR_pb {n₀ n₁ Bs B g : Nat} {o : Obj} (h : pcR n₁ Bs g o = true) (hn : n₀ <= n₁) : pbW n₀ Bs B g o = true := by
 unfold pcR at h;unfold pbW;simp only [Bool.and_eq_true, decide_eq_true_iff] at h;obtain ⟨⟨h1, h2⟩, h3⟩ := h;rw [decide_eq_true (show n₀ <= g by omega), decide_eq_true h2];cases o with
 | cells c t fr =>
  have h4 : [3, 4].contains t = true := h3;have h5 : t = 3 \/ t = 4 := by simpa using h4
  rcases h5 with rfl | rfl <;> rfl
 | _ => simp [tyIn] at h3
theorem pbW_own {n₀ Bs B g : Nat} {o : Obj} (h : o.isCells = false) (h1 : n₀ <= g) (h2 : g ≠ Bs) (h3 : g < B) : pbW n₀ Bs B g o = true := by
 unfold pbW;rw [decide_eq_true h1, decide_eq_true h2, decide_eq_true h3];cases o with
 | cells c t fr => cases h
 | _ => rfl
def LowR (xs : List PV) : Prop := ∀ x ∈ xs, x.2 <= 100
def HighR (xs : List PV) : Prop := ∃ x ∈ xs, 100 < x.2
def SaysR (w : World) (l : List Nd) (root : Int) (e : Ending) (w' : World) : Prop := ∃ b, e = .returned (.bool b) /\ (b = true ↔ RightC (rowD nmD) l root) /\ Below w.heap.size w w'
theorem right_fn (v : Value) (l : List Nd) (root : Int) (w : World) (hS : SynAt w v l root) (hl9 : l.length <= 1000000) (hfine : ∀ n ∈ l, Fine n) :
  CallsIn Fence.wide 8 Tryz.prog 12 #[v] w (SaysR w l root) := by
 have HSYN := qh hS;obtain ⟨ao, c, rfl, hNd, hr1, hr2⟩ := hS.open;have HND := qh hNd;have HFINE := qh hfine;clear hS hNd hfine;obtain ⟨N, hN⟩ : ∃ N, N = l.length := ⟨_, rfl⟩;rw [<- hN] at hl9 HND HSYN ⊢;have HN := qh hN;have hB1 : Below w.heap.size w ((w.alloc (.cells #[.slice ao N c, .int .i64 root] 27)).alloc (.cells #[.bool false] 4)) := ((Below.refl _ _).alloc (Nat.le_refl _) _).alloc (by simp) _;have hX1 : ((w.alloc (.cells #[.slice ao N c, .int .i64 root] 27)).alloc (.cells #[.bool false] 4)).heap[w.heap.size]? = some (.cells #[.slice ao N c, .int .i64 root] 27 (0, 0)) := (Below.heap_alloc _ _ _ (by simp)).trans (new_block w _);have hX2 : ((w.alloc (.cells #[.slice ao N c, .int .i64 root] 27)).alloc (.cells #[.bool false] 4)).heap[w.heap.size + 1]? = some (.cells #[.bool false] 4 (0, 0)) := by
  have := new_block (w.alloc (.cells #[.slice ao N c, .int .i64 root] 27)) (.cells #[.bool false] 4)
  rwa [World.size_alloc] at this
 obtain ⟨w1, hw1⟩ : ∃ w1, (w.alloc (.cells #[.slice ao N c, .int .i64 root] 27)).alloc (.cells #[.bool false] 4) = w1 := ⟨_, rfl⟩;rw [hw1] at hB1 hX1 hX2;have hs0 : w.heap.size + 1 < w1.heap.size := lt_of_heap hX2;have HB1 := qh hB1;have HX1 := qh hX1;have HX2 := qh hX2;have hno : ¬ RightC (rowD nmD) l root -> ∀ w', Below w.heap.size w w' -> w'.heap[w.heap.size + 1]? = some (.cells #[.bool false] 4 (0, 0)) -> ∀ tmps : Array Value, tmps[2]?.getD undef = .pointer (some ⟨w.heap.size + 1, 0, none⟩) -> LeavesInM Fence.wide 8 Tryz.prog Tryz.f12 tmps (SaysR w l root) [] .returning w' := fun h w' hb hx tmps ht =>
  leave_right (g := w.heap.size + 1) (b := false) ht (cell_of hx 0 _ rfl) ⟨false, rfl, ⟨fun e => Bool.noConfusion e, fun e => absurd e h⟩, hb⟩
 have HNO := qh hno;have c0 := cell_of hX1 0 (.slice ao N c) rfl;have c1 := cell_of hX1 1 (.int .i64 root) rfl;have r0 := cell_of hX2 0 (.bool false) rfl;have rf := free_of hX2 0;clear hB1 hX1 hX2 hno hN;refine callsIn_of_wp_marks Tryz.func12 rfl trivial ?_ rfl;simp only [Tryz.ntmps12, List.size_toArray, List.length_cons, List.length_nil, Nat.reduceAdd, Nat.reduceSub, Array.replicate_succ, Array.replicate_zero, List.push_toArray, List.append_toArray, List.nil_append, List.cons_append];have hS9 := (Joins.block_setCell (i := 0) HX2.out (.bool false));have hB9 := HB1.out.setCell (p := ⟨w.heap.size + 1, 0, none⟩) (by show w.heap.size <= w.heap.size + 1; omega) (.bool false);have HS9 := qh hS9;have HB9 := qh hB9;clear hS9 hB9;by_cases d1 : (4096 : Int) < N
 ·gi_wp2_with fail
  exact HNO.out (fun H => by have := H.few; have := HN.out; omega) _ HB9.out HS9.out _ rfl
 by_cases d2 : root < 0
 ·gi_wp2_with fail
  exact HNO.out (fun H => by have := H.tied.top.1; omega) _ HB9.out HS9.out _ rfl
 by_cases d3 : (N : Int) <= root
 ·gi_wp2_with fail
  exact HNO.out (fun H => by have := H.tied.top.2; have := HN.out; omega) _ HB9.out HS9.out _ rfl
 obtain ⟨rt, rfl⟩ := Int.eq_ofNat_of_zero_le (show 0 <= root by omega);have hrt : rt < l.length := by have := HN.out; omega
 have hrtN : (rt : Int) < N := by omega
 have hrt0 : (0 : Int) <= rt := by omega
 obtain ⟨g, off, hg, rfl, hnd⟩ := HND.out.at hrt;obtain ⟨rn, hrn⟩ : ∃ rn, at' l (rt : Int) = rn := ⟨_, rfl⟩;rw [hrn] at hnd;have HRN := qh hrn;obtain ⟨an, cn, ak, ck, e0, e1, e2, e3, e4, e5, hv⟩ := hnd.open;clear hv hnd hrn;have hbb := HB1.out;rw [<- hbb.cell (p := ⟨g, _, none⟩) hg] at e0 e1 e2 e3 e4 e5;clear hbb;obtain ⟨rk, hrk⟩ : ∃ rk, rn.k = rk := ⟨_, rfl⟩;obtain ⟨nl, hnl⟩ : ∃ nl, rn.names.length = nl := ⟨_, rfl⟩;rw [hrk] at e0;rw [hnl] at e3;have HRK := qh hrk;have HNL := qh hnl;clear hrk hnl;have hB2 := HB1.out.alloc HB1.out.size (.cells #[.int .u8 (rk : Int), .int .i64 rn.n, .string rn.name, .slice an nl cn, .slice ak rn.kids.length ck, .int .i64 rn.line] 35);have hZ1 := (Below.heap_alloc w1 (.cells #[.int .u8 (rk : Int), .int .i64 rn.n, .string rn.name, .slice an nl cn, .slice ak rn.kids.length ck, .int .i64 rn.line] 35) _ (lt_of_heap HX1.out)).trans HX1.out;have hZ2 := (Below.heap_alloc w1 (.cells #[.int .u8 (rk : Int), .int .i64 rn.n, .string rn.name, .slice an nl cn, .slice ak rn.kids.length ck, .int .i64 rn.line] 35) _ (lt_of_heap HX2.out)).trans HX2.out;have HZ1 := qh hZ1;have HZ2 := qh hZ2;have HB2 := qh hB2;have z0 := cell_of hZ2 0 (.bool false) rfl;have zf := free_of hZ2 0;have zs0 := cell_of hZ1 0 (.slice (some ⟨g, off, none⟩) N c) rfl;have zs1 := cell_of hZ1 1 (.int .i64 (rt : Int)) rfl;have HS8 := qh ((Below.heap_alloc _ (.cells #[.int .u8 (rk : Int), .int .i64 rn.n, .string rn.name, .slice an nl cn, .slice ak rn.kids.length ck, .int .i64 rn.line] 35) _ (lt_of_heap HS9.out)).trans HS9.out);have HB8 := qh (HB9.out.alloc HB9.out.size (.cells #[.int .u8 (rk : Int), .int .i64 rn.n, .string rn.name, .slice an nl cn, .slice ak rn.kids.length ck, .int .i64 rn.line] 35));clear hZ1 hZ2 hB2;by_cases d4 : rk = 26
 case neg =>
  have d4i : ((rk : Int) != 26) = true := by rw [bne_iff_ne]; omega
  gi_wp2_with fail
  refine ⟨trivial, ?_⟩
  gi_wp2_with fail
  exact HNO.out (fun H => by have := H.head.1; rw [HRN.out, HRK.out] at this; exact d4 this) _ HB8.out HS8.out _ rfl
 have d4i : ((rk : Int) != 26) = false := by rw [bne_eq_false_iff_eq]; omega
 by_cases d5 : 0 < nl
 ·have d5i : (0 : Int) < nl := by omega
  have D4 := qh d4;clear d4
  gi_wp2_with fail
  refine ⟨trivial, ?_⟩
  gi_wp2_with fail
  exact HNO.out (fun H => by have h1 := H.head.2.2; rw [HRN.out] at h1; have h2 := HNL.out; rw [h1] at h2; simp at h2; omega) _ HB8.out HS8.out _ rfl
 have d5i : ¬ (0 : Int) < nl := by omega
 by_cases d6 : rn.n = 1
 case neg =>
  have d6i : (rn.n != 1) = true := by rw [bne_iff_ne]; exact d6
  have D4 := qh d4;clear d4
  gi_wp2_with fail
  refine ⟨trivial, ?_⟩
  gi_wp2_with fail
  exact HNO.out (fun H => by have := H.head.2.1; rw [HRN.out] at this; exact d6 this) _ HB8.out HS8.out _ rfl
 have d6i : (rn.n != 1) = false := by rw [bne_eq_false_iff_eq]; exact d6
 have D4 := qh d4;have D6 := qh d6;clear d4 d6;obtain ⟨TB, hTB⟩ : ∃ TB, tiedB l (rt : Int) = TB := ⟨_, rfl⟩;have ct : ∀ (W : World), Below w.heap.size w W -> Calls Tryz.prog 24 #[.agg #[.slice (some ⟨g, off, none⟩) N c, .int .i64 (rt : Int)]] W fun e w' => e = .returned (.bool TB) /\ Below W.heap.size W w' := fun W hW => by
  rw [<- hTB];exact own_tied _ l (rt : Int) W (HSYN.out.below hW) (inR_nat.2 hrt) (by have := HN.out; omega) (fun n hn => by have := (HFINE.out n hn).2.2.2.2.2.2.1; omega)
 have hti := tied_iff (l := l) (root := (rt : Int)) (inR_nat.2 hrt);rw [hTB] at hti;have HTI := qh hti;have CT := qh ct;clear hti hTB ct
 gi_wp2_with fail
 refine ⟨trivial, (callsIn_wide.2 (CT.out _ HB2.out)).mono ?_⟩;rintro e w2 ⟨rfl, b2⟩;have hb2 := HB2.out.trans (b2.mono HB2.out.size);have x1 := (b2.block _ (lt_of_heap HZ1.out)).trans HZ1.out;have x2 := (b2.block _ (lt_of_heap HZ2.out)).trans HZ2.out;have q0 := cell_of x2 0 (.bool false) rfl;have qf := free_of x2 0;have qs0 := cell_of x1 0 (.slice (some ⟨g, off, none⟩) N c) rfl;have HBw2 := qh hb2;have HXw1 := qh x1;have HXw2 := qh x2;clear b2 hb2 x1 x2;cases TB with
 | false =>
  gi_wp2_with fail
  exact HNO.out (fun H => by have := HTI.out.2 ⟨H.tied, H.found⟩; cases this) _ (HBw2.out.setCell (p := ⟨w.heap.size + 1, 0, none⟩) (by show w.heap.size <= w.heap.size + 1; omega) _) (Joins.block_setCell (i := 0) HXw2.out _) _ rfl
 | true =>
  obtain ⟨hT, hfound⟩ := HTI.out.1 rfl;have HT := qh hT;have HFOUND := qh hfound;clear hT hfound c0 c1 r0 rf z0 zf zs0 zs1
  gi_wp2_with fail
  gi_loopg [54] N (fun r i wr => ∃ k : Nat, r = N - k /\ i = .int .i64 (k : Int) /\ k <= N /\ Below w.heap.size w wr /\ wr.heap[w.heap.size]? = some (.cells #[.slice (some ⟨g, off, none⟩) N c, .int .i64 (rt : Int)] 27 (0, 0)) /\ wr.heap[w.heap.size + 1]? = some (.cells #[.bool false] 4 (0, 0)) /\ ∀ j : Nat, j < k -> rowD nmD (bare (at' l (j : Int))) (kinds l (at' l (j : Int))) = true)
  case atStart => exact ⟨0, rfl, rfl, Nat.zero_le _, HBw2.out, HXw1.out, HXw2.out, fun j hj => absurd hj (by omega)⟩
  case round =>
   obtain ⟨k, rfl, rfl, hk, hb, hx1, hx2, hrows⟩ := hrel;have HBr := qh hb;have HXr1 := qh hx1;have HXr2 := qh hx2;have HROWS := qh hrows;have hR2 := lt_of_heap hx2;have qs0 := cell_of hx1 0 (.slice (some ⟨g, off, none⟩) N c) rfl;clear hb hrows;by_cases hlt : k < N
   ·have hlt' : (k : Int) < N := by omega
    have hkl : k < l.length := by have := HN.out; omega
    obtain ⟨g', off', hg', hgg, hnd⟩ := HND.out.at hkl;cases hgg;have hkin := HT.out.kids (k : Int) (inR_nat.2 hkl);have hkln := kids_few HT.out (inR_nat.2 hkl);have hnotrow : ∀ b, rowD nmD (bare (at' l (k : Int))) (kinds l (at' l (k : Int))) = b -> b = false -> ¬ RightC (rowD nmD) l (rt : Int) := fun b h h2 H => by
     have := H.rows (k : Int) (inR_nat.2 hkl);rw [h, h2] at this;cases this
    obtain ⟨nd, hndq⟩ : ∃ nd, at' l (k : Int) = nd := ⟨_, rfl⟩;rw [hndq] at hnd hkin hkln hnotrow;have HNDQ := qh hndq;obtain ⟨an2, cn2, ak2, ck2, e0, e1, e2, e3, e4, e5, hv⟩ := hnd.open;have hfine : Fine nd := by obtain ⟨_, _, _, _, _, _, _, hf⟩ := hv; exact hf
    have HNV := qh (hv.below HBr.out);have HKIN := qh hkin;have HKLN := qh (show nd.kids.length <= 1000000 by have := HN.out; omega);have hbb := HBr.out;rw [<- hbb.cell (p := ⟨g, _, none⟩) hg'] at e0 e1 e2 e3 e4 e5;obtain ⟨OB, hOB⟩ : ∃ OB, ownB nmD nd = OB := ⟨_, rfl⟩;obtain ⟨KS, hKS⟩ : ∃ KS, (kinds l nd).map (·.1) = KS := ⟨_, rfl⟩;obtain ⟨KB, hKB⟩ : ∃ KB, kidsB nd.k nd.n KS = KB := ⟨_, rfl⟩;obtain ⟨FB, hFB⟩ : ∃ FB, fitsD nd (kinds l nd) = FB := ⟨_, rfl⟩;have hrow : rowD nmD (bare nd) (kinds l nd) = (decide (1 <= nd.line) && OB && KB && FB) := by rw [<- hOB, <- hKB, <- hFB, <- hKS]; rfl
    have hnr := hnotrow _ hrow;have HNR := qh hnr;have HROW := qh hrow;have cown : ∀ W, NdV W (.agg #[.int .u8 (nd.k : Int), .int .i64 nd.n, .string nd.name, .slice an2 nd.names.length cn2, .slice ak2 nd.kids.length ck2, .int .i64 nd.line]) nd -> Calls Tryz.prog 25 #[.agg #[.int .u8 (nd.k : Int), .int .i64 nd.n, .string nd.name, .slice an2 nd.names.length cn2, .slice ak2 nd.kids.length ck2, .int .i64 nd.line]] W fun e w' => e = .returned (.bool OB) /\ Below W.heap.size W w' := fun W h => by rw [<- hOB]; exact own_ownFits _ nd W h
    have ckids : ∀ v W, Kl W v KS -> Calls Tryz.prog 26 #[.agg #[.int .u8 (nd.k : Int), .int .i64 nd.n, .string nd.name, .slice an2 nd.names.length cn2, .slice ak2 nd.kids.length ck2, .int .i64 nd.line], v] W fun e w' => e = .returned (.bool KB) /\ Below W.heap.size W w' := fun v W h => by rw [<- hKB]; exact own_kids nd.k nd.n nd.line nd.name an2 ak2 nd.names.length cn2 nd.kids.length ck2 v _ W h hfine.2.1 hfine.1
    have cfit : KB = true -> ∀ W, SynAt W (.agg #[.slice (some ⟨g, off, none⟩) N c, .int .i64 (rt : Int)]) l (rt : Int) -> NdV W (.agg #[.int .u8 (nd.k : Int), .int .i64 nd.n, .string nd.name, .slice an2 nd.names.length cn2, .slice ak2 nd.kids.length ck2, .int .i64 nd.line]) nd -> Calls Tryz.prog 28 #[.agg #[.slice (some ⟨g, off, none⟩) N c, .int .i64 (rt : Int)], .agg #[.int .u8 (nd.k : Int), .int .i64 nd.n, .string nd.name, .slice an2 nd.names.length cn2, .slice ak2 nd.kids.length ck2, .int .i64 nd.line]] W fun e w' => e = .returned (.bool FB) /\ Below W.heap.size W w' := fun hk W h1 h2 => by
     rw [<- hFB];obtain ⟨k1, k2⟩ := kids_enough nd.k nd.n _ (hKB.trans hk);rw [<- hKS, List.length_map] at k1 k2;have hkl2 : (kinds l nd).length = nd.kids.length := by unfold kinds; rw [List.length_map]
     rw [hkl2] at k1 k2;exact own_operandsFit _ _ l (rt : Int) nd W h1 h2 HKIN.out k1 k2
    have ckk : ∀ W, SynAt W (.agg #[.slice (some ⟨g, off, none⟩) N c, .int .i64 (rt : Int)]) l (rt : Int) -> NdV W (.agg #[.int .u8 (nd.k : Int), .int .i64 nd.n, .string nd.name, .slice an2 nd.names.length cn2, .slice ak2 nd.kids.length ck2, .int .i64 nd.line]) nd -> Calls Tryz.prog 27 #[.agg #[.slice (some ⟨g, off, none⟩) N c, .int .i64 (rt : Int)], .agg #[.int .u8 (nd.k : Int), .int .i64 nd.n, .string nd.name, .slice an2 nd.names.length cn2, .slice ak2 nd.kids.length ck2, .int .i64 nd.line]] W fun e w' => ∃ u, e = .returned u /\ Kl w' u KS /\ Below W.heap.size W w' := fun W h1 h2 => by
     rw [<- hKS];exact own_kindsOf _ _ l (rt : Int) nd W h1 h2 HKIN.out HKLN.out
    have CFIT := qh cfit;have hwn : (wr.alloc (.cells #[.int .u8 (nd.k : Int), .int .i64 nd.n, .string nd.name, .slice an2 nd.names.length cn2, .slice ak2 nd.kids.length ck2, .int .i64 nd.line] 35)).heap[wr.heap.size]? = some (.cells #[.int .u8 (nd.k : Int), .int .i64 nd.n, .string nd.name, .slice an2 nd.names.length cn2, .slice ak2 nd.kids.length ck2, .int .i64 nd.line] 35 (0, 0)) := new_block _ _;have hwb : (wr.alloc (.cells #[.int .u8 (nd.k : Int), .int .i64 nd.n, .string nd.name, .slice an2 nd.names.length cn2, .slice ak2 nd.kids.length ck2, .int .i64 nd.line] 35)).heap[w.heap.size]? = some (.cells #[.slice (some ⟨g, off, none⟩) N c, .int .i64 (rt : Int)] 27 (0, 0)) := (Below.heap_alloc _ _ _ (lt_of_heap hx1)).trans hx1;have hb4 : Below wr.heap.size wr (wr.alloc (.cells #[.int .u8 (nd.k : Int), .int .i64 nd.n, .string nd.name, .slice an2 nd.names.length cn2, .slice ak2 nd.kids.length ck2, .int .i64 nd.line] 35)).drew := ((Below.refl _ _).alloc (Nat.le_refl _) _).drew;have hmx : Tryz.prog.follows .mixedOrders = true := by kernel_rfl
    clear hbb hnd hv hndq hkin hkln hnotrow hnr hrow cfit hx1 hx2 hOB hKB hKS hFB hfine
    gi_wp2_with fail
    refine wpIn_wide.2 (wp_region_noPanic (wp_region_held_drew (S := fun W' => W'.heap[wr.heap.size]? = some (.cells #[.int .u8 (nd.k : Int), .int .i64 nd.n, .string nd.name, .slice an2 nd.names.length cn2, .slice ak2 nd.kids.length ck2, .int .i64 nd.line] 35 (0, 0)) /\ W'.heap[w.heap.size]? = some (.cells #[.slice (some ⟨g, off, none⟩) N c, .int .i64 (rt : Int)] 27 (0, 0))) hmx ⟨hwn, hwb⟩ (fun hS => ?_)));by_cases a1 : nd.line < 1
    ·skip
     refine wpAnyH_take (i := 0) (v := .pointer (some ⟨wr.heap.size, 5, none⟩)) rfl (by kernel_rfl) (by kernel_rfl) (by kernel_rfl) (fun _ _ _ h => h) (.inl ⟨by rfl, fun w hs => ?_⟩) hS ?_
     ·clear hs;go_simp
     simp only [ja, jc, Act.put, jd, je, jf];refine wpAnyH_take (i := 1) (v := .int .i64 nd.line) rfl (by kernel_rfl) (by kernel_rfl) (by kernel_rfl) (fun _ _ _ h => h) (.inl ⟨by rfl, fun w hs => ?_⟩) hS ?_
     ·obtain ⟨s1, s2⟩ := hs;have x0 := cell_of s1 0 _ rfl;have x1 := cell_of s1 1 _ rfl;have x2 := cell_of s1 2 _ rfl;have x3 := cell_of s1 3 _ rfl;have x4 := cell_of s1 4 _ rfl;have x5 := cell_of s1 5 _ rfl;have y0 := cell_of s2 0 _ rfl;have y1 := cell_of s2 1 _ rfl;go_simp
     simp only [ja, jb, jc, Act.put, jd, je, jf];refine wpAnyH_take (i := 2) (v := .bool true) rfl (by kernel_rfl) (by kernel_rfl) (by kernel_rfl) (fun _ _ _ h => h) (.inl ⟨by rfl, fun w hs => ?_⟩) hS ?_
     ·clear hs;go_simp
     simp only [ja, jb, jc, Act.put, jd, je, jf];refine wpAnyH_take (i := 3) (v := .bool true) rfl (by kernel_rfl) (by kernel_rfl) (by kernel_rfl) (fun _ _ _ h => h) (.inl ⟨by rfl, fun w hs => ?_⟩) hS ?_
     ·clear hs;go_simp
     simp only [ja, jb, jc, Act.put, jd, je, jf];refine wpAnyH_take (i := 4) (v := undef) rfl (by kernel_rfl) (by kernel_rfl) (by kernel_rfl) (fun _ _ _ h => h) (.inr ⟨by rfl, rfl⟩) hS ?_;simp only [ja, jb, jc, Act.put, jd, je, jf];refine wpAnyH_take (i := 5) (v := undef) rfl (by kernel_rfl) (by kernel_rfl) (by kernel_rfl) (fun _ _ _ h => h) (.inr ⟨by rfl, rfl⟩) hS ?_;simp only [ja, jb, jc, Act.put, jd, je, jf];refine wpAnyH_take (i := 6) (v := undef) rfl (by kernel_rfl) (by kernel_rfl) (by kernel_rfl) (fun _ _ _ h => h) (.inr ⟨by rfl, rfl⟩) hS ?_;simp only [ja, jb, jc, Act.put, jd, je, jf];refine wpAnyH_take (i := 7) (v := .bool true) rfl (by kernel_rfl) (by kernel_rfl) (by kernel_rfl) (fun _ _ _ h => h) (.inl ⟨by rfl, fun w hs => ?_⟩) hS ?_
     ·clear hs;go_simp
     simp only [ja, jb, jc, Act.put, jd, je, jf];refine wpAnyH_take (i := 8) (v := .bool true) rfl (by kernel_rfl) (by kernel_rfl) (by kernel_rfl) (fun _ _ _ h => h) (.inl ⟨by rfl, fun w hs => ?_⟩) hS ?_
     ·clear hs;go_simp
     simp only [ja, jb, jc, Act.put, jd, je, jf];refine wpAnyH_take (i := 9) (v := undef) rfl (by kernel_rfl) (by kernel_rfl) (by kernel_rfl) (fun _ _ _ h => h) (.inr ⟨by rfl, rfl⟩) hS ?_;simp only [ja, jb, jc, Act.put, jd, je, jf];refine wpAnyH_take (i := 10) (v := undef) rfl (by kernel_rfl) (by kernel_rfl) (by kernel_rfl) (fun _ _ _ h => h) (.inr ⟨by rfl, rfl⟩) hS ?_;simp only [ja, jb, jc, Act.put, jd, je, jf];refine wpAnyH_take (i := 11) (v := undef) rfl (by kernel_rfl) (by kernel_rfl) (by kernel_rfl) (fun _ _ _ h => h) (.inr ⟨by rfl, rfl⟩) hS ?_;simp only [ja, jb, jc, Act.put, jd, je, jf];refine wpAnyH_take (i := 12) (v := undef) rfl (by kernel_rfl) (by kernel_rfl) (by kernel_rfl) (fun _ _ _ h => h) (.inr ⟨by rfl, rfl⟩) hS ?_;simp only [ja, jb, jc, Act.put, jd, je, jf];refine wpAnyH_take (i := 13) (v := undef) rfl (by kernel_rfl) (by kernel_rfl) (by kernel_rfl) (fun _ _ _ h => h) (.inr ⟨by rfl, rfl⟩) hS ?_;simp only [ja, jb, jc, Act.put, jd, je, jf];refine wpAnyH_take (i := 14) (v := undef) rfl (by kernel_rfl) (by kernel_rfl) (by kernel_rfl) (fun _ _ _ h => h) (.inr ⟨by rfl, rfl⟩) hS ?_;simp only [ja, jb, jc, Act.put, jd, je, jf];refine wpAnyH_take (i := 15) (v := .bool true) rfl (by kernel_rfl) (by kernel_rfl) (by kernel_rfl) (fun _ _ _ h => h) (.inl ⟨by rfl, fun w hs => ?_⟩) hS ?_
     ·clear hs;go_simp
     simp only [ja, jb, jc, Act.put, jd, je, jf];refine wpAnyH_take (i := 16) (v := .bool true) rfl (by kernel_rfl) (by kernel_rfl) (by kernel_rfl) (fun _ _ _ h => h) (.inl ⟨by rfl, fun w hs => ?_⟩) hS ?_
     ·clear hs;go_simp
     simp only [ja, jb, jc, Act.put, jd, je, jf];refine wpAnyH_take (i := 17) (v := undef) rfl (by kernel_rfl) (by kernel_rfl) (by kernel_rfl) (fun _ _ _ h => h) (.inr ⟨by rfl, rfl⟩) hS ?_;simp only [ja, jb, jc, Act.put, jd, je, jf];refine wpAnyH_take (i := 18) (v := undef) rfl (by kernel_rfl) (by kernel_rfl) (by kernel_rfl) (fun _ _ _ h => h) (.inr ⟨by rfl, rfl⟩) hS ?_;simp only [ja, jb, jc, Act.put, jd, je, jf];refine wpAnyH_take (i := 19) (v := undef) rfl (by kernel_rfl) (by kernel_rfl) (by kernel_rfl) (fun _ _ _ h => h) (.inr ⟨by rfl, rfl⟩) hS ?_;simp only [ja, jb, jc, Act.put, jd, je, jf];refine wpAnyH_take (i := 20) (v := undef) rfl (by kernel_rfl) (by kernel_rfl) (by kernel_rfl) (fun _ _ _ h => h) (.inr ⟨by rfl, rfl⟩) hS ?_;simp only [ja, jb, jc, Act.put, jd, je, jf];refine wpAnyH_take (i := 21) (v := .bool true) rfl (by kernel_rfl) (by kernel_rfl) (by kernel_rfl) (fun _ _ _ h => h) (.inl ⟨by rfl, fun w hs => ?_⟩) hS ?_
     ·clear hs;go_simp
     simp only [ja, jb, jc, Act.put, jd, je, jf];refine wpAnyH_done (by kernel_rfl) (NoPanic.normal ?_) _;obtain ⟨wa, hwa⟩ : ∃ wa, (wr.alloc (.cells #[.int .u8 (nd.k : Int), .int .i64 nd.n, .string nd.name, .slice an2 nd.names.length cn2, .slice ak2 nd.kids.length ck2, .int .i64 nd.line] 35)).drew = wa := ⟨_, rfl⟩;rw [hwa] at hb4 ⊢;clear hwa hwn hwb hS;have hX2l := ((hb4).block _ hR2).trans HXr2.out;have rl0 := cell_of hX2l 0 (.bool false) rfl;have rlf := free_of hX2l 0;have hbl := HBr.out.trans ((hb4).mono HBr.out.size)
     gi_wp2_with fail
     exact HNO.out (HNR.out (by rw [decide_eq_false (by omega)]; rfl)) _ (hbl.setCell (p := ⟨w.heap.size + 1, 0, none⟩) (by show w.heap.size <= w.heap.size + 1; omega) _) (Joins.block_setCell (i := 0) hX2l _) _ rfl
    cases OB with
    | false =>
    refine wpAnyH_take (i := 0) (v := .pointer (some ⟨wr.heap.size, 5, none⟩)) rfl (by kernel_rfl) (by kernel_rfl) (by kernel_rfl) (fun _ _ _ h => h) (.inl ⟨by rfl, fun w hs => ?_⟩) hS ?_
    ·clear hs;go_simp
    simp only [ja, jc, Act.put, jd, je, jf];refine wpAnyH_take (i := 1) (v := .int .i64 nd.line) rfl (by kernel_rfl) (by kernel_rfl) (by kernel_rfl) (fun _ _ _ h => h) (.inl ⟨by rfl, fun w hs => ?_⟩) hS ?_
    ·obtain ⟨s1, s2⟩ := hs;have x0 := cell_of s1 0 _ rfl;have x1 := cell_of s1 1 _ rfl;have x2 := cell_of s1 2 _ rfl;have x3 := cell_of s1 3 _ rfl;have x4 := cell_of s1 4 _ rfl;have x5 := cell_of s1 5 _ rfl;have y0 := cell_of s2 0 _ rfl;have y1 := cell_of s2 1 _ rfl;go_simp
    simp only [ja, jb, jc, Act.put, jd, je, jf];refine wpAnyH_take (i := 2) (v := .bool false) rfl (by kernel_rfl) (by kernel_rfl) (by kernel_rfl) (fun _ _ _ h => h) (.inl ⟨by rfl, fun w hs => ?_⟩) hS ?_
    ·clear hs;go_simp
    simp only [ja, jb, jc, Act.put, jd, je, jf];refine wpAnyH_take (i := 3) (v := .bool false) rfl (by kernel_rfl) (by kernel_rfl) (by kernel_rfl) (fun _ _ _ h => h) (.inl ⟨by rfl, fun w hs => ?_⟩) hS ?_
    ·clear hs;go_simp
    simp only [ja, jb, jc, Act.put, jd, je, jf];refine wpAnyH_take (i := 4) (v := .agg #[.int .u8 (nd.k : Int), .int .i64 nd.n, .string nd.name, .slice an2 nd.names.length cn2, .slice ak2 nd.kids.length ck2, .int .i64 nd.line]) rfl (by kernel_rfl) (by kernel_rfl) (by kernel_rfl) (fun _ _ _ h => h) (.inl ⟨by rfl, fun w hs => ?_⟩) hS ?_
    ·obtain ⟨s1, s2⟩ := hs;have x0 := cell_of s1 0 _ rfl;have x1 := cell_of s1 1 _ rfl;have x2 := cell_of s1 2 _ rfl;have x3 := cell_of s1 3 _ rfl;have x4 := cell_of s1 4 _ rfl;have x5 := cell_of s1 5 _ rfl;have y0 := cell_of s2 0 _ rfl;have y1 := cell_of s2 1 _ rfl;go_simp
    simp only [ja, jb, jc, Act.put, jd, je, jf];refine wpAnyH_ready (rs := [5]) (by kernel_rfl) (by simp) (AllReadyH.cons rfl (fun K hK => ?_) AllReadyH.nil);go_simp;refine (cown _ (HNV.out.below hb4)).mono ?_;rintro e w5 ⟨rfl, b⟩;have hbw5 := hb4.trans (b.mono hb4.size);refine hK.out _ _ ⟨(b.block _ (lt_of_heap hS.1)).trans hS.1, (b.block _ (lt_of_heap hS.2)).trans hS.2⟩ (fun hS => ?_);clear hK b;refine wpAnyH_take (i := 6) (v := .bool true) rfl (by kernel_rfl) (by kernel_rfl) (by kernel_rfl) (fun _ _ _ h => h) (.inl ⟨by rfl, fun w hs => ?_⟩) hS ?_
    ·clear hs;go_simp
    simp only [ja, jb, jc, Act.put, jd, je, jf];refine wpAnyH_take (i := 7) (v := .bool true) rfl (by kernel_rfl) (by kernel_rfl) (by kernel_rfl) (fun _ _ _ h => h) (.inl ⟨by rfl, fun w hs => ?_⟩) hS ?_
    ·clear hs;go_simp
    simp only [ja, jb, jc, Act.put, jd, je, jf];refine wpAnyH_take (i := 8) (v := .bool true) rfl (by kernel_rfl) (by kernel_rfl) (by kernel_rfl) (fun _ _ _ h => h) (.inl ⟨by rfl, fun w hs => ?_⟩) hS ?_
    ·clear hs;go_simp
    simp only [ja, jb, jc, Act.put, jd, je, jf];refine wpAnyH_take (i := 9) (v := undef) rfl (by kernel_rfl) (by kernel_rfl) (by kernel_rfl) (fun _ _ _ h => h) (.inr ⟨by rfl, rfl⟩) hS ?_;simp only [ja, jb, jc, Act.put, jd, je, jf];refine wpAnyH_take (i := 10) (v := undef) rfl (by kernel_rfl) (by kernel_rfl) (by kernel_rfl) (fun _ _ _ h => h) (.inr ⟨by rfl, rfl⟩) hS ?_;simp only [ja, jb, jc, Act.put, jd, je, jf];refine wpAnyH_take (i := 11) (v := undef) rfl (by kernel_rfl) (by kernel_rfl) (by kernel_rfl) (fun _ _ _ h => h) (.inr ⟨by rfl, rfl⟩) hS ?_;simp only [ja, jb, jc, Act.put, jd, je, jf];refine wpAnyH_take (i := 12) (v := undef) rfl (by kernel_rfl) (by kernel_rfl) (by kernel_rfl) (fun _ _ _ h => h) (.inr ⟨by rfl, rfl⟩) hS ?_;simp only [ja, jb, jc, Act.put, jd, je, jf];refine wpAnyH_take (i := 13) (v := undef) rfl (by kernel_rfl) (by kernel_rfl) (by kernel_rfl) (fun _ _ _ h => h) (.inr ⟨by rfl, rfl⟩) hS ?_;simp only [ja, jb, jc, Act.put, jd, je, jf];refine wpAnyH_take (i := 14) (v := undef) rfl (by kernel_rfl) (by kernel_rfl) (by kernel_rfl) (fun _ _ _ h => h) (.inr ⟨by rfl, rfl⟩) hS ?_;simp only [ja, jb, jc, Act.put, jd, je, jf];refine wpAnyH_take (i := 15) (v := .bool true) rfl (by kernel_rfl) (by kernel_rfl) (by kernel_rfl) (fun _ _ _ h => h) (.inl ⟨by rfl, fun w hs => ?_⟩) hS ?_
    ·clear hs;go_simp
    simp only [ja, jb, jc, Act.put, jd, je, jf];refine wpAnyH_take (i := 16) (v := .bool true) rfl (by kernel_rfl) (by kernel_rfl) (by kernel_rfl) (fun _ _ _ h => h) (.inl ⟨by rfl, fun w hs => ?_⟩) hS ?_
    ·clear hs;go_simp
    simp only [ja, jb, jc, Act.put, jd, je, jf];refine wpAnyH_take (i := 17) (v := undef) rfl (by kernel_rfl) (by kernel_rfl) (by kernel_rfl) (fun _ _ _ h => h) (.inr ⟨by rfl, rfl⟩) hS ?_;simp only [ja, jb, jc, Act.put, jd, je, jf];refine wpAnyH_take (i := 18) (v := undef) rfl (by kernel_rfl) (by kernel_rfl) (by kernel_rfl) (fun _ _ _ h => h) (.inr ⟨by rfl, rfl⟩) hS ?_;simp only [ja, jb, jc, Act.put, jd, je, jf];refine wpAnyH_take (i := 19) (v := undef) rfl (by kernel_rfl) (by kernel_rfl) (by kernel_rfl) (fun _ _ _ h => h) (.inr ⟨by rfl, rfl⟩) hS ?_;simp only [ja, jb, jc, Act.put, jd, je, jf];refine wpAnyH_take (i := 20) (v := undef) rfl (by kernel_rfl) (by kernel_rfl) (by kernel_rfl) (fun _ _ _ h => h) (.inr ⟨by rfl, rfl⟩) hS ?_;simp only [ja, jb, jc, Act.put, jd, je, jf];refine wpAnyH_take (i := 21) (v := .bool true) rfl (by kernel_rfl) (by kernel_rfl) (by kernel_rfl) (fun _ _ _ h => h) (.inl ⟨by rfl, fun w hs => ?_⟩) hS ?_
    ·clear hs;go_simp
    simp only [ja, jb, jc, Act.put, jd, je, jf];refine wpAnyH_done (by kernel_rfl) (NoPanic.normal ?_) _;have hX2l := ((hbw5).block _ hR2).trans HXr2.out;have rl0 := cell_of hX2l 0 (.bool false) rfl;have rlf := free_of hX2l 0;have hbl := HBr.out.trans ((hbw5).mono HBr.out.size)
    gi_wp2_with fail
    exact HNO.out (HNR.out (by simp)) _ (hbl.setCell (p := ⟨w.heap.size + 1, 0, none⟩) (by show w.heap.size <= w.heap.size + 1; omega) _) (Joins.block_setCell (i := 0) hX2l _) _ rfl
    | true =>
    cases KB with
    | false =>
    refine wpAnyH_take (i := 0) (v := .pointer (some ⟨wr.heap.size, 5, none⟩)) rfl (by kernel_rfl) (by kernel_rfl) (by kernel_rfl) (fun _ _ _ h => h) (.inl ⟨by rfl, fun w hs => ?_⟩) hS ?_
    ·clear hs;go_simp
    simp only [ja, jc, Act.put, jd, je, jf];refine wpAnyH_take (i := 1) (v := .int .i64 nd.line) rfl (by kernel_rfl) (by kernel_rfl) (by kernel_rfl) (fun _ _ _ h => h) (.inl ⟨by rfl, fun w hs => ?_⟩) hS ?_
    ·obtain ⟨s1, s2⟩ := hs;have x0 := cell_of s1 0 _ rfl;have x1 := cell_of s1 1 _ rfl;have x2 := cell_of s1 2 _ rfl;have x3 := cell_of s1 3 _ rfl;have x4 := cell_of s1 4 _ rfl;have x5 := cell_of s1 5 _ rfl;have y0 := cell_of s2 0 _ rfl;have y1 := cell_of s2 1 _ rfl;go_simp
    simp only [ja, jb, jc, Act.put, jd, je, jf];refine wpAnyH_take (i := 2) (v := .bool false) rfl (by kernel_rfl) (by kernel_rfl) (by kernel_rfl) (fun _ _ _ h => h) (.inl ⟨by rfl, fun w hs => ?_⟩) hS ?_
    ·clear hs;go_simp
    simp only [ja, jb, jc, Act.put, jd, je, jf];refine wpAnyH_take (i := 3) (v := .bool false) rfl (by kernel_rfl) (by kernel_rfl) (by kernel_rfl) (fun _ _ _ h => h) (.inl ⟨by rfl, fun w hs => ?_⟩) hS ?_
    ·clear hs;go_simp
    simp only [ja, jb, jc, Act.put, jd, je, jf];refine wpAnyH_take (i := 4) (v := .agg #[.int .u8 (nd.k : Int), .int .i64 nd.n, .string nd.name, .slice an2 nd.names.length cn2, .slice ak2 nd.kids.length ck2, .int .i64 nd.line]) rfl (by kernel_rfl) (by kernel_rfl) (by kernel_rfl) (fun _ _ _ h => h) (.inl ⟨by rfl, fun w hs => ?_⟩) hS ?_
    ·obtain ⟨s1, s2⟩ := hs;have x0 := cell_of s1 0 _ rfl;have x1 := cell_of s1 1 _ rfl;have x2 := cell_of s1 2 _ rfl;have x3 := cell_of s1 3 _ rfl;have x4 := cell_of s1 4 _ rfl;have x5 := cell_of s1 5 _ rfl;have y0 := cell_of s2 0 _ rfl;have y1 := cell_of s2 1 _ rfl;go_simp
    simp only [ja, jb, jc, Act.put, jd, je, jf];refine wpAnyH_ready (rs := [5]) (by kernel_rfl) (by simp) (AllReadyH.cons rfl (fun K hK => ?_) AllReadyH.nil);go_simp;refine (cown _ (HNV.out.below hb4)).mono ?_;rintro e w5 ⟨rfl, b⟩;have hbw5 := hb4.trans (b.mono hb4.size);refine hK.out _ _ ⟨(b.block _ (lt_of_heap hS.1)).trans hS.1, (b.block _ (lt_of_heap hS.2)).trans hS.2⟩ (fun hS => ?_);clear hK b;refine wpAnyH_take (i := 6) (v := .bool false) rfl (by kernel_rfl) (by kernel_rfl) (by kernel_rfl) (fun _ _ _ h => h) (.inl ⟨by rfl, fun w hs => ?_⟩) hS ?_
    ·clear hs;go_simp
    simp only [ja, jb, jc, Act.put, jd, je, jf];refine wpAnyH_take (i := 7) (v := .bool false) rfl (by kernel_rfl) (by kernel_rfl) (by kernel_rfl) (fun _ _ _ h => h) (.inl ⟨by rfl, fun w hs => ?_⟩) hS ?_
    ·clear hs;go_simp
    simp only [ja, jb, jc, Act.put, jd, je, jf];refine wpAnyH_take (i := 8) (v := .bool false) rfl (by kernel_rfl) (by kernel_rfl) (by kernel_rfl) (fun _ _ _ h => h) (.inl ⟨by rfl, fun w hs => ?_⟩) hS ?_
    ·clear hs;go_simp
    simp only [ja, jb, jc, Act.put, jd, je, jf];refine wpAnyH_take (i := 9) (v := .agg #[.int .u8 (nd.k : Int), .int .i64 nd.n, .string nd.name, .slice an2 nd.names.length cn2, .slice ak2 nd.kids.length ck2, .int .i64 nd.line]) rfl (by kernel_rfl) (by kernel_rfl) (by kernel_rfl) (fun _ _ _ h => h) (.inl ⟨by rfl, fun w hs => ?_⟩) hS ?_
    ·obtain ⟨s1, s2⟩ := hs;have x0 := cell_of s1 0 _ rfl;have x1 := cell_of s1 1 _ rfl;have x2 := cell_of s1 2 _ rfl;have x3 := cell_of s1 3 _ rfl;have x4 := cell_of s1 4 _ rfl;have x5 := cell_of s1 5 _ rfl;have y0 := cell_of s2 0 _ rfl;have y1 := cell_of s2 1 _ rfl;go_simp
    simp only [ja, jb, jc, Act.put, jd, je, jf];refine wpAnyH_take (i := 10) (v := .agg #[.slice (some ⟨g, off, none⟩) N c, .int .i64 (rt : Int)]) rfl (by kernel_rfl) (by kernel_rfl) (by kernel_rfl) (fun _ _ _ h => h) (.inl ⟨by rfl, fun w hs => ?_⟩) hS ?_
    ·obtain ⟨s1, s2⟩ := hs;have x0 := cell_of s1 0 _ rfl;have x1 := cell_of s1 1 _ rfl;have x2 := cell_of s1 2 _ rfl;have x3 := cell_of s1 3 _ rfl;have x4 := cell_of s1 4 _ rfl;have x5 := cell_of s1 5 _ rfl;have y0 := cell_of s2 0 _ rfl;have y1 := cell_of s2 1 _ rfl;go_simp
    simp only [ja, jb, jc, Act.put, jd, je, jf];refine wpAnyH_take (i := 11) (v := .agg #[.int .u8 (nd.k : Int), .int .i64 nd.n, .string nd.name, .slice an2 nd.names.length cn2, .slice ak2 nd.kids.length ck2, .int .i64 nd.line]) rfl (by kernel_rfl) (by kernel_rfl) (by kernel_rfl) (fun _ _ _ h => h) (.inl ⟨by rfl, fun w hs => ?_⟩) hS ?_
    ·obtain ⟨s1, s2⟩ := hs;have x0 := cell_of s1 0 _ rfl;have x1 := cell_of s1 1 _ rfl;have x2 := cell_of s1 2 _ rfl;have x3 := cell_of s1 3 _ rfl;have x4 := cell_of s1 4 _ rfl;have x5 := cell_of s1 5 _ rfl;have y0 := cell_of s2 0 _ rfl;have y1 := cell_of s2 1 _ rfl;go_simp
    simp only [ja, jb, jc, Act.put, jd, je, jf];refine wpAnyH_ready (rs := [12]) (by kernel_rfl) (by simp) (AllReadyH.cons rfl (fun K hK => ?_) AllReadyH.nil);go_simp;refine (ckk _ (HSYN.out.below (HBr.out.trans (hbw5.mono HBr.out.size))) (HNV.out.below hbw5)).mono ?_;rintro e w6 ⟨u, rfl, hKl, b⟩;have hbw6 := hbw5.trans (b.mono hbw5.size);refine hK.out _ _ ⟨(b.block _ (lt_of_heap hS.1)).trans hS.1, (b.block _ (lt_of_heap hS.2)).trans hS.2⟩ (fun hS => ?_);clear hK b;obtain ⟨au, cu, rfl⟩ := kl_slice hKl;refine wpAnyH_ready (rs := [13]) (by kernel_rfl) (by simp) (AllReadyH.cons rfl (fun K hK => ?_) AllReadyH.nil);go_simp;refine (ckids _ _ hKl).mono ?_;rintro e w7 ⟨rfl, b⟩;have hbw7 := hbw6.trans (b.mono hbw6.size);refine hK.out _ _ ⟨(b.block _ (lt_of_heap hS.1)).trans hS.1, (b.block _ (lt_of_heap hS.2)).trans hS.2⟩ (fun hS => ?_);clear hK b;refine wpAnyH_take (i := 14) (v := .bool true) rfl (by kernel_rfl) (by kernel_rfl) (by kernel_rfl) (fun _ _ _ h => h) (.inl ⟨by rfl, fun w hs => ?_⟩) hS ?_
    ·clear hs;go_simp
    simp only [ja, jb, jc, Act.put, jd, je, jf];refine wpAnyH_take (i := 15) (v := .bool true) rfl (by kernel_rfl) (by kernel_rfl) (by kernel_rfl) (fun _ _ _ h => h) (.inl ⟨by rfl, fun w hs => ?_⟩) hS ?_
    ·clear hs;go_simp
    simp only [ja, jb, jc, Act.put, jd, je, jf];refine wpAnyH_take (i := 16) (v := .bool true) rfl (by kernel_rfl) (by kernel_rfl) (by kernel_rfl) (fun _ _ _ h => h) (.inl ⟨by rfl, fun w hs => ?_⟩) hS ?_
    ·clear hs;go_simp
    simp only [ja, jb, jc, Act.put, jd, je, jf];refine wpAnyH_take (i := 17) (v := undef) rfl (by kernel_rfl) (by kernel_rfl) (by kernel_rfl) (fun _ _ _ h => h) (.inr ⟨by rfl, rfl⟩) hS ?_;simp only [ja, jb, jc, Act.put, jd, je, jf];refine wpAnyH_take (i := 18) (v := undef) rfl (by kernel_rfl) (by kernel_rfl) (by kernel_rfl) (fun _ _ _ h => h) (.inr ⟨by rfl, rfl⟩) hS ?_;simp only [ja, jb, jc, Act.put, jd, je, jf];refine wpAnyH_take (i := 19) (v := undef) rfl (by kernel_rfl) (by kernel_rfl) (by kernel_rfl) (fun _ _ _ h => h) (.inr ⟨by rfl, rfl⟩) hS ?_;simp only [ja, jb, jc, Act.put, jd, je, jf];refine wpAnyH_take (i := 20) (v := undef) rfl (by kernel_rfl) (by kernel_rfl) (by kernel_rfl) (fun _ _ _ h => h) (.inr ⟨by rfl, rfl⟩) hS ?_;simp only [ja, jb, jc, Act.put, jd, je, jf];refine wpAnyH_take (i := 21) (v := .bool true) rfl (by kernel_rfl) (by kernel_rfl) (by kernel_rfl) (fun _ _ _ h => h) (.inl ⟨by rfl, fun w hs => ?_⟩) hS ?_
    ·clear hs;go_simp
    simp only [ja, jb, jc, Act.put, jd, je, jf];refine wpAnyH_done (by kernel_rfl) (NoPanic.normal ?_) _;have hX2l := ((hbw7).block _ hR2).trans HXr2.out;have rl0 := cell_of hX2l 0 (.bool false) rfl;have rlf := free_of hX2l 0;have hbl := HBr.out.trans ((hbw7).mono HBr.out.size)
    gi_wp2_with fail
    exact HNO.out (HNR.out (by simp)) _ (hbl.setCell (p := ⟨w.heap.size + 1, 0, none⟩) (by show w.heap.size <= w.heap.size + 1; omega) _) (Joins.block_setCell (i := 0) hX2l _) _ rfl
    | true =>
    cases FB with
    | false =>
    refine wpAnyH_take (i := 0) (v := .pointer (some ⟨wr.heap.size, 5, none⟩)) rfl (by kernel_rfl) (by kernel_rfl) (by kernel_rfl) (fun _ _ _ h => h) (.inl ⟨by rfl, fun w hs => ?_⟩) hS ?_
    ·clear hs;go_simp
    simp only [ja, jc, Act.put, jd, je, jf];refine wpAnyH_take (i := 1) (v := .int .i64 nd.line) rfl (by kernel_rfl) (by kernel_rfl) (by kernel_rfl) (fun _ _ _ h => h) (.inl ⟨by rfl, fun w hs => ?_⟩) hS ?_
    ·obtain ⟨s1, s2⟩ := hs;have x0 := cell_of s1 0 _ rfl;have x1 := cell_of s1 1 _ rfl;have x2 := cell_of s1 2 _ rfl;have x3 := cell_of s1 3 _ rfl;have x4 := cell_of s1 4 _ rfl;have x5 := cell_of s1 5 _ rfl;have y0 := cell_of s2 0 _ rfl;have y1 := cell_of s2 1 _ rfl;go_simp
    simp only [ja, jb, jc, Act.put, jd, je, jf];refine wpAnyH_take (i := 2) (v := .bool false) rfl (by kernel_rfl) (by kernel_rfl) (by kernel_rfl) (fun _ _ _ h => h) (.inl ⟨by rfl, fun w hs => ?_⟩) hS ?_
    ·clear hs;go_simp
    simp only [ja, jb, jc, Act.put, jd, je, jf];refine wpAnyH_take (i := 3) (v := .bool false) rfl (by kernel_rfl) (by kernel_rfl) (by kernel_rfl) (fun _ _ _ h => h) (.inl ⟨by rfl, fun w hs => ?_⟩) hS ?_
    ·clear hs;go_simp
    simp only [ja, jb, jc, Act.put, jd, je, jf];refine wpAnyH_take (i := 4) (v := .agg #[.int .u8 (nd.k : Int), .int .i64 nd.n, .string nd.name, .slice an2 nd.names.length cn2, .slice ak2 nd.kids.length ck2, .int .i64 nd.line]) rfl (by kernel_rfl) (by kernel_rfl) (by kernel_rfl) (fun _ _ _ h => h) (.inl ⟨by rfl, fun w hs => ?_⟩) hS ?_
    ·obtain ⟨s1, s2⟩ := hs;have x0 := cell_of s1 0 _ rfl;have x1 := cell_of s1 1 _ rfl;have x2 := cell_of s1 2 _ rfl;have x3 := cell_of s1 3 _ rfl;have x4 := cell_of s1 4 _ rfl;have x5 := cell_of s1 5 _ rfl;have y0 := cell_of s2 0 _ rfl;have y1 := cell_of s2 1 _ rfl;go_simp
    simp only [ja, jb, jc, Act.put, jd, je, jf];refine wpAnyH_ready (rs := [5]) (by kernel_rfl) (by simp) (AllReadyH.cons rfl (fun K hK => ?_) AllReadyH.nil);go_simp;refine (cown _ (HNV.out.below hb4)).mono ?_;rintro e w5 ⟨rfl, b⟩;have hbw5 := hb4.trans (b.mono hb4.size);refine hK.out _ _ ⟨(b.block _ (lt_of_heap hS.1)).trans hS.1, (b.block _ (lt_of_heap hS.2)).trans hS.2⟩ (fun hS => ?_);clear hK b;refine wpAnyH_take (i := 6) (v := .bool false) rfl (by kernel_rfl) (by kernel_rfl) (by kernel_rfl) (fun _ _ _ h => h) (.inl ⟨by rfl, fun w hs => ?_⟩) hS ?_
    ·clear hs;go_simp
    simp only [ja, jb, jc, Act.put, jd, je, jf];refine wpAnyH_take (i := 7) (v := .bool false) rfl (by kernel_rfl) (by kernel_rfl) (by kernel_rfl) (fun _ _ _ h => h) (.inl ⟨by rfl, fun w hs => ?_⟩) hS ?_
    ·clear hs;go_simp
    simp only [ja, jb, jc, Act.put, jd, je, jf];refine wpAnyH_take (i := 8) (v := .bool false) rfl (by kernel_rfl) (by kernel_rfl) (by kernel_rfl) (fun _ _ _ h => h) (.inl ⟨by rfl, fun w hs => ?_⟩) hS ?_
    ·clear hs;go_simp
    simp only [ja, jb, jc, Act.put, jd, je, jf];refine wpAnyH_take (i := 9) (v := .agg #[.int .u8 (nd.k : Int), .int .i64 nd.n, .string nd.name, .slice an2 nd.names.length cn2, .slice ak2 nd.kids.length ck2, .int .i64 nd.line]) rfl (by kernel_rfl) (by kernel_rfl) (by kernel_rfl) (fun _ _ _ h => h) (.inl ⟨by rfl, fun w hs => ?_⟩) hS ?_
    ·obtain ⟨s1, s2⟩ := hs;have x0 := cell_of s1 0 _ rfl;have x1 := cell_of s1 1 _ rfl;have x2 := cell_of s1 2 _ rfl;have x3 := cell_of s1 3 _ rfl;have x4 := cell_of s1 4 _ rfl;have x5 := cell_of s1 5 _ rfl;have y0 := cell_of s2 0 _ rfl;have y1 := cell_of s2 1 _ rfl;go_simp
    simp only [ja, jb, jc, Act.put, jd, je, jf];refine wpAnyH_take (i := 10) (v := .agg #[.slice (some ⟨g, off, none⟩) N c, .int .i64 (rt : Int)]) rfl (by kernel_rfl) (by kernel_rfl) (by kernel_rfl) (fun _ _ _ h => h) (.inl ⟨by rfl, fun w hs => ?_⟩) hS ?_
    ·obtain ⟨s1, s2⟩ := hs;have x0 := cell_of s1 0 _ rfl;have x1 := cell_of s1 1 _ rfl;have x2 := cell_of s1 2 _ rfl;have x3 := cell_of s1 3 _ rfl;have x4 := cell_of s1 4 _ rfl;have x5 := cell_of s1 5 _ rfl;have y0 := cell_of s2 0 _ rfl;have y1 := cell_of s2 1 _ rfl;go_simp
    simp only [ja, jb, jc, Act.put, jd, je, jf];refine wpAnyH_take (i := 11) (v := .agg #[.int .u8 (nd.k : Int), .int .i64 nd.n, .string nd.name, .slice an2 nd.names.length cn2, .slice ak2 nd.kids.length ck2, .int .i64 nd.line]) rfl (by kernel_rfl) (by kernel_rfl) (by kernel_rfl) (fun _ _ _ h => h) (.inl ⟨by rfl, fun w hs => ?_⟩) hS ?_
    ·obtain ⟨s1, s2⟩ := hs;have x0 := cell_of s1 0 _ rfl;have x1 := cell_of s1 1 _ rfl;have x2 := cell_of s1 2 _ rfl;have x3 := cell_of s1 3 _ rfl;have x4 := cell_of s1 4 _ rfl;have x5 := cell_of s1 5 _ rfl;have y0 := cell_of s2 0 _ rfl;have y1 := cell_of s2 1 _ rfl;go_simp
    simp only [ja, jb, jc, Act.put, jd, je, jf];refine wpAnyH_ready (rs := [12]) (by kernel_rfl) (by simp) (AllReadyH.cons rfl (fun K hK => ?_) AllReadyH.nil);go_simp;refine (ckk _ (HSYN.out.below (HBr.out.trans (hbw5.mono HBr.out.size))) (HNV.out.below hbw5)).mono ?_;rintro e w6 ⟨u, rfl, hKl, b⟩;have hbw6 := hbw5.trans (b.mono hbw5.size);refine hK.out _ _ ⟨(b.block _ (lt_of_heap hS.1)).trans hS.1, (b.block _ (lt_of_heap hS.2)).trans hS.2⟩ (fun hS => ?_);clear hK b;obtain ⟨au, cu, rfl⟩ := kl_slice hKl;refine wpAnyH_ready (rs := [13]) (by kernel_rfl) (by simp) (AllReadyH.cons rfl (fun K hK => ?_) AllReadyH.nil);go_simp;refine (ckids _ _ hKl).mono ?_;rintro e w7 ⟨rfl, b⟩;have hbw7 := hbw6.trans (b.mono hbw6.size);refine hK.out _ _ ⟨(b.block _ (lt_of_heap hS.1)).trans hS.1, (b.block _ (lt_of_heap hS.2)).trans hS.2⟩ (fun hS => ?_);clear hK b;refine wpAnyH_take (i := 14) (v := .bool false) rfl (by kernel_rfl) (by kernel_rfl) (by kernel_rfl) (fun _ _ _ h => h) (.inl ⟨by rfl, fun w hs => ?_⟩) hS ?_
    ·clear hs;go_simp
    simp only [ja, jb, jc, Act.put, jd, je, jf];refine wpAnyH_take (i := 15) (v := .bool false) rfl (by kernel_rfl) (by kernel_rfl) (by kernel_rfl) (fun _ _ _ h => h) (.inl ⟨by rfl, fun w hs => ?_⟩) hS ?_
    ·clear hs;go_simp
    simp only [ja, jb, jc, Act.put, jd, je, jf];refine wpAnyH_take (i := 16) (v := .bool false) rfl (by kernel_rfl) (by kernel_rfl) (by kernel_rfl) (fun _ _ _ h => h) (.inl ⟨by rfl, fun w hs => ?_⟩) hS ?_
    ·clear hs;go_simp
    simp only [ja, jb, jc, Act.put, jd, je, jf];refine wpAnyH_take (i := 17) (v := .agg #[.slice (some ⟨g, off, none⟩) N c, .int .i64 (rt : Int)]) rfl (by kernel_rfl) (by kernel_rfl) (by kernel_rfl) (fun _ _ _ h => h) (.inl ⟨by rfl, fun w hs => ?_⟩) hS ?_
    ·obtain ⟨s1, s2⟩ := hs;have x0 := cell_of s1 0 _ rfl;have x1 := cell_of s1 1 _ rfl;have x2 := cell_of s1 2 _ rfl;have x3 := cell_of s1 3 _ rfl;have x4 := cell_of s1 4 _ rfl;have x5 := cell_of s1 5 _ rfl;have y0 := cell_of s2 0 _ rfl;have y1 := cell_of s2 1 _ rfl;go_simp
    simp only [ja, jb, jc, Act.put, jd, je, jf];refine wpAnyH_take (i := 18) (v := .agg #[.int .u8 (nd.k : Int), .int .i64 nd.n, .string nd.name, .slice an2 nd.names.length cn2, .slice ak2 nd.kids.length ck2, .int .i64 nd.line]) rfl (by kernel_rfl) (by kernel_rfl) (by kernel_rfl) (fun _ _ _ h => h) (.inl ⟨by rfl, fun w hs => ?_⟩) hS ?_
    ·obtain ⟨s1, s2⟩ := hs;have x0 := cell_of s1 0 _ rfl;have x1 := cell_of s1 1 _ rfl;have x2 := cell_of s1 2 _ rfl;have x3 := cell_of s1 3 _ rfl;have x4 := cell_of s1 4 _ rfl;have x5 := cell_of s1 5 _ rfl;have y0 := cell_of s2 0 _ rfl;have y1 := cell_of s2 1 _ rfl;go_simp
    simp only [ja, jb, jc, Act.put, jd, je, jf];refine wpAnyH_ready (rs := [19]) (by kernel_rfl) (by simp) (AllReadyH.cons rfl (fun K hK => ?_) AllReadyH.nil);go_simp;refine (CFIT.out rfl _ (HSYN.out.below (HBr.out.trans (hbw7.mono HBr.out.size))) (HNV.out.below hbw7)).mono ?_;rintro e w8 ⟨rfl, b⟩;have hbw8 := hbw7.trans (b.mono hbw7.size);refine hK.out _ _ ⟨(b.block _ (lt_of_heap hS.1)).trans hS.1, (b.block _ (lt_of_heap hS.2)).trans hS.2⟩ (fun hS => ?_);clear hK b;refine wpAnyH_take (i := 20) (v := .bool true) rfl (by kernel_rfl) (by kernel_rfl) (by kernel_rfl) (fun _ _ _ h => h) (.inl ⟨by rfl, fun w hs => ?_⟩) hS ?_
    ·clear hs;go_simp
    simp only [ja, jb, jc, Act.put, jd, je, jf];refine wpAnyH_take (i := 21) (v := .bool true) rfl (by kernel_rfl) (by kernel_rfl) (by kernel_rfl) (fun _ _ _ h => h) (.inl ⟨by rfl, fun w hs => ?_⟩) hS ?_
    ·clear hs;go_simp
    simp only [ja, jb, jc, Act.put, jd, je, jf];refine wpAnyH_done (by kernel_rfl) (NoPanic.normal ?_) _;have hX2l := ((hbw8).block _ hR2).trans HXr2.out;have rl0 := cell_of hX2l 0 (.bool false) rfl;have rlf := free_of hX2l 0;have hbl := HBr.out.trans ((hbw8).mono HBr.out.size)
    gi_wp2_with fail
    exact HNO.out (HNR.out (by simp)) _ (hbl.setCell (p := ⟨w.heap.size + 1, 0, none⟩) (by show w.heap.size <= w.heap.size + 1; omega) _) (Joins.block_setCell (i := 0) hX2l _) _ rfl
    | true =>
    refine wpAnyH_take (i := 0) (v := .pointer (some ⟨wr.heap.size, 5, none⟩)) rfl (by kernel_rfl) (by kernel_rfl) (by kernel_rfl) (fun _ _ _ h => h) (.inl ⟨by rfl, fun w hs => ?_⟩) hS ?_
    ·clear hs;go_simp
    simp only [ja, jc, Act.put, jd, je, jf];refine wpAnyH_take (i := 1) (v := .int .i64 nd.line) rfl (by kernel_rfl) (by kernel_rfl) (by kernel_rfl) (fun _ _ _ h => h) (.inl ⟨by rfl, fun w hs => ?_⟩) hS ?_
    ·obtain ⟨s1, s2⟩ := hs;have x0 := cell_of s1 0 _ rfl;have x1 := cell_of s1 1 _ rfl;have x2 := cell_of s1 2 _ rfl;have x3 := cell_of s1 3 _ rfl;have x4 := cell_of s1 4 _ rfl;have x5 := cell_of s1 5 _ rfl;have y0 := cell_of s2 0 _ rfl;have y1 := cell_of s2 1 _ rfl;go_simp
    simp only [ja, jb, jc, Act.put, jd, je, jf];refine wpAnyH_take (i := 2) (v := .bool false) rfl (by kernel_rfl) (by kernel_rfl) (by kernel_rfl) (fun _ _ _ h => h) (.inl ⟨by rfl, fun w hs => ?_⟩) hS ?_
    ·clear hs;go_simp
    simp only [ja, jb, jc, Act.put, jd, je, jf];refine wpAnyH_take (i := 3) (v := .bool false) rfl (by kernel_rfl) (by kernel_rfl) (by kernel_rfl) (fun _ _ _ h => h) (.inl ⟨by rfl, fun w hs => ?_⟩) hS ?_
    ·clear hs;go_simp
    simp only [ja, jb, jc, Act.put, jd, je, jf];refine wpAnyH_take (i := 4) (v := .agg #[.int .u8 (nd.k : Int), .int .i64 nd.n, .string nd.name, .slice an2 nd.names.length cn2, .slice ak2 nd.kids.length ck2, .int .i64 nd.line]) rfl (by kernel_rfl) (by kernel_rfl) (by kernel_rfl) (fun _ _ _ h => h) (.inl ⟨by rfl, fun w hs => ?_⟩) hS ?_
    ·obtain ⟨s1, s2⟩ := hs;have x0 := cell_of s1 0 _ rfl;have x1 := cell_of s1 1 _ rfl;have x2 := cell_of s1 2 _ rfl;have x3 := cell_of s1 3 _ rfl;have x4 := cell_of s1 4 _ rfl;have x5 := cell_of s1 5 _ rfl;have y0 := cell_of s2 0 _ rfl;have y1 := cell_of s2 1 _ rfl;go_simp
    simp only [ja, jb, jc, Act.put, jd, je, jf];refine wpAnyH_ready (rs := [5]) (by kernel_rfl) (by simp) (AllReadyH.cons rfl (fun K hK => ?_) AllReadyH.nil);go_simp;refine (cown _ (HNV.out.below hb4)).mono ?_;rintro e w5 ⟨rfl, b⟩;have hbw5 := hb4.trans (b.mono hb4.size);refine hK.out _ _ ⟨(b.block _ (lt_of_heap hS.1)).trans hS.1, (b.block _ (lt_of_heap hS.2)).trans hS.2⟩ (fun hS => ?_);clear hK b;refine wpAnyH_take (i := 6) (v := .bool false) rfl (by kernel_rfl) (by kernel_rfl) (by kernel_rfl) (fun _ _ _ h => h) (.inl ⟨by rfl, fun w hs => ?_⟩) hS ?_
    ·clear hs;go_simp
    simp only [ja, jb, jc, Act.put, jd, je, jf];refine wpAnyH_take (i := 7) (v := .bool false) rfl (by kernel_rfl) (by kernel_rfl) (by kernel_rfl) (fun _ _ _ h => h) (.inl ⟨by rfl, fun w hs => ?_⟩) hS ?_
    ·clear hs;go_simp
    simp only [ja, jb, jc, Act.put, jd, je, jf];refine wpAnyH_take (i := 8) (v := .bool false) rfl (by kernel_rfl) (by kernel_rfl) (by kernel_rfl) (fun _ _ _ h => h) (.inl ⟨by rfl, fun w hs => ?_⟩) hS ?_
    ·clear hs;go_simp
    simp only [ja, jb, jc, Act.put, jd, je, jf];refine wpAnyH_take (i := 9) (v := .agg #[.int .u8 (nd.k : Int), .int .i64 nd.n, .string nd.name, .slice an2 nd.names.length cn2, .slice ak2 nd.kids.length ck2, .int .i64 nd.line]) rfl (by kernel_rfl) (by kernel_rfl) (by kernel_rfl) (fun _ _ _ h => h) (.inl ⟨by rfl, fun w hs => ?_⟩) hS ?_
    ·obtain ⟨s1, s2⟩ := hs;have x0 := cell_of s1 0 _ rfl;have x1 := cell_of s1 1 _ rfl;have x2 := cell_of s1 2 _ rfl;have x3 := cell_of s1 3 _ rfl;have x4 := cell_of s1 4 _ rfl;have x5 := cell_of s1 5 _ rfl;have y0 := cell_of s2 0 _ rfl;have y1 := cell_of s2 1 _ rfl;go_simp
    simp only [ja, jb, jc, Act.put, jd, je, jf];refine wpAnyH_take (i := 10) (v := .agg #[.slice (some ⟨g, off, none⟩) N c, .int .i64 (rt : Int)]) rfl (by kernel_rfl) (by kernel_rfl) (by kernel_rfl) (fun _ _ _ h => h) (.inl ⟨by rfl, fun w hs => ?_⟩) hS ?_
    ·obtain ⟨s1, s2⟩ := hs;have x0 := cell_of s1 0 _ rfl;have x1 := cell_of s1 1 _ rfl;have x2 := cell_of s1 2 _ rfl;have x3 := cell_of s1 3 _ rfl;have x4 := cell_of s1 4 _ rfl;have x5 := cell_of s1 5 _ rfl;have y0 := cell_of s2 0 _ rfl;have y1 := cell_of s2 1 _ rfl;go_simp
    simp only [ja, jb, jc, Act.put, jd, je, jf];refine wpAnyH_take (i := 11) (v := .agg #[.int .u8 (nd.k : Int), .int .i64 nd.n, .string nd.name, .slice an2 nd.names.length cn2, .slice ak2 nd.kids.length ck2, .int .i64 nd.line]) rfl (by kernel_rfl) (by kernel_rfl) (by kernel_rfl) (fun _ _ _ h => h) (.inl ⟨by rfl, fun w hs => ?_⟩) hS ?_
    ·obtain ⟨s1, s2⟩ := hs;have x0 := cell_of s1 0 _ rfl;have x1 := cell_of s1 1 _ rfl;have x2 := cell_of s1 2 _ rfl;have x3 := cell_of s1 3 _ rfl;have x4 := cell_of s1 4 _ rfl;have x5 := cell_of s1 5 _ rfl;have y0 := cell_of s2 0 _ rfl;have y1 := cell_of s2 1 _ rfl;go_simp
    simp only [ja, jb, jc, Act.put, jd, je, jf];refine wpAnyH_ready (rs := [12]) (by kernel_rfl) (by simp) (AllReadyH.cons rfl (fun K hK => ?_) AllReadyH.nil);go_simp;refine (ckk _ (HSYN.out.below (HBr.out.trans (hbw5.mono HBr.out.size))) (HNV.out.below hbw5)).mono ?_;rintro e w6 ⟨u, rfl, hKl, b⟩;have hbw6 := hbw5.trans (b.mono hbw5.size);refine hK.out _ _ ⟨(b.block _ (lt_of_heap hS.1)).trans hS.1, (b.block _ (lt_of_heap hS.2)).trans hS.2⟩ (fun hS => ?_);clear hK b;obtain ⟨au, cu, rfl⟩ := kl_slice hKl;refine wpAnyH_ready (rs := [13]) (by kernel_rfl) (by simp) (AllReadyH.cons rfl (fun K hK => ?_) AllReadyH.nil);go_simp;refine (ckids _ _ hKl).mono ?_;rintro e w7 ⟨rfl, b⟩;have hbw7 := hbw6.trans (b.mono hbw6.size);refine hK.out _ _ ⟨(b.block _ (lt_of_heap hS.1)).trans hS.1, (b.block _ (lt_of_heap hS.2)).trans hS.2⟩ (fun hS => ?_);clear hK b;refine wpAnyH_take (i := 14) (v := .bool false) rfl (by kernel_rfl) (by kernel_rfl) (by kernel_rfl) (fun _ _ _ h => h) (.inl ⟨by rfl, fun w hs => ?_⟩) hS ?_
    ·clear hs;go_simp
    simp only [ja, jb, jc, Act.put, jd, je, jf];refine wpAnyH_take (i := 15) (v := .bool false) rfl (by kernel_rfl) (by kernel_rfl) (by kernel_rfl) (fun _ _ _ h => h) (.inl ⟨by rfl, fun w hs => ?_⟩) hS ?_
    ·clear hs;go_simp
    simp only [ja, jb, jc, Act.put, jd, je, jf];refine wpAnyH_take (i := 16) (v := .bool false) rfl (by kernel_rfl) (by kernel_rfl) (by kernel_rfl) (fun _ _ _ h => h) (.inl ⟨by rfl, fun w hs => ?_⟩) hS ?_
    ·clear hs;go_simp
    simp only [ja, jb, jc, Act.put, jd, je, jf];refine wpAnyH_take (i := 17) (v := .agg #[.slice (some ⟨g, off, none⟩) N c, .int .i64 (rt : Int)]) rfl (by kernel_rfl) (by kernel_rfl) (by kernel_rfl) (fun _ _ _ h => h) (.inl ⟨by rfl, fun w hs => ?_⟩) hS ?_
    ·obtain ⟨s1, s2⟩ := hs;have x0 := cell_of s1 0 _ rfl;have x1 := cell_of s1 1 _ rfl;have x2 := cell_of s1 2 _ rfl;have x3 := cell_of s1 3 _ rfl;have x4 := cell_of s1 4 _ rfl;have x5 := cell_of s1 5 _ rfl;have y0 := cell_of s2 0 _ rfl;have y1 := cell_of s2 1 _ rfl;go_simp
    simp only [ja, jb, jc, Act.put, jd, je, jf];refine wpAnyH_take (i := 18) (v := .agg #[.int .u8 (nd.k : Int), .int .i64 nd.n, .string nd.name, .slice an2 nd.names.length cn2, .slice ak2 nd.kids.length ck2, .int .i64 nd.line]) rfl (by kernel_rfl) (by kernel_rfl) (by kernel_rfl) (fun _ _ _ h => h) (.inl ⟨by rfl, fun w hs => ?_⟩) hS ?_
    ·obtain ⟨s1, s2⟩ := hs;have x0 := cell_of s1 0 _ rfl;have x1 := cell_of s1 1 _ rfl;have x2 := cell_of s1 2 _ rfl;have x3 := cell_of s1 3 _ rfl;have x4 := cell_of s1 4 _ rfl;have x5 := cell_of s1 5 _ rfl;have y0 := cell_of s2 0 _ rfl;have y1 := cell_of s2 1 _ rfl;go_simp
    simp only [ja, jb, jc, Act.put, jd, je, jf];refine wpAnyH_ready (rs := [19]) (by kernel_rfl) (by simp) (AllReadyH.cons rfl (fun K hK => ?_) AllReadyH.nil);go_simp;refine (CFIT.out rfl _ (HSYN.out.below (HBr.out.trans (hbw7.mono HBr.out.size))) (HNV.out.below hbw7)).mono ?_;rintro e w8 ⟨rfl, b⟩;have hbw8 := hbw7.trans (b.mono hbw7.size);refine hK.out _ _ ⟨(b.block _ (lt_of_heap hS.1)).trans hS.1, (b.block _ (lt_of_heap hS.2)).trans hS.2⟩ (fun hS => ?_);clear hK b;refine wpAnyH_take (i := 20) (v := .bool false) rfl (by kernel_rfl) (by kernel_rfl) (by kernel_rfl) (fun _ _ _ h => h) (.inl ⟨by rfl, fun w hs => ?_⟩) hS ?_
    ·clear hs;go_simp
    simp only [ja, jb, jc, Act.put, jd, je, jf];refine wpAnyH_take (i := 21) (v := .bool false) rfl (by kernel_rfl) (by kernel_rfl) (by kernel_rfl) (fun _ _ _ h => h) (.inl ⟨by rfl, fun w hs => ?_⟩) hS ?_
    ·clear hs;go_simp
    simp only [ja, jb, jc, Act.put, jd, je, jf];refine wpAnyH_done (by kernel_rfl) (NoPanic.normal ?_) _;have hX1l := ((hbw8).block _ (lt_of_heap HXr1.out)).trans HXr1.out;have hX2l := ((hbw8).block _ hR2).trans HXr2.out;have hbl := HBr.out.trans ((hbw8).mono HBr.out.size);have H1 := qh hX1l;have H2 := qh hX2l;have H3 := qh hbl;clear hX1l hX2l hbl
    gi_wp2_with fail
    gi_roundg (N - (k + 1))
    case measure => omega
    case rel => exact ⟨k + 1, rfl, by go_num, by omega, H3.out, H1.out, H2.out, fun j hj => by
     rcases Nat.lt_or_ge j k with h1 | h1
     ·exact HROWS.out j h1
     ·obtain rfl : j = k := by omega
      rw [HNDQ.out, HROW.out, decide_eq_true (by omega)]
      rfl⟩
   ·obtain rfl : k = N := by omega
    have hlt' : ¬ (k : Int) < k := by omega
    have hright : (∀ x ∈ allV l (rt : Int), x.2 <= 100) -> (allV l (rt : Int)).length = l.length -> RightC (rowD nmD) l (rt : Int) := fun ha hb => ⟨by have := HN.out; omega, by
     rw [HRN.out];refine ⟨HRK.out.trans D4.out, D6.out, ?_⟩;have h1 := HNL.out;exact List.eq_nil_of_length_eq_zero (by omega), HT.out, HFOUND.out, fun i hi => by
     obtain ⟨h0, h1⟩ := hi;obtain ⟨j, rfl⟩ := Int.eq_ofNat_of_zero_le h0;exact HROWS.out j (by have := HN.out; omega), ha, hb⟩
    have HRIGHT := qh hright;have hR1 := lt_of_heap HXr1.out;obtain ⟨B, hB⟩ : ∃ B, wr.heap.size = B := ⟨_, rfl⟩;have hb5 : Below w.heap.size w ((wr.alloc (.cells #[.int .i64 0] 3)).alloc (.cells #[.slice (some ⟨g, off, none⟩) k c, .int .i64 (rt : Int)] 27)) := (HBr.out.alloc HBr.out.size _).alloc (by have := HBr.out.size; simp; omega) _;have hx15 : ((wr.alloc (.cells #[.int .i64 0] 3)).alloc (.cells #[.slice (some ⟨g, off, none⟩) k c, .int .i64 (rt : Int)] 27)).heap[w.heap.size]? = some (.cells #[.slice (some ⟨g, off, none⟩) k c, .int .i64 (rt : Int)] 27 (0, 0)) := (Below.heap_alloc _ _ _ (by simp; omega)).trans ((Below.heap_alloc wr _ _ hR1).trans HXr1.out);have hx25 : ((wr.alloc (.cells #[.int .i64 0] 3)).alloc (.cells #[.slice (some ⟨g, off, none⟩) k c, .int .i64 (rt : Int)] 27)).heap[w.heap.size + 1]? = some (.cells #[.bool false] 4 (0, 0)) := (Below.heap_alloc _ _ _ (by simp; omega)).trans ((Below.heap_alloc wr _ _ hR2).trans HXr2.out);have hq5 : ((wr.alloc (.cells #[.int .i64 0] 3)).alloc (.cells #[.slice (some ⟨g, off, none⟩) k c, .int .i64 (rt : Int)] 27)).heap[B]? = some (.cells #[.int .i64 0] 3 (0, 0)) := by
     rw [<- hB];exact (Below.heap_alloc _ _ _ (by simp)).trans (new_block wr _)
    have hy5 : ((wr.alloc (.cells #[.int .i64 0] 3)).alloc (.cells #[.slice (some ⟨g, off, none⟩) k c, .int .i64 (rt : Int)] 27)).heap[B + 1]? = some (.cells #[.slice (some ⟨g, off, none⟩) k c, .int .i64 (rt : Int)] 27 (0, 0)) := by
     rw [<- hB];have := new_block (wr.alloc (.cells #[.int .i64 0] 3)) (.cells #[.slice (some ⟨g, off, none⟩) k c, .int .i64 (rt : Int)] 27)
     rwa [World.size_alloc] at this
    have hB1 : w.heap.size + 1 < B := by omega
    have hxa := (Below.heap_alloc wr (.cells #[.int .i64 0] 3) _ hR1).trans HXr1.out
    skip
    have qs0 := cell_of hxa 0 (.slice (some ⟨g, off, none⟩) k c) rfl;have qs1 := cell_of hxa 1 (.int .i64 (rt : Int)) rfl;clear hxa;clear hright
    gi_wp2_with fail
    refine ⟨trivial, (callsIn_wide.2 (own_walk _ _ _ _ _)).mono ?_⟩;rintro e w6 ⟨rfl, rfl⟩
    gi_wp2_with fail
    obtain ⟨W5, hW5⟩ : ∃ W5, (wr.alloc (.cells #[.int .i64 0] 3)).alloc (.cells #[.slice (some ⟨g, off, none⟩) k c, .int .i64 (rt : Int)] 27) = W5 := ⟨_, rfl⟩;rw [hW5] at hb5 hx15 hx25 hq5 hy5 ⊢;have s5 : W5.heap.size = B + 2 := by rw [<- hW5, <- hB]; simp
    have HS5 := qh s5;have HB5 := qh hb5;have HB1 := qh hB1;have HTC := qh hb5;have hseq := walk_seq (B + 1) (some ⟨g, off, none⟩) c l (rt : Int) w W5 (by have := HN.out; rw [<- this]; exact HND.out) HT.out (by have := HN.out; omega) (by have := HN.out; rw [<- this]; exact hy5) hb5;have hI0 : W5.heap[B]? = some (.cells #[.int .i64 ((List.length (α := PV) [] : Nat) : Int)] 3 (0, 0)) /\ W5.heap[w.heap.size + 1]? = some (.cells #[.bool false] 4 (0, 0)) /\ W5.heap[w.heap.size]? = some (.cells #[.slice (some ⟨g, off, none⟩) k c, .int .i64 (rt : Int)] 27 (0, 0)) /\ Below w.heap.size w W5 /\ LowR ([] : List PV) := ⟨hq5, hx25, hx15, hb5, fun x hx => by cases hx⟩;have HI0 := qh hI0;clear hI0 hy5 hq5 hx15 hx25 hb5 hB1 hW5 s5 HBr HXr1 HXr2 hR2 hR1;refine range_law (w0 := W5) (by decide) (gf := 69) (lb := #[.pointer (some ⟨B + 1, 0, none⟩)]) (by first | rfl | (simp [hB]; done)) (enters_of Tryz.func69 (by kernel_rfl) rfl)
     hseq (Below.refl _ _) (fun _ => rfl) (pc := pcR (w.heap.size + 1) (B + 1)) (fun g o h => pcR_cells h) ?hpb
     (fun pre Wb => Wb.heap[B]? = some (.cells #[.int .i64 ((pre.length : Nat) : Int)] 3 (0, 0)) /\ Wb.heap[w.heap.size + 1]? = some (.cells #[.bool false] 4 (0, 0)) /\ Wb.heap[w.heap.size]? = some (.cells #[.slice (some ⟨g, off, none⟩) k c, .int .i64 (rt : Int)] 27 (0, 0)) /\ Below w.heap.size w Wb /\ LowR pre)
     (fun pre Wb => Wb.heap[w.heap.size + 1]? = some (.cells #[.bool false] 4 (0, 0)) /\ Below w.heap.size w Wb /\ HighR pre) ?hI ?hIx HI0.out ?a₁ ?assign ?body ?done ?stop
    case assign =>
     intro l y Wb K hK
     gi_wp2
     exact hK
    case hpb =>
     intro g' o h;rw [Bool.or_eq_true] at h;have h5 := HS5.out;have h6 := HB1.out;rcases h with h | h
     ·exact pcR_pb h (by omega)
     ·unfold own at h;simp only [Bool.and_eq_true, decide_eq_true_iff, Bool.not_eq_true'] at h;exact pbW_own h.1.1 (by omega) (by omega) (by omega)
    case hI =>
     rintro s A C ⟨h1, h2, h3, h4, h5⟩ hT;have h6 := HS5.out;have h7 := HB1.out;exact ⟨hT.same _ _ h1 (turn_no (by omega)), hT.same _ _ h2 (turn_no (by omega)), hT.same _ _ h3 (turn_no (by omega)), h4.trans (hT.below (fun g o h => by have := turn_ge h; omega) h4.size), h5⟩
    case hIx =>
     rintro s A C ⟨h2, h4, h5⟩ hT;have h6 := HS5.out;have h7 := HB1.out;exact ⟨hT.same _ _ h2 (turn_no (by omega)), h4.trans (hT.below (fun g o h => by have := turn_ge h; omega) h4.size), h5⟩
    case stop =>
     rintro D pre Wb hD ⟨m, hpre, hlen⟩ ⟨h2, h4, x, hx, hx2⟩ hK;have hdeep : ¬ RightC (rowD nmD) l (rt : Int) := fun H => by
      have h1 := H.deep x (lev_allV HT.out ((Inv.upto HT.out m).lev x (List.mem_append_left _ (by rw [<- hpre]; exact hx))).1);omega
     have HDEEP := qh hdeep;clear hdeep
     gi_wp2_with fail
     refine leaves_marks (B := W5.heap.size) [_] Wb ⟨⟨D, rfl, hD, hK, fun e he => by cases he⟩, trivial⟩ fun w' hw' => ?_
     have h6 := HS5.out;have h7 := HB1.out;exact HNO.out HDEEP.out w' (h4.trans (hw'.below (fun g o h => by have := turn_ge h; omega) h4.size)) (hw'.same _ _ h2 turn_nil) _ rfl
    case done =>
     rintro D ys Wb hD ⟨m, hys, hend⟩ ⟨h1, h2, h3, h4, h5⟩ hK;have hys2 : ys = allV l (rt : Int) := hys.trans (allV_of HT.out hend);obtain ⟨cnt, hcnt⟩ : ∃ cnt, ys.length = cnt := ⟨_, rfl⟩;rw [hcnt] at h1;rw [hys2] at hcnt h5;have qb := cell_of h1 0 (.int .i64 (cnt : Int)) rfl;have qs := cell_of h3 0 (.slice (some ⟨g, off, none⟩) k c) rfl;have qr := cell_of h2 0 (.bool false) rfl;have qf := free_of h2 0;have hfinal : ∀ b : Bool, (b = true ↔ cnt = k) -> ∀ w', Below w.heap.size w w' -> w'.heap[w.heap.size + 1]? = some (.cells #[.bool b] 4 (0, 0)) -> ∀ tmps : Array Value, tmps[2]?.getD undef = .pointer (some ⟨w.heap.size + 1, 0, none⟩) -> LeavesInM Fence.wide 8 Tryz.prog Tryz.f12 tmps (SaysR w l (rt : Int)) [] .returning w' := fun b hb w' hbw hx tmps ht =>
      leave_right (g := w.heap.size + 1) (b := b) ht (cell_of hx 0 _ rfl) ⟨b, rfl, ⟨fun e => HRIGHT.out h5 (by rw [hcnt, <- HN.out]; exact hb.1 e), fun H => hb.2 (by have h8 := H.all; rw [hcnt, <- HN.out] at h8; exact h8)⟩, hbw⟩
     have hset : ∀ b : Bool, Below w.heap.size w (Wb.setCell ⟨w.heap.size + 1, 0, none⟩ (.bool b)) /\ (Wb.setCell ⟨w.heap.size + 1, 0, none⟩ (.bool b)).heap[w.heap.size + 1]? = some (.cells #[.bool b] 4 (0, 0)) /\ (Wb.setCell ⟨w.heap.size + 1, 0, none⟩ (.bool b)).heap[D]? = some (.deferred (some [])) := fun b =>
      ⟨h4.setCell (p := ⟨w.heap.size + 1, 0, none⟩) (by show w.heap.size <= w.heap.size + 1; omega) _, Joins.block_setCell (i := 0) h2 _, (Below.heap_setCell _ _ _ _ (by have := HS5.out; have := HB1.out; dsimp only; omega)).trans hK⟩
     have HFINAL := qh hfinal;have HSET := qh hset;clear hfinal hset h1 h2 h3 h4 h5 hK hys hys2 hend;by_cases hck : (cnt : Int) = (k : Int)
     ·have hck2 : ((cnt : Int) == (k : Int)) = true := by rw [beq_iff_eq]; exact hck
      have HCK := qh hck;clear hck
      gi_wp2_with fail
      refine leaves_marks (B := W5.heap.size) [_] _ ⟨⟨D, rfl, hD, (HSET.out true).2.2, fun e he => by cases he⟩, trivial⟩ fun w' hw' => ?_
      have h6 := HS5.out;have h7 := HB1.out;exact HFINAL.out true ⟨fun _ => by have := HCK.out; omega, fun _ => rfl⟩ w' ((HSET.out true).1.trans (hw'.below (fun g o h => by have := turn_ge h; omega) (HSET.out true).1.size)) (hw'.same _ _ (HSET.out true).2.1 turn_nil) _ rfl
     ·have hck2 : ((cnt : Int) == (k : Int)) = false := by rw [beq_eq_false_iff_ne]; exact hck
      have HCK := qh hck;clear hck
      gi_wp2_with fail
      refine leaves_marks (B := W5.heap.size) [_] _ ⟨⟨D, rfl, hD, (HSET.out false).2.2, fun e he => by cases he⟩, trivial⟩ fun w' hw' => ?_
      have h6 := HS5.out;have h7 := HB1.out;exact HFINAL.out false ⟨fun h => (by cases h), fun h => by have := HCK.out; omega⟩ w' ((HSET.out false).1.trans (hw'.below (fun g o h => by have := turn_ge h; omega) (HSET.out false).1.size)) (hw'.same _ _ (HSET.out false).2.1 turn_nil) _ rfl
    case body =>
     rintro lr pre ⟨i, v⟩ Wb ⟨h1, h2, h3, h4, h5⟩ ⟨m, hm, hlen⟩;have hfew : pre.length + 1 <= 1000000 := by
      have h8 := (Inv.upto HT.out m).few HT.out;rw [<- hm, List.length_append, List.length_singleton] at h8;have := HN.out;omega
     obtain ⟨q, hq⟩ : ∃ q, pre.length = q := ⟨_, rfl⟩;rw [hq] at h1 hfew;have qb := cell_of h1 0 (.int .i64 (q : Int)) rfl;have qbf := free_of h1 0;have qr := cell_of h2 0 (.bool false) rfl;have qf := free_of h2 0;have h6 := HS5.out;have h7 := HB1.out;have stop : 100 < v -> Tame (pcR (w.heap.size + 1) (B + 1)) Wb (Wb.setCell ⟨w.heap.size + 1, 0, none⟩ (.bool false)) /\ (Wb.setCell ⟨w.heap.size + 1, 0, none⟩ (.bool false)).heap[w.heap.size + 1]? = some (.cells #[.bool false] 4 (0, 0)) /\ Below w.heap.size w (Wb.setCell ⟨w.heap.size + 1, 0, none⟩ (.bool false)) /\ HighR (pre ++ [(i, v)]) := fun h =>
      ⟨Tame.setCell _ _ _ h2 (pcR_yes (Nat.le_refl _) (by show w.heap.size + 1 ≠ B + 1; omega) (by decide)), Joins.block_setCell (i := 0) h2 _, h4.setCell (p := ⟨w.heap.size + 1, 0, none⟩) (by show w.heap.size <= w.heap.size + 1; omega) _, (i, v), by simp, h⟩
     have goes : ¬ 100 < v -> Tame (pcR (w.heap.size + 1) (B + 1)) Wb (Wb.setCell ⟨B, 0, none⟩ (.int .i64 ((q : Int) + 1))) /\ (Wb.setCell ⟨B, 0, none⟩ (.int .i64 ((q : Int) + 1))).heap[B]? = some (.cells #[.int .i64 (((pre ++ [(i, v)]).length : Nat) : Int)] 3 (0, 0)) /\ (Wb.setCell ⟨B, 0, none⟩ (.int .i64 ((q : Int) + 1))).heap[w.heap.size + 1]? = some (.cells #[.bool false] 4 (0, 0)) /\ (Wb.setCell ⟨B, 0, none⟩ (.int .i64 ((q : Int) + 1))).heap[w.heap.size]? = some (.cells #[.slice (some ⟨g, off, none⟩) k c, .int .i64 (rt : Int)] 27 (0, 0)) /\ Below w.heap.size w (Wb.setCell ⟨B, 0, none⟩ (.int .i64 ((q : Int) + 1))) /\ LowR (pre ++ [(i, v)]) := fun h =>
      ⟨Tame.setCell _ _ _ h1 (pcR_yes (by show w.heap.size + 1 <= B; omega) (by show B ≠ B + 1; omega) (by decide)), by
       rw [List.length_append, hq, List.length_singleton];exact Joins.block_setCell (i := 0) h1 _, (Below.heap_setCell _ _ _ _ (by dsimp only; omega)).trans h2, (Below.heap_setCell _ _ _ _ (by dsimp only; omega)).trans h3, h4.setCell (p := ⟨B, 0, none⟩) (by show w.heap.size <= B; omega) _, fun x hx => by
       rcases List.mem_append.1 hx with hx | hx
       ·exact h5 x hx
       ·rw [List.mem_singleton] at hx;rw [hx]
        dsimp only
        omega⟩
     have STOP := qh stop;have GOES := qh goes;have hq1 : IntKind.i64.wrap ((q : Int) + 1) = (q : Int) + 1 := IntWalk.i64_in _ (by omega);have hq2 : wrap64 ((q : Int) + 1) = (q : Int) + 1 := Num.wrap64_of_in ⟨by omega, by omega⟩;clear stop goes h1 h2 h3 h4 h5 h6 h7 hm hlen hfew;by_cases hv : 100 < v
     ·have hvi : (100 : Int) < (v : Int) := by omega
      gi_wp2_with fail
      exact STOP.out hv
     ·have hvi : ¬ (100 : Int) < (v : Int) := by omega
      gi_wp2_with fail
      exact GOES.out hv
end Go.Proofs.YtnkejjlidgnkkaaGreatDoor.Nd
