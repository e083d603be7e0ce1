/-
  A part of the proof.
-/
import Derived.Lib.Hide
import Derived.Test.YtnkejjlidgnkkaaGreatDoorClRS
set_option maxRecDepth 100000
set_option maxHeartbeats 40000000
namespace Go.Proofs.YtnkejjlidgnkkaaGreatDoor.Ps

open Go.Lib renaming hid → qh
open Go.Proofs.YtnkejjlidgnkkaaGreatDoor.Nd
open Go.Proofs.YtnkejjlidgnkkaaGreatDoor.Lex (Tok tokensL)
section
variable {T : List Tok} {nm : ByteArray -> Bool} {d : Fns} {H : Nat}
def pI (k : Nat) (_ : Int) : Prop := Nd.isB [36, 37] k = true
theorem sat_named (hT : TOk nm T) (hd : DOk T nm d H) {s s0 : St} {S : List (Int × Nat)} {k line : Int} {h : Nat} (h1 : h + 1 = H) (hJ : J T nm s (S ++ [(k, h)])) (he : Ext s0.l s.l) (hlt : s0.at' < s.at') (hk : Has s.l k pE) (hl : 1 <= line) :
  Sat (expect T wEq >>= fun _ => d.expr 0 >>= fun v => add T ⟨37, 0, ⟨#[]⟩, [], [k, v], line⟩) s (One T nm S (H + 1) s0 pI) := by
 refine Sat.bind (sat_expect hT hJ.here fun hm => ?_);have hJ' := hJ.fwd hT (mark_no hm (by decide));refine Sat.bind ((hd.expr 0 _ _ hJ').mono fun v s' ⟨⟨h', a1, a2, a3, a4, a5⟩, _⟩ => ?_);have : s.at' + 1 < s'.at' := a4;have a3' : Ext s.l s'.l := a3;refine sat_add hT (K := [(k, h), (v, h')]) (h := H) a2.assoc rfl (hts2 (show h + up 37 0 <= H from by have := up1 37 0; omega) (show h' + up 37 1 <= H from by have := up1 37 1; omega)) (row_named hl (hk.ext a3').2 a5.2.1) fun i s2 j1 j2 j3 j4 j5 => ⟨H, rfl, j1, (he.trans a3').trans j3, by omega, j4, by rw [j5]; rfl⟩
theorem sat_item (hT : TOk nm T) (hd : DOk T nm d H) {s : St} {S : List (Int × Nat)} (hJ : J T nm s S) : Sat (itemM T d) s (One T nm S (H + 1) s pI) := by
 unfold itemM;refine Sat.bind (sat_line (Sat.bind (sat_tok (Sat.bind (sat_accept (fun hm => ?_) (fun hm => ?_))))))
 ·have hJ' := hJ.fwd hT (mark_no hm (by decide))
  show Sat (d.expr 0 >>= fun k => expect T wShutB >>= fun _ => expect T wEq >>= fun _ => d.expr 0 >>= fun v => add T ⟨37, 0, ⟨#[]⟩, [], [k, v], ((tk T s).line : Nat)⟩) (fwd s) _;refine Sat.bind ((hd.expr 0 _ S hJ').mono fun k s' ⟨⟨h, a1, a2, a3, a4, a5⟩, _⟩ => Sat.bind (sat_expect hT a2.here fun hm2 => ?_));have hJ2 := a2.fwd hT (mark_no hm2 (by decide));have : s.at' + 1 < s'.at' := a4;exact sat_named hT hd a1 hJ2 a3 (by show s.at' < s'.at' + 1; omega) (a5.mono fun _ _ e => e.1) (int_line hT hJ.here)
 ·show Sat ((fun s => R.ok (T.getD (s.at' + 1) ⟨6, ⟨#[]⟩, 0, 0⟩) s : M Tok) >>= fun t1 => (fun s => R.ok (T.getD (s.at' + 1) ⟨6, ⟨#[]⟩, 0, 0⟩) s : M Tok) >>= fun t2 => if (tk T s).k = 1 /\ t1.k = 3 /\ t2.s = wEq then _ else _) s _;refine Sat.bind (Sat.bind ?_)
  show Sat (if (tk T s).k = 1 /\ _ then _ else _) s _
  split
  ·exact Sat.bind ((sat_key hT hd.beg hJ (H - 1)).mono fun k s' ⟨h1, a1, a2, a3, a4⟩ => sat_named hT hd (by omega) a1 a2 a3 a4 (int_line hT hJ.here))
  ·refine Sat.bind ((hd.expr 0 _ S hJ).mono fun v s' ⟨⟨h, a1, a2, a3, a4, a5⟩, _⟩ => ?_);refine sat_add hT (K := [(v, h)]) (h := H) a2 rfl (hts1 (show h + up 36 0 <= H from by have := up1 36 0; omega)) (row_item (int_line hT hJ.here) a5.2.1) fun i s2 j1 j2 j3 j4 j5 => ⟨H, rfl, j1, a3.trans j3, by omega, j4, by rw [j5]; rfl⟩
theorem map_snoc (ks : List Int) (k : Int) (h : Nat) (S : List (Int × Nat)) : S ++ (ks.map fun i => (i, h)) ++ [(k, h)] = S ++ (ks ++ [k]).map fun i => (i, h) := by
 rw [List.map_append, List.append_assoc]; rfl
theorem all_snoc {l m : List Nd} {ks : List Int} {k : Int} {p : Nat -> Int -> Prop} (h : ∀ i ∈ ks, Has l i p) (e : Ext l m) (h1 : Has m k p) : ∀ i ∈ ks ++ [k], Has m i p := by
 intro i hi;rcases List.mem_append.1 hi with h2 | h2
 ·exact (h i h2).ext e
 ·rw [List.mem_singleton.1 h2]; exact h1
theorem sat_tableGo (hT : TOk nm T) (hd : DOk T nm d H) : ∀ (f : Nat) (s s0 : St) (S : List (Int × Nat)) (ks : List Int), J T nm s (S ++ ks.map fun i => (i, H)) -> (∀ i ∈ ks, Has s.l i pI) -> Ext s0.l s.l -> s0.at' <= s.at' -> T.length < f + s.at' ->
  Sat (tableGo T d f ks) s fun ks' s' => J T nm s' (S ++ ks'.map fun i => (i, H)) /\ (∀ i ∈ ks', Has s'.l i pI) /\ Ext s0.l s'.l /\ s0.at' <= s'.at'
 | 0, s, s0, S, ks, hJ, h2, he, hlt, hf => by have := hJ.here; omega
 | f + 1, s, s0, S, ks, hJ, h2, he, hlt, hf => by
  unfold tableGo;refine Sat.bind (sat_mark ?_);by_cases h1 : markOf (tk T s) = wShutC
  ·rw [if_pos h1];exact Sat.pure ⟨hJ, h2, he, hlt⟩
  ·rw [if_neg h1];refine Sat.bind ((sat_item hT hd hJ).mono fun k s' ⟨h, a1, a2, a3, a4, a5⟩ => ?_);have e : h = H := by omega
   rw [e, map_snoc] at a2;have h3 := all_snoc h2 a3 a5;refine Sat.bind (sat_accept (fun hm => ?_) (fun hm => ?_))
   ·exact sat_tableGo hT hd f _ s0 S (ks ++ [k]) (a2.fwd hT (mark_no hm (by decide))) h3 (he.trans a3) (by show s0.at' <= s'.at' + 1; omega) (by show T.length < f + (s'.at' + 1); omega)
   ·show Sat (accept T wSemi >>= fun b => if b = true then tableGo T d f (ks ++ [k]) else Pure.pure (ks ++ [k])) s' _;refine Sat.bind (sat_accept (fun hm2 => ?_) (fun hm2 => ?_))
    ·exact sat_tableGo hT hd f _ s0 S (ks ++ [k]) (a2.fwd hT (mark_no hm2 (by decide))) h3 (he.trans a3) (by show s0.at' <= s'.at' + 1; omega) (by show T.length < f + (s'.at' + 1); omega)
    ·exact Sat.pure ⟨a2, h3, he.trans a3, by omega⟩
theorem heights {ks : List Int} {H k : Nat} (h0 : ∀ p, up k p = 0) : ∀ (p : Nat) (x : Int × Nat), (ks.map fun i => (i, H))[p]? = some x -> x.2 + up k p <= H := by
 intro p x hx;obtain ⟨i, hi, rfl⟩ := List.mem_map.1 (List.mem_of_getElem? hx);rw [h0];exact Nat.le_refl _
theorem map_fst (ks : List Int) (h : Nat) : ks = (ks.map fun i => (i, h)).map (·.1) := by rw [List.map_map]; simp [Function.comp_def]
theorem sat_table (hT : TOk nm T) (hd : DOk T nm d H) {s : St} {S : List (Int × Nat)} (hJ : J T nm s S) : Sat (tableM T d) s (One T nm S (H + 1) s fun k _ => k = 35) := by
 unfold tableM;refine Sat.bind (sat_line (Sat.bind (sat_expect hT hJ.here fun hm => ?_)));have hJ' := hJ.fwd hT (mark_no hm (by decide));refine Sat.bind ((sat_tableGo hT hd _ _ (fwd s) S [] (by simpa using hJ') (fun i h => by cases h) (Ext.refl _) (Nat.le_refl _) (by omega)).mono fun ks s' ⟨a1, a2, a3, a4⟩ => Sat.bind (sat_expect hT a1.here fun hm2 => ?_));have hJ2 := a1.fwd hT (mark_no hm2 (by decide));have : s.at' + 1 <= s'.at' := a4;refine sat_add hT (K := ks.map fun i => (i, H)) (h := H) hJ2 (map_fst ks H) (heights (k := 35) fun p => by unfold up; rw [if_pos (.inr (.inl rfl))]) (row_tab (int_line hT hJ.here) (kinds_all a2)) fun i s2 j1 j2 j3 j4 j5 => ⟨H, rfl, j1, a3.trans j3, ?_, j4, by rw [j5]⟩
 rw [j2]; show s.at' < s'.at' + 1; omega
theorem sat_paramsGo (hT : TOk nm T) : ∀ (f : Nat) (s s0 : St) (S : List (Int × Nat)) (ns : List ByteArray), J T nm s S -> s.l = s0.l -> s0.at' <= s.at' -> ns.length <= 200 -> ns.all nm = true -> T.length < f + s.at' ->
  Sat (paramsGo T f ns) s fun r s' => J T nm s' S /\ s'.l = s0.l /\ s0.at' <= s'.at' /\ r.1.length <= 200 /\ r.1.all nm = true /\ r.2 <= 1
 | 0, s, s0, S, ns, hJ, he, hlt, hl, hn, hf => by have := hJ.here; omega
 | f + 1, s, s0, S, ns, hJ, he, hlt, hl, hn, hf => by
  unfold paramsGo;refine Sat.bind (sat_accept (fun hm => ?_) (fun hm => ?_))
  ·exact Sat.pure ⟨hJ.fwd hT (mark_no hm (by decide)), he, by show s0.at' <= s.at' + 1; omega, hl, hn, Nat.le_refl _⟩
  ·show Sat (oneMore T ns >>= fun ns' => accept T wComma >>= fun b => if b = true then paramsGo T f ns' else Pure.pure (ns', 0)) s _;refine Sat.bind (sat_oneMore hT hJ.here hl hn fun ns' e1 e2 e3 hk => ?_);have hJ' := hJ.fwd hT (by omega);refine Sat.bind (sat_accept (fun hm2 => ?_) (fun hm2 => ?_))
   ·exact sat_paramsGo hT f _ s0 S ns' (hJ'.fwd hT (mark_no hm2 (by decide))) he (by show s0.at' <= s.at' + 1 + 1; omega) e2 e3 (by show T.length < f + (s.at' + 1 + 1); omega)
   ·exact Sat.pure ⟨hJ', he, by show s0.at' <= s.at' + 1; omega, e2, e3, Nat.zero_le _⟩
theorem sat_params (hT : TOk nm T) {s : St} {S : List (Int × Nat)} {ns : List ByteArray} (hJ : J T nm s S) (hl : ns.length <= 200) (hn : ns.all nm = true) :
  Sat (params T ns) s fun r s' => J T nm s' S /\ s'.l = s.l /\ s.at' < s'.at' /\ r.1.length <= 200 /\ r.1.all nm = true /\ r.2 <= 1 := by
 unfold params;refine Sat.bind (sat_expect hT hJ.here fun hm => ?_);have hJ' := hJ.fwd hT (mark_no hm (by decide));have fin : ∀ (r : List ByteArray × Nat) (s' : St), J T nm s' S -> s'.l = s.l -> s.at' + 1 <= s'.at' -> r.1.length <= 200 -> r.1.all nm = true -> r.2 <= 1 -> Sat (expect T wShut >>= fun _ => Pure.pure r) s' fun r s' => J T nm s' S /\ s'.l = s.l /\ s.at' < s'.at' /\ r.1.length <= 200 /\ r.1.all nm = true /\ r.2 <= 1 :=
  fun r s' a1 a2 a3 a4 a5 a6 => Sat.bind (sat_expect hT a1.here fun hm2 => Sat.pure ⟨a1.fwd hT (mark_no hm2 (by decide)), a2, by show s.at' < s'.at' + 1; omega, a4, a5, a6⟩)
 refine Sat.bind (Sat.bind (sat_mark ?_));by_cases h1 : markOf (tk T (fwd s)) = wShut
 ·rw [if_pos h1];exact Sat.pure (fin (ns, 0) _ hJ' rfl (Nat.le_refl _) hl hn (Nat.zero_le _))
 ·rw [if_neg h1];exact (sat_paramsGo hT _ _ (fwd s) S ns hJ' rfl (Nat.le_refl _) hl hn (by omega)).mono fun r s' ⟨a1, a2, a3, a4, a5, a6⟩ => fin r s' a1 a2 a3 a4 a5 a6
theorem sat_body (hT : TOk nm T) (hd : DOk T nm d H) {s : St} {S : List (Int × Nat)} {ns : List ByteArray} {line : Nat} (hJ : J T nm s S) (h0 : 1 <= line) (hl : ns.length <= 200) (hn : ns.all nm = true) :
  Sat (bodyM T d ns line) s (One T nm S (H + 1) s fun k _ => k = 26) := by
 unfold bodyM;refine Sat.bind ((sat_params hT hJ hl hn).mono fun r s1 ⟨a1, a2, a3, a4, a5, a6⟩ => Sat.bind ((hd.block s1 S a1).mono fun b s2 ⟨h, b1, b2, b3, b4, b5⟩ => Sat.bind (sat_expect hT b2.here fun hm => ?_)));have hJ2 := b2.fwd hT (mark_no hm (by decide));have hb := b5.2;refine sat_add hT (K := [(b, h)]) (h := H) hJ2 rfl (hts1 (show h + up 26 0 <= H from by have := up1 26 0; omega)) ?_ fun i s3 j1 j2 j3 j4 j5 => ⟨H, rfl, j1, ?_, ?_, j4, by rw [j5]⟩
 ·show rowD nm ⟨26, (r.2 : Int), ⟨#[]⟩, r.1, [], (line : Int)⟩ [((Nd.at' s2.l b).k, (Nd.at' s2.l b).n)] = true;rw [hb];exact row_func (by omega) a6 a4 a5
 ·rw [<- a2]; exact Ext.trans b3 j3
 ·rw [j2]; show s.at' < s2.at' + 1; omega
theorem sat_operand (hT : TOk nm T) (hd : DOk T nm d H) {s : St} {S : List (Int × Nat)} (hJ : J T nm s S) (hs : startsE (tk T s) = true) : Sat (operandM T d) s (One T nm S (H + 1) s pO) := by
 have hk6 := starts_kE hs;unfold operandM;refine Sat.bind (sat_tok ?_);by_cases h1 : unOf (markOf (tk T s)) ≠ 0
 ·rw [if_pos h1];refine Sat.bind (sat_next (Sat.bind ((hd.expr 11 _ S (hJ.fwd hT hk6)).mono fun kid s' ⟨⟨h, a1, a2, a3, a4, a5⟩, _⟩ => ?_)));have : s.at' + 1 < s'.at' := a4;refine sat_add hT (K := [(kid, h)]) (h := H) a2 rfl (hts1 (show h + up 34 0 <= H from by have := up1 34 0; omega)) (row_un h1 (int_line hT hJ.here) a5.2) fun i s2 j1 j2 j3 j4 j5 => ⟨H, rfl, j1, Ext.trans a3 j3, by omega, j4, ?_⟩
  rw [j5];exact ⟨rfl, by show 34 ≠ 31; decide, by show 34 ≠ 32; decide, by show 34 ≠ 33; decide⟩
 ·rw [if_neg h1];by_cases h2 : (tk T s).k = 1 \/ markOf (tk T s) = wOpen
  ·rw [if_pos h2];exact (sat_pre hT hd hJ).mono fun i s' h => h.mono fun _ _ e => pref_pO e
  ·rw [if_neg h2];by_cases h3 : markOf (tk T s) = wOpenC
   ·rw [if_pos h3];exact (sat_table hT hd hJ).mono fun i s' h => h.mono fun _ _ e => by subst e; exact ⟨rfl, by decide, by decide, by decide⟩
   ·rw [if_neg h3];by_cases h4 : markOf (tk T s) = wFunction
    ·rw [if_pos h4];exact Sat.bind (sat_next ((sat_body hT hd (hJ.fwd hT hk6) (line_pos hT hJ.here) (by decide) rfl).mono fun i s' h => (h.mono fun _ _ e => by subst e; exact ⟨rfl, by decide, by decide, by decide⟩).from (Ext.refl _) (Nat.le_succ _)))
    ·rw [if_neg h4];have hlit : rowD nm (bare (literal (tk T s))) [] = true /\ (literal (tk T s)).kids = [] /\ pO (literal (tk T s)).k (literal (tk T s)).n := by
      have hl := int_line hT hJ.here;unfold literal;by_cases e4 : (tk T s).k = 4
      ·rw [if_pos e4]; exact ⟨row_int hl, rfl, (show pO 23 _ from ⟨rfl, by decide, by decide, by decide⟩)⟩
      ·rw [if_neg e4];by_cases e5 : (tk T s).k = 5
       ·rw [if_pos e5]; exact ⟨row_str hl (hT.str _ hJ.here), rfl, (show pO 24 _ from ⟨rfl, by decide, by decide, by decide⟩)⟩
       ·rw [if_neg e5];have hm : (tk T s).s = markOf (tk T s) := by
         by_cases hx : markOf (tk T s) = ⟨#[]⟩
         ·exfalso
          unfold startsE at hs;have n1 : ∀ {m : ByteArray}, m.size ≠ 0 -> decide ((⟨#[]⟩ : ByteArray) = m) = false := fun hm => decide_eq_false fun h => hm (by rw [<- h]; rfl)
          rw [hx, un_none, n1 (by decide), n1 (by decide), n1 (by decide), n1 (by decide), n1 (by decide), n1 (by decide), n1 (by decide)] at hs;simp [e4, e5] at hs;exact h2 (.inl hs)
         ·have := mark_k hx;unfold markOf;rw [if_pos this]
        rw [hm];have hw : markOf (tk T s) = wNil \/ markOf (tk T s) = wTrue \/ markOf (tk T s) = wFalse \/ markOf (tk T s) = wDots := by
         unfold startsE at hs;simp only [Bool.or_eq_true, decide_eq_true_iff, beq_iff_eq, bne_iff_ne] at hs;rcases hs with (((((((((h | h) | h) | h) | h) | h) | h) | h) | h) | h) | h
         ·exact absurd (.inl h) h2
         ·exact absurd h e4
         ·exact absurd h e5
         ·exact .inl h
         ·exact .inr (.inl h)
         ·exact .inr (.inr (.inl h))
         ·exact .inr (.inr (.inr h))
         ·exact absurd h h3
         ·exact absurd h h4
         ·exact absurd (.inr h) h2
         ·exact absurd h h1
        rcases hw with h | h | h | h <;> rw [h]
        ·exact ⟨row_word (.inl rfl) hl, rfl, (show pO 20 _ from ⟨rfl, by decide, by decide, by decide⟩)⟩
        ·exact ⟨row_word (.inr (.inl rfl)) hl, rfl, (show pO 21 _ from ⟨rfl, by decide, by decide, by decide⟩)⟩
        ·exact ⟨row_word (.inr (.inr (.inl rfl))) hl, rfl, (show pO 22 _ from ⟨rfl, by decide, by decide, by decide⟩)⟩
        ·exact ⟨row_word (.inr (.inr (.inr (.inl rfl)))) hl, rfl, (show pO 25 _ from ⟨rfl, by decide, by decide, by decide⟩)⟩
     refine Sat.bind (sat_next (sat_leaf hT (nd := literal (tk T s)) (H := H) (hJ.fwd hT hk6) hlit.2.1 hlit.1 fun i s' j1 j2 j3 j4 j5 => ⟨H, rfl, j1, j3, ?_, j4, by rw [j5]; exact hlit.2.2⟩));rw [j2]; exact Nat.lt_succ_self _
theorem sat_startExpr (hT : TOk nm T) {s : St} (hh : s.at' < T.length) {Q : Unit -> St -> Prop} (h : startsE (tk T s) = true -> Q () s) : Sat (startExpr T) s Q := by
 unfold Sat startExpr;by_cases h1 : startsE (tk T s) = true
 ·rw [if_pos h1]; exact h h1
 ·rw [if_neg h1]; exact ⟨.inr rfl, line_pos hT hh⟩
def LeftOk (T : List Tok) (s : St) (left : Int) : Prop := (operOf (markOf (tk T s))).binds <= bindD (Nd.at' s.l left).k (Nd.at' s.l left).n /\ ((operOf (markOf (tk T s))).op = 11 -> (operOf (markOf (tk T s))).binds < bindD (Nd.at' s.l left).k (Nd.at' s.l left).n)
theorem binds_le (m : ByteArray) : (operOf m).binds <= 10 := by
 by_cases h : 0 < (operOf m).binds
 ·exact (oper_ok h).most
 ·omega
theorem sat_exprGo (hT : TOk nm T) (hd : DOk T nm d H) (b : Nat) : ∀ (f : Nat) (s s0 : St) (S : List (Int × Nat)) (left : Int), J T nm s (S ++ [(left, H)]) -> Has s.l left (pB b) -> LeftOk T s left -> Ext s0.l s.l -> s0.at' < s.at' -> T.length < f + s.at' ->
  Sat (exprGo T d b f left) s fun i s' => One T nm S (H + 1) s0 (pB b) i s' /\ (operOf (markOf (tk T s'))).binds <= b
 | 0, s, s0, S, left, hJ, h2, hL, he, hlt, hf => by have := hJ.here; omega
 | f + 1, s, s0, S, left, hJ, h2, hL, he, hlt, hf => by
  unfold exprGo;refine Sat.bind (sat_mark ?_);obtain ⟨o, ho⟩ : ∃ o, operOf (markOf (tk T s)) = o := ⟨_, rfl⟩;unfold LeftOk at hL
  show Sat (if (operOf (markOf (tk T s))).binds > b then _ else _) s _;rw [ho] at hL ⊢;by_cases h1 : o.binds > b
  ·rw [if_pos h1];have ok : OpOk o := by rw [<- ho]; exact oper_ok (by rw [ho]; omega)
   have hk : (tk T s).k ≠ 6 := by
    intro e;have hm : markOf (tk T s) = ⟨#[]⟩ := by unfold markOf; rw [if_neg (by omega)]
    rw [hm, oper_none] at ho;rw [<- ho] at h1;exact absurd h1 (Nat.not_lt_zero _)
   have hb10 : (if o.op = 11 then o.binds - 1 else o.binds) <= o.binds := by split <;> omega
   have hm10 := ok.most;refine Sat.bind (sat_next (Sat.bind ((hd.expr (if o.op = 11 then o.binds - 1 else o.binds) _ _ (hJ.fwd hT hk)).mono fun right s1 ⟨⟨h, a1, a2, a3, a4, a5⟩, a6⟩ => Sat.bind (sat_lineAt (Sat.bind ?_)))));have a3' : Ext s.l s1.l := a3;have h2' := h2.ext a3';have hlt1 : s.at' + 1 < s1.at' := a4;have hB : ∀ x ≤ 10, min (x + 1) 11 = x + 1 := fun x hx => by omega
   have hr2 := a5.2.2;rw [hB _ (by omega)] at hr2;rw [<- a3'.at h2.1] at hL;refine sat_add hT (K := [(left, H), (right, h)]) (h := H) a2.assoc rfl (hts2 (show H + up o.kind 0 <= H from by rcases ok.kind with e | e | e <;> rw [e] <;> exact Nat.le_refl _) (show h + up o.kind 1 <= H from by have := up1 o.kind 1; omega)) (row_bin ok (line_of a2 h2'.1) h2'.2.1 a5.2.1 hL (by omega)) fun i s2 j1 j2 j3 j4 j5 => ?_
   refine sat_exprGo hT hd b f s2 s0 S i j1 ⟨j4, ?_⟩ ?_ ((he.trans a3').trans j3) (by omega) (by omega)
   ·rw [j5];refine ⟨?_, ?_⟩
    ·show exprK o.kind = true;rcases ok.kind with e | e | e <;> rw [e] <;> rfl
    ·show min (b + 1) 11 <= bindD o.kind o.op;rw [ok.bind]; omega
   ·unfold LeftOk;have etk : tk T s2 = tk T s1 := by unfold tk; rw [j2]
    rw [etk, j5]
    show (operOf (markOf (tk T s1))).binds <= bindD o.kind o.op /\ ((operOf (markOf (tk T s1))).op = 11 -> (operOf (markOf (tk T s1))).binds < bindD o.kind o.op);rw [ok.bind];refine ⟨by omega, fun h11 => ?_⟩;have hpos : 0 < (operOf (markOf (tk T s1))).binds := by
     by_cases h0 : 0 < (operOf (markOf (tk T s1))).binds
     ·exact h0
     ·rcases oper_mem (markOf (tk T s1)) with e | e
      ·rw [e] at h11; exact absurd h11 (by decide)
      ·have := (ops_ok _ e).least; omega
    have ok2 := oper_ok hpos;have h8 := ok2.eight.2 h11;have e8 := ok.eight;by_cases ho11 : o.op = 11
    ·rw [if_pos ho11] at a6;have := e8.2 ho11;omega
    ·rw [if_neg ho11] at a6;have : o.binds ≠ 8 := fun e => ho11 (e8.1 e)
     omega
  ·rw [if_neg h1];exact Sat.pure ⟨⟨H, rfl, hJ, he, hlt, h2⟩, by rw [ho]; omega⟩
theorem sat_expr (hT : TOk nm T) (hd : DOk T nm d H) (b : Nat) {s : St} {S : List (Int × Nat)} (hJ : J T nm s S) : Sat (exprM T d b) s fun i s' => One T nm S (H + 1) s (pB b) i s' /\ (operOf (markOf (tk T s'))).binds <= b := by
 unfold exprM;refine Sat.bind (sat_startExpr hT hJ.here fun hs => Sat.bind ((sat_operand hT hd hJ hs).mono fun left s1 ⟨h, a1, a2, a3, a4, a5⟩ => ?_));have e : h = H := by omega
 rw [e] at a2;refine sat_exprGo hT hd b _ s1 s S left a2 (a5.mono fun _ _ h => pO_pB h) ?_ a3 a4 (by omega);have h11 := pO_bind a5.2;have h10 := binds_le (markOf (tk T s1));exact ⟨by omega, fun _ => by omega⟩
theorem sat_exprsGo (hT : TOk nm T) (hd : DOk T nm d H) : ∀ (f : Nat) (s s0 : St) (S : List (Int × Nat)) (ks : List Int), J T nm s (S ++ ks.map fun i => (i, H)) -> (∀ i ∈ ks, Has s.l i pE) -> ks.length <= 200 -> Ext s0.l s.l -> s0.at' <= s.at' -> T.length < f + s.at' ->
  Sat (exprsGo T d f ks) s fun ks' s' => J T nm s' (S ++ ks'.map fun i => (i, H)) /\ (∀ i ∈ ks', Has s'.l i pE) /\ Ext s0.l s'.l /\ s0.at' < s'.at' /\ 1 <= ks'.length /\ ks'.length <= 200
 | 0, s, s0, S, ks, hJ, h2, hl, he, hlt, hf => by have := hJ.here; omega
 | f + 1, s, s0, S, ks, hJ, h2, hl, he, hlt, hf => by
  unfold exprsGo;refine Sat.bind (sat_startExpr hT hJ.here fun _ => Sat.bind (sat_room hT hJ.here hl fun hc => Sat.bind ((sat_expr hT hd 0 hJ).mono fun k s' ⟨⟨h, a1, a2, a3, a4, a5⟩, _⟩ => ?_)));have e : h = H := by omega
  rw [e, map_snoc] at a2;have h3 := all_snoc h2 a3 (a5.mono fun _ _ h => h.1);have hl1 : (ks ++ [k]).length = ks.length + 1 := by rw [List.length_append]; rfl
  refine Sat.bind (sat_accept (fun hm => ?_) (fun hm => ?_))
  ·exact sat_exprsGo hT hd f _ s0 S (ks ++ [k]) (a2.fwd hT (mark_no hm (by decide))) h3 (by omega) (he.trans a3) (by show s0.at' <= s'.at' + 1; omega) (by show T.length < f + (s'.at' + 1); omega)
  ·exact Sat.pure ⟨a2, h3, he.trans a3, by omega, by omega, by omega⟩
theorem sat_exprs (hT : TOk nm T) (hd : DOk T nm d H) {s : St} {S : List (Int × Nat)} (hJ : J T nm s S) : Sat (exprsM T d) s fun ks s' => Many T nm S (H + 1) s pE ks s' /\ 1 <= ks.length /\ ks.length <= 200 /\ s.at' < s'.at' := by
 unfold exprsM;exact (sat_exprsGo hT hd _ s s S [] (by simpa using hJ) (fun i h => by cases h) (by decide) (Ext.refl _) (Nat.le_refl _) (by omega)).mono fun ks s' ⟨a1, a2, a3, a4, a5, a6⟩ => ⟨⟨H, fun _ => rfl, a1, a3, by omega, a2⟩, a5, a6, a4⟩
end
end Go.Proofs.YtnkejjlidgnkkaaGreatDoor.Ps
namespace Go.Proofs.YtnkejjlidgnkkaaGreatDoor.Ps

open Go.Lib renaming hid → qh
open Go.Proofs.YtnkejjlidgnkkaaGreatDoor.Nd
open Go.Proofs.YtnkejjlidgnkkaaGreatDoor.Lex (Tok tokensL)
section
variable {T : List Tok} {nm : ByteArray -> Bool}
theorem fits_stat {n : Nd} {ks : List (Nat × Int)} (h : n.k <= 15) : fitsD n ks = true := fits_other (by omega) (by omega) (by omega) (by omega)
theorem row_local {ns : List ByteArray} {line : Int} {ks : List (Nat × Int)} (hl : 1 <= line) (h1 : 1 <= ns.length) (h2 : ns.length <= 200) (ha : ns.all nm = true) (he : (ks.map (·.1)).all exprK = true) (hk : ks.length <= 200) : rowD nm ⟨2, 0, ⟨#[]⟩, ns, [], line⟩ ks = true :=
 row_of hl (own_names h1 h2 ha nm_nil rfl) (by show listB (ks.map (·.1)) 0 (ks.map (·.1)).length 0 = true; exact list_all (least := 0) he (Nat.zero_le _) (by rw [List.length_map]; exact hk)) (fits_stat (by dsimp only; decide))
theorem row_ret {line : Int} {ks : List (Nat × Int)} (hl : 1 <= line) (he : (ks.map (·.1)).all exprK = true) (hk : ks.length <= 200) : rowD nm ⟨12, 0, ⟨#[]⟩, [], [], line⟩ ks = true :=
 row_of hl (own_plain rfl nm_nil rfl) (by show listB (ks.map (·.1)) 0 (ks.map (·.1)).length 0 = true; exact list_all (least := 0) he (Nat.zero_le _) (by rw [List.length_map]; exact hk)) (fits_stat (by dsimp only; decide))
theorem row_assign {line : Int} {xs ys : List (Nat × Int)} (hl : 1 <= line) (h1 : 1 <= xs.length) (h2 : xs.length <= 200) (hx : (xs.map (·.1)).all (Nd.isB [27, 28]) = true) (hy : (ys.map (·.1)).all exprK = true) (h3 : 1 <= ys.length) (h4 : ys.length <= 200) : rowD nm ⟨3, xs.length, ⟨#[]⟩, [], [], line⟩ (xs ++ ys) = true := by
 refine row_of hl (own_plain rfl nm_nil (by show decide (1 <= (xs.length : Int) /\ (xs.length : Int) <= 200) = true; rw [decide_eq_true_iff]; omega)) ?_ (fits_stat (by dsimp only; decide))
 show (areB ((xs ++ ys).map (·.1)) 0 xs.length (Nd.isB [27, 28]) && listB ((xs ++ ys).map (·.1)) xs.length ((xs ++ ys).map (·.1)).length 1) = true;rw [List.map_append];have e1 := are_head (xs := xs.map (·.1)) (ys := ys.map (·.1)) hx;have e2 := list_tail (xs := xs.map (·.1)) (ys := ys.map (·.1)) (least := 1) hy (by rw [List.length_map]; exact h3) (by rw [List.length_map]; exact h4);rw [List.length_map] at e1 e2;rw [e1];exact e2
theorem row_one {k k1 : Nat} {n1 line : Int} {p : Nat -> Bool} (hl : 1 <= line) (hc : cntB k = (0, 0)) (hn : nameB nm k ⟨#[]⟩ = true) (h0 : numB k 0 = true) (hk : kidsB k 0 [k1] = rowL [k1] [p]) (h1 : p k1 = true) (h15 : k <= 15) : rowD nm ⟨k, 0, ⟨#[]⟩, [], [], line⟩ [(k1, n1)] = true :=
 row_of hl (own_plain hc hn h0) (by show kidsB k 0 [k1] = true; rw [hk]; unfold rowL rowL; rw [h1]; rfl) (fits_stat h15)
theorem row_two {k k1 k2 : Nat} {n1 n2 line : Int} {p q : Nat -> Bool} (hl : 1 <= line) (hc : cntB k = (0, 0)) (hn : nameB nm k ⟨#[]⟩ = true) (h0 : numB k 0 = true) (hk : kidsB k 0 [k1, k2] = rowL [k1, k2] [p, q]) (h1 : p k1 = true) (h2 : q k2 = true) (h15 : k <= 15) : rowD nm ⟨k, 0, ⟨#[]⟩, [], [], line⟩ [(k1, n1), (k2, n2)] = true :=
 row_of hl (own_plain hc hn h0) (by show kidsB k 0 [k1, k2] = true; rw [hk]; unfold rowL rowL rowL; rw [h1, h2]; rfl) (fits_stat h15)
theorem row_lfunc {n : ByteArray} {n1 line : Int} (hl : 1 <= line) (hn : nm n = true) : rowD nm ⟨11, 0, ⟨#[]⟩, [n], [], line⟩ [(26, n1)] = true :=
 row_of hl (own_names (k := 11) (Nat.le_refl _) (Nat.le_refl _) (by simp [hn]) nm_nil rfl) rfl (fits_stat (by dsimp only; decide))
theorem row_for3 {n : ByteArray} {a b : Nat} {x y z line : Int} (hl : 1 <= line) (hn : nm n = true) (h1 : exprK a = true) (h2 : exprK b = true) : rowD nm ⟨9, 0, ⟨#[]⟩, [n], [], line⟩ [(a, x), (b, y), (1, z)] = true :=
 row_of hl (own_names (k := 9) (Nat.le_refl _) (Nat.le_refl _) (by simp [hn]) nm_nil rfl) (by show (rowL [a, b, 1] [exprK, exprK, blockP] || _) = true; unfold rowL rowL rowL rowL; rw [h1, h2]; rfl) (fits_stat (by dsimp only; decide))
theorem row_for4 {n : ByteArray} {a b c : Nat} {x y v z line : Int} (hl : 1 <= line) (hn : nm n = true) (h1 : exprK a = true) (h2 : exprK b = true) (h3 : exprK c = true) : rowD nm ⟨9, 0, ⟨#[]⟩, [n], [], line⟩ [(a, x), (b, y), (c, v), (1, z)] = true :=
 row_of hl (own_names (k := 9) (Nat.le_refl _) (Nat.le_refl _) (by simp [hn]) nm_nil rfl) (by
  have e : rowL [a, b, c, 1] [exprK, exprK, exprK, blockP] = true := by unfold rowL rowL rowL rowL rowL; rw [h1, h2, h3]; rfl
  show (_ || rowL [a, b, c, 1] [exprK, exprK, exprK, blockP]) = true;rw [e, Bool.or_true]) (fits_stat (by dsimp only; decide))
theorem map_one (ks : List (Nat × Int)) (k : Nat) (z : Int) : List.map (fun x : Nat × Int => x.1) (ks ++ [(k, z)]) = List.map (fun x : Nat × Int => x.1) ks ++ [k] := by rw [List.map_append]; rfl
theorem row_forin {ns : List ByteArray} {z line : Int} {ks : List (Nat × Int)} (hl : 1 <= line) (h1 : 1 <= ns.length) (h2 : ns.length <= 200) (ha : ns.all nm = true) (he : (ks.map (·.1)).all exprK = true) (hk1 : 1 <= ks.length) (hk : ks.length <= 200) : rowD nm ⟨10, 0, ⟨#[]⟩, ns, [], line⟩ (ks ++ [(1, z)]) = true := by
 refine row_of hl (own_names h1 h2 ha nm_nil rfl) ?_ (fits_stat (by dsimp only; decide))
 show kidsB 10 0 (List.map (fun x : Nat × Int => x.1) (ks ++ [(1, z)])) = true;rw [map_one];obtain ⟨xs, hxs⟩ : ∃ xs, List.map (fun x : Nat × Int => x.1) ks = xs := ⟨_, rfl⟩;have hlen : xs.length = ks.length := by rw [<- hxs, List.length_map]
 rw [hxs] at he ⊢;have e1 := list_head (xs := xs) (ys := [1]) (least := 1) he (by omega) (by omega);have e2 := are_tail (xs := xs) (ys := [1]) (p := blockP) rfl;have el : (((xs ++ [1]).length : Int) - 1) = (xs.length : Int) := by rw [List.length_append, List.length_singleton]; omega
 show (listB (xs ++ [1]) 0 (((xs ++ [1]).length : Int) - 1) 1 && areB (xs ++ [1]) (((xs ++ [1]).length : Int) - 1) (xs ++ [1]).length blockP) = true;rw [el];have e1' : listB (xs ++ [1]) 0 (xs.length : Int) 1 = true := e1;rw [e1', e2]
 rfl
theorem pairs_more : ∀ (n : Nat) (xs ys : List Nat), xs.length = 2 * n -> pairsGo n xs = true -> pairsGo n (xs ++ ys) = true
 | 0, _, _, _, _ => rfl
 | n + 1, a :: b :: xs, ys, hl, h => by
  unfold pairsGo at h ⊢;rw [Bool.and_eq_true] at h ⊢;exact ⟨h.1, pairs_more n xs ys (by simp at hl; omega) h.2⟩
 | n + 1, [], ys, hl, h => by simp at hl
 | n + 1, [a], ys, hl, h => by simp at hl; omega
theorem pairs_snoc : ∀ (n : Nat) (xs : List Nat) (a : Nat), xs.length = 2 * n -> pairsGo n xs = true -> exprK a = true -> pairsGo (n + 1) (xs ++ [a, 1]) = true
 | 0, [], a, _, _, ha => by
  show (rowL [a, 1] [exprK, blockP] && true) = true;unfold rowL rowL rowL;rw [ha]; rfl
 | 0, _ :: _, a, hl, _, _ => by simp at hl
 | n + 1, x :: y :: xs, a, hl, h, ha => by
  have h' : (rowL [x, y] [exprK, blockP] && pairsGo n xs) = true := h;rw [Bool.and_eq_true] at h'
  show (rowL [x, y] [exprK, blockP] && pairsGo (n + 1) (xs ++ [a, 1])) = true;rw [h'.1, pairs_snoc n xs a (by simp at hl; omega) h'.2 ha]
  rfl
 | n + 1, [], a, hl, _, _ => by simp at hl
 | n + 1, [x], a, hl, _, _ => by simp at hl; omega
theorem row_if {line : Int} {ks : List (Nat × Int)} {n : Nat} (hl : 1 <= line) (hn : 1 <= n) (hk : (ks.map (·.1)).length = 2 * n) (h : pairsGo n (ks.map (·.1)) = true) : rowD nm ⟨8, 0, ⟨#[]⟩, [], [], line⟩ ks = true := by
 refine row_of hl (own_plain rfl nm_nil rfl) ?_ (fits_stat (by dsimp only; decide))
 show pairsB (ks.map (·.1)) = true;unfold pairsB;rw [hk, show 2 * n / 2 = n by omega, h, Bool.true_and, decide_eq_true (by omega), Bool.true_and, show n * 2 = (ks.map (·.1)).length by omega, <- hk];have := are_tail (xs := ks.map (·.1)) (ys := []) (p := blockP) rfl
 simpa using this
theorem row_ifelse {line z : Int} {ks : List (Nat × Int)} {n : Nat} (hl : 1 <= line) (hn : 1 <= n) (hk : (ks.map (·.1)).length = 2 * n) (h : pairsGo n (ks.map (·.1)) = true) : rowD nm ⟨8, 0, ⟨#[]⟩, [], [], line⟩ (ks ++ [(1, z)]) = true := by
 refine row_of hl (own_plain rfl nm_nil rfl) ?_ (fits_stat (by dsimp only; decide))
 show pairsB (List.map (fun x : Nat × Int => x.1) (ks ++ [(1, z)])) = true;rw [map_one];obtain ⟨xs, hxs⟩ : ∃ xs, List.map (fun x : Nat × Int => x.1) ks = xs := ⟨_, rfl⟩;rw [hxs] at hk h ⊢;have hlen : (xs ++ [1]).length = 2 * n + 1 := by rw [List.length_append, hk]; rfl
 unfold pairsB;rw [hlen, show (2 * n + 1) / 2 = n by omega, pairs_more n _ [1] hk h, Bool.true_and, decide_eq_true (by omega), Bool.true_and, show n * 2 = xs.length by omega, <- hlen];exact are_tail (xs := xs) (ys := [1]) (p := blockP) rfl
def kk (l : List Nd) (ks : List Int) : List (Nat × Int) := ks.map fun c => ((Nd.at' l c).k, (Nd.at' l c).n)
theorem kk_ext {l m : List Nd} {ks : List Int} (h : ∀ i ∈ ks, Nd.inR l i) (e : Ext l m) : kk m ks = kk l ks := by
 unfold kk;refine List.map_congr_left fun c hc => ?_
 rw [e.at (h c hc)]
theorem kk_append (l : List Nd) (xs ys : List Int) : kk l (xs ++ ys) = kk l xs ++ kk l ys := by unfold kk; rw [List.map_append]
end
end Go.Proofs.YtnkejjlidgnkkaaGreatDoor.Ps
