/-
  A part of the proof.
-/
import Derived.Lib.Hide
import Derived.Test.YtnkejjlidgnkkaaGreatDoorClRS
import Derived.Test.YtnkejjlidgnkkaaGreatDoorClRT
set_option maxRecDepth 100000
set_option maxHeartbeats 40000000
namespace Go.Proofs.YtnkejjlidgnkkaaGreatDoor.Ps

open Go.Lib renaming hid → qh
open Go.Proofs.YtnkejjlidgnkkaaGreatDoor.Nd
open Go.Proofs.YtnkejjlidgnkkaaGreatDoor.Lex (Tok tokensL)
section
variable {T : List Tok} {nm : ByteArray -> Bool} {d : Fns} {H : Nat}
def pS (k : Nat) (_ : Int) : Prop := statK k = true
def p1 (k : Nat) (_ : Int) : Prop := k = 1
theorem ht1 {i : Int} {a k : Nat} (h : a + 1 = H) : ∀ (p : Nat) (x : Int × Nat), [(i, a)][p]? = some x -> x.2 + up k p <= H := hts1 (by have := up1 k 0; omega)
theorem ht2 {i j : Int} {a b k : Nat} (h : a + 1 = H) (h' : b + 1 = H) : ∀ (p : Nat) (x : Int × Nat), [(i, a), (j, b)][p]? = some x -> x.2 + up k p <= H := hts2 (by have := up1 k 0; omega) (by have := up1 k 1; omega)
theorem htm {ks : List Int} {a k : Nat} (h : ks ≠ [] -> a + 1 = H) : ∀ (p : Nat) (x : Int × Nat), (ks.map fun i => (i, a))[p]? = some x -> x.2 + up k p <= H := fun p x hx => hts (fun y hy => by
 obtain ⟨i, hi, rfl⟩ := List.mem_map.1 hy;have := h (fun e => by rw [e] at hi; cases hi)
 show a + 1 <= H;omega) p x hx
theorem sat_stat (hT : TOk nm T) {s s0 : St} {S K : List (Int × Nat)} {nd : Nd} {ks : List (Nat × Int)} (hJ : J T nm s (S ++ K)) (hk : nd.kids = K.map (·.1)) (hh : ∀ (p : Nat) (x : Int × Nat), K[p]? = some x -> x.2 + up nd.k p <= H) (hks : kinds s.l nd = ks) (hr : rowD nm (bare nd) ks = true) (hS : statK nd.k = true) (he : Ext s0.l s.l) (hlt : s0.at' < s.at') :
  Sat (add T nd) s (One T nm S (H + 1) s0 fun k _ => k = nd.k /\ statK k = true) :=
 sat_add hT (h := H) hJ hk hh (by rw [hks]; exact hr) fun i s' j1 j2 j3 j4 j5 => ⟨H, rfl, j1, he.trans j3, by omega, j4, by rw [j5]; exact ⟨rfl, hS⟩⟩
def pN (k : Nat) (_ : Int) : Prop := statK k = true /\ k ≠ 12
theorem sat_doBlock (hT : TOk nm T) (hd : DOk T nm d H) {s : St} {S : List (Int × Nat)} (hJ : J T nm s S) : Sat (doBlock T d) s (One T nm S H s p1) := by
 unfold doBlock;refine Sat.bind (sat_expect hT hJ.here fun hm => ?_);refine Sat.bind ((hd.block _ S (hJ.fwd hT (mark_no hm (by decide)))).mono fun b s' ⟨h, a1, a2, a3, a4, a5⟩ => Sat.bind (sat_expect hT a2.here fun hm2 => Sat.pure ⟨h, a1, a2.fwd hT (mark_no hm2 (by decide)), a3, ?_, a5⟩));have : s.at' + 1 <= s'.at' := a4
 show s.at' < s'.at' + 1;omega
def Prs (l : List Nd) (n : Nat) (ks : List Int) : Prop := (∀ i ∈ ks, Nd.inR l i) /\ ks.length = 2 * n /\ pairsGo n ((kk l ks).map (·.1)) = true
theorem sat_pair (hT : TOk nm T) (hd : DOk T nm d H) {s s0 : St} {S : List (Int × Nat)} {ks : List Int} {n h0 : Nat} (hk6 : (tk T s).k ≠ 6) (hJ : J T nm s (S ++ ks.map fun i => (i, h0))) (hh : ks ≠ [] -> h0 + 1 = H) (hP : Prs s.l n ks) (he : Ext s0.l s.l) (hlt : s0.at' <= s.at') :
  Sat (pairM T d) s fun ks2 s' => ∃ h, h + 1 = H /\ J T nm s' (S ++ (ks ++ ks2).map fun i => (i, h)) /\ Prs s'.l (n + 1) (ks ++ ks2) /\ Ext s0.l s'.l /\ s0.at' < s'.at' /\ s.at' < s'.at' := by
 unfold pairM;refine Sat.bind (sat_next (Sat.bind ((hd.expr 0 _ _ (hJ.fwd hT hk6)).mono fun c s1 ⟨⟨h, a1, a2, a3, a4, a5⟩, _⟩ => Sat.bind (sat_expect hT a2.here fun hm => Sat.bind ((hd.block _ _ (a2.fwd hT (mark_no hm (by decide)))).mono fun b s2 ⟨h', b1, b2, b3, b4, b5⟩ => Sat.pure ?_)))));have e : h' = h := by omega
 have e0 : (ks.map fun i => (i, h0)) = ks.map fun i => (i, h) := by
  cases ks with
  | nil => rfl
  | cons x xs => rw [show h0 = h by have := hh (by simp); omega]
 rw [e, e0] at b2;have l1 : s.at' + 1 < s1.at' := a4;have l2 : s1.at' + 1 <= s2.at' := b4;have x1 : Ext s.l s1.l := a3;have x2 : Ext s1.l s2.l := b3;refine ⟨h, a1, ?_, ⟨?_, ?_, ?_⟩, (he.trans x1).trans x2, by omega, by omega⟩
 ·rw [List.map_append, <- List.append_assoc];have := b2.assoc
  simpa using this
 ·intro i hi;rcases List.mem_append.1 hi with h1 | h1
  ·exact (x1.trans x2).inR (hP.1 i h1)
  ·simp only [List.mem_cons, List.not_mem_nil, or_false] at h1;rcases h1 with rfl | rfl
   ·exact x2.inR a5.1
   ·exact b5.1
 ·rw [List.length_append, hP.2.1]; show 2 * n + 2 = 2 * (n + 1); omega
 ·rw [kk_append, List.map_append, kk_ext hP.1 (x1.trans x2)];have hc := (a5.ext x2).2.1;have hb := b5.2
  show pairsGo (n + 1) ((kk s.l ks).map (·.1) ++ [(Nd.at' s2.l c).k, (Nd.at' s2.l b).k]) = true;rw [show (Nd.at' s2.l b).k = 1 from hb];exact pairs_snoc n _ _ (by rw [List.length_map]; unfold kk; rw [List.length_map]; exact hP.2.1) hP.2.2 hc
theorem sat_ifGo (hT : TOk nm T) (hd : DOk T nm d H) : ∀ (f : Nat) (s s0 : St) (S : List (Int × Nat)) (ks : List Int) (n h : Nat), h + 1 = H -> 1 <= n -> J T nm s (S ++ ks.map fun i => (i, h)) -> Prs s.l n ks -> Ext s0.l s.l -> s0.at' < s.at' -> T.length < f + s.at' ->
  Sat (ifGo T d f ks) s fun ks' s' => ∃ n h, h + 1 = H /\ 1 <= n /\ J T nm s' (S ++ ks'.map fun i => (i, h)) /\ Prs s'.l n ks' /\ Ext s0.l s'.l /\ s0.at' < s'.at'
 | 0, s, s0, S, ks, n, h, hh, hn, hJ, hP, he, hlt, hf => by have := hJ.here; omega
 | f + 1, s, s0, S, ks, n, h, hh, hn, hJ, hP, he, hlt, hf => by
  unfold ifGo;refine Sat.bind (sat_mark ?_);by_cases h1 : markOf (tk T s) = wElseif
  ·rw [if_pos h1];refine Sat.bind ((sat_pair hT hd (mark_no h1 (by decide)) hJ (fun _ => hh) hP he (Nat.le_of_lt hlt)).mono fun ks2 s' ⟨h', a1, a2, a3, a4, a5, a6⟩ => ?_);exact sat_ifGo hT hd f s' s0 S (ks ++ ks2) (n + 1) h' a1 (by omega) a2 a3 a4 a5 (by omega)
  ·rw [if_neg h1];exact Sat.pure ⟨n, h, hh, hn, hJ, hP, he, hlt⟩
theorem sat_if (hT : TOk nm T) (hd : DOk T nm d H) {s : St} {S : List (Int × Nat)} (hk6 : (tk T s).k ≠ 6) (hJ : J T nm s S) : Sat (ifStat T d) s (One T nm S (H + 1) s pN) := by
 unfold ifStat;refine Sat.bind (sat_line (Sat.bind ((sat_pair (S := S) (n := 0) (ks := []) (h0 := 0) (s0 := s) hT hd hk6 (by simpa using hJ) (fun h => absurd rfl h) ⟨(fun i h => by cases h), rfl, rfl⟩ (Ext.refl _) (Nat.le_refl _)).mono fun ks s1 ⟨h, a1, a2, a3, a4, a5, a6⟩ => ?_)));refine Sat.bind ((sat_ifGo hT hd _ s1 s S ks 1 h a1 (Nat.le_refl _) a2 a3 a4 a5 (by omega)).mono fun ks' s2 ⟨n, h', b1, b2, b3, b4, b5, b6⟩ => ?_);have hl := int_line hT hJ.here;refine Sat.bind (Sat.bind (sat_accept (fun hm => ?_) (fun hm => ?_)))
 ·show Sat (d.block >>= fun b => Pure.pure (ks' ++ [b])) (fwd s2) _;refine Sat.bind ((hd.block _ _ (b3.fwd hT (mark_no hm (by decide)))).mono fun b s3 ⟨h3, c1, c2, c3, c4, c5⟩ => Sat.pure (Sat.bind (sat_expect hT c2.here fun hm2 => ?_)));have e : h3 = h' := by omega
  rw [e, map_snoc] at c2;have x : Ext s2.l s3.l := c3;have l3 : s2.at' + 1 <= s3.at' := c4;refine (sat_stat (nd := ⟨8, 0, ⟨#[]⟩, [], ks' ++ [b], ((tk T s).line : Nat)⟩) (ks := kk s2.l ks' ++ [(1, (Nd.at' s3.l b).n)]) hT (c2.fwd hT (mark_no hm2 (by decide))) (map_fst _ h') (htm (fun _ => b1)) ?_ (row_ifelse hl b2 (by rw [List.length_map]; unfold kk; rw [List.length_map]; exact b4.2.1) b4.2.2) (by rfl) (b5.trans x) (by show s.at' < s3.at' + 1; omega)).mono fun i s' hh => hh.mono fun k _ e => ⟨e.2, by rw [e.1]; show 8 ≠ 12; decide⟩
  show kk s3.l (ks' ++ [b]) = _;rw [kk_append, kk_ext b4.1 x]
  show _ ++ [((Nd.at' s3.l b).k, (Nd.at' s3.l b).n)] = _;rw [show (Nd.at' s3.l b).k = 1 from c5.2]
 ·refine Sat.pure (Sat.bind (sat_expect hT b3.here fun hm2 => ?_));refine (sat_stat (nd := ⟨8, 0, ⟨#[]⟩, [], ks', ((tk T s).line : Nat)⟩) (ks := kk s2.l ks') hT (b3.fwd hT (mark_no hm2 (by decide))) (map_fst _ h') (htm (fun _ => b1)) rfl (row_if hl b2 (by rw [List.length_map]; unfold kk; rw [List.length_map]; exact b4.2.1) b4.2.2) (by rfl) b5 (by show s.at' < s2.at' + 1; omega)).mono fun i s' hh => hh.mono fun k _ e => ⟨e.2, by rw [e.1]; show 8 ≠ 12; decide⟩
theorem sat_while (hT : TOk nm T) (hd : DOk T nm d H) {s : St} {S : List (Int × Nat)} {line : Nat} (hl : 1 <= (line : Int)) (hk6 : (tk T s).k ≠ 6) (hJ : J T nm s S) :
  Sat (nextM >>= fun _ => d.expr 0 >>= fun c => doBlock T d >>= fun b => add T ⟨6, 0, ⟨#[]⟩, [], [c, b], line⟩) s (One T nm S (H + 1) s pN) := by
 refine Sat.bind (sat_next (Sat.bind ((hd.expr 0 _ _ (hJ.fwd hT hk6)).mono fun c s1 ⟨⟨h, a1, a2, a3, a4, a5⟩, _⟩ => Sat.bind ((sat_doBlock hT hd a2).mono fun b s2 ⟨h', b1, b2, b3, b4, b5⟩ => ?_))));have l1 : s.at' + 1 < s1.at' := a4;have x1 : Ext s.l s1.l := a3;have hc := (a5.ext b3).2.1;refine (sat_stat (nd := ⟨6, 0, ⟨#[]⟩, [], [c, b], line⟩) (ks := [((Nd.at' s2.l c).k, (Nd.at' s2.l c).n), (1, (Nd.at' s2.l b).n)]) hT b2.assoc rfl (ht2 a1 b1) ?_ (row_two (p := exprK) (q := blockP) hl rfl nm_nil rfl rfl hc rfl (show (6 : Nat) <= 15 by decide)) (by rfl) (x1.trans b3) (by omega)).mono fun i s' hh => hh.mono fun k _ e => ⟨e.2, by rw [e.1]; show 6 ≠ 12; decide⟩
 show [_, ((Nd.at' s2.l b).k, _)] = _;rw [show (Nd.at' s2.l b).k = 1 from b5.2]
theorem sat_do (hT : TOk nm T) (hd : DOk T nm d H) {s : St} {S : List (Int × Nat)} {line : Nat} (hl : 1 <= (line : Int)) (hJ : J T nm s S) :
  Sat (doBlock T d >>= fun b => add T ⟨5, 0, ⟨#[]⟩, [], [b], line⟩) s (One T nm S (H + 1) s pN) := by
 refine Sat.bind ((sat_doBlock hT hd hJ).mono fun b s2 ⟨h', b1, b2, b3, b4, b5⟩ => ?_);refine (sat_stat (nd := ⟨5, 0, ⟨#[]⟩, [], [b], line⟩) (ks := [(1, (Nd.at' s2.l b).n)]) hT b2 rfl (ht1 b1) ?_ (row_one (p := blockP) hl rfl nm_nil rfl rfl rfl (show (5 : Nat) <= 15 by decide)) (by rfl) b3 b4).mono fun i s' hh => hh.mono fun k _ e => ⟨e.2, by rw [e.1]; show 5 ≠ 12; decide⟩
 show [((Nd.at' s2.l b).k, _)] = _;rw [show (Nd.at' s2.l b).k = 1 from b5.2]
theorem sat_repeat (hT : TOk nm T) (hd : DOk T nm d H) {s : St} {S : List (Int × Nat)} {line : Nat} (hl : 1 <= (line : Int)) (hk6 : (tk T s).k ≠ 6) (hJ : J T nm s S) :
  Sat (nextM >>= fun _ => d.block >>= fun b => expect T wUntil >>= fun _ => d.expr 0 >>= fun c => add T ⟨7, 0, ⟨#[]⟩, [], [b, c], line⟩) s (One T nm S (H + 1) s pN) := by
 refine Sat.bind (sat_next (Sat.bind ((hd.block _ _ (hJ.fwd hT hk6)).mono fun b s1 ⟨h, a1, a2, a3, a4, a5⟩ => Sat.bind (sat_expect hT a2.here fun hm => Sat.bind ((hd.expr 0 _ _ (a2.fwd hT (mark_no hm (by decide)))).mono fun c s2 ⟨⟨h', b1, b2, b3, b4, b5⟩, _⟩ => ?_)))));have l1 : s.at' + 1 <= s1.at' := a4;have l2 : s1.at' + 1 < s2.at' := b4;have x1 : Ext s.l s1.l := a3;have x2 : Ext s1.l s2.l := b3;have hb := (a5.ext x2).2;refine (sat_stat (nd := ⟨7, 0, ⟨#[]⟩, [], [b, c], line⟩) (ks := [(1, (Nd.at' s2.l b).n), ((Nd.at' s2.l c).k, (Nd.at' s2.l c).n)]) hT b2.assoc rfl (ht2 a1 b1) ?_ (row_two (p := blockP) (q := exprK) hl rfl nm_nil rfl rfl rfl b5.2.1 (show (7 : Nat) <= 15 by decide)) (by rfl) (x1.trans x2) (by omega)).mono fun i s' hh => hh.mono fun k _ e => ⟨e.2, by rw [e.1]; show 7 ≠ 12; decide⟩
 show [((Nd.at' s2.l b).k, _), _] = _;rw [show (Nd.at' s2.l b).k = 1 from hb]
theorem kk_all {l : List Nd} {ks : List Int} (h : ∀ i ∈ ks, Has l i pE) : ((kk l ks).map (·.1)).all exprK = true := kinds_all h
theorem sat_forIn (hT : TOk nm T) (hd : DOk T nm d H) {s s0 : St} {S : List (Int × Nat)} {line : Nat} {ns : List ByteArray} (hl : 1 <= (line : Int)) (h1 : 1 <= ns.length) (h2 : ns.length <= 200) (ha : ns.all nm = true) (hJ : J T nm s S) (he : s.l = s0.l) (hlt : s0.at' < s.at') :
  Sat (expect T wIn >>= fun _ => d.exprs >>= fun ks => doBlock T d >>= fun b => add T ⟨10, 0, ⟨#[]⟩, ns, ks ++ [b], line⟩) s (One T nm S (H + 1) s0 pN) := by
 refine Sat.bind (sat_expect hT hJ.here fun hm => Sat.bind ((hd.exprs _ _ (hJ.fwd hT (mark_no hm (by decide)))).mono fun ks s1 ⟨⟨h, a1, a2, a3, a4, a5⟩, c1, c2, c3⟩ => Sat.bind ((sat_doBlock hT hd a2).mono fun b s2 ⟨h', b1, b2, b3, b4, b5⟩ => ?_)));have hne : ks ≠ [] := fun e => by rw [e] at c1; exact absurd c1 (by decide)
 have l1 : s.at' + 1 < s1.at' := c3;have x1 : Ext s0.l s1.l := by rw [<- he]; exact a3
 have e : h' = h := by have := a1 hne; omega
 rw [e, map_snoc] at b2;refine (sat_stat (nd := ⟨10, 0, ⟨#[]⟩, ns, ks ++ [b], line⟩) (ks := kk s1.l ks ++ [(1, (Nd.at' s2.l b).n)]) hT b2 (map_fst _ h) (htm fun _ => a1 hne) ?_ (row_forin hl h1 h2 ha (kk_all a5) (by unfold kk; rw [List.length_map]; exact c1) (by unfold kk; rw [List.length_map]; exact c2)) (by rfl) (x1.trans b3) (by omega)).mono fun i s' hh => hh.mono fun k _ e => ⟨e.2, by rw [e.1]; show 10 ≠ 12; decide⟩
 show kk s2.l (ks ++ [b]) = _;rw [kk_append, kk_ext (fun i hi => (a5 i hi).1) b3]
 show _ ++ [((Nd.at' s2.l b).k, _)] = _;rw [show (Nd.at' s2.l b).k = 1 from b5.2]
theorem one_name {ns : List ByteArray} (h : ns.length = 1) (ha : ns.all nm = true) : ∃ n, ns = [n] /\ nm n = true := by
 match ns, h with
 | [n], _ => exact ⟨n, rfl, by simpa using ha⟩
theorem sat_for (hT : TOk nm T) (hd : DOk T nm d H) {s : St} {S : List (Int × Nat)} (hk6 : (tk T s).k ≠ 6) (hJ : J T nm s S) : Sat (forStat T d) s (One T nm S (H + 1) s pN) := by
 have hl := int_line hT hJ.here;unfold forStat;refine Sat.bind (sat_line (Sat.bind (sat_next (Sat.bind (sat_names hT (hJ.fwd hT hk6) fun ns s1 n1 n2 n3 n4 n5 n6 => ?_)))));have l1 : s.at' + 1 < s1.at' := n3;have e1 : s1.l = s.l := n2;by_cases h1 : ns.length = 1
 ·rw [if_pos h1];obtain ⟨n, rfl, hn⟩ := one_name h1 n6;refine Sat.bind (sat_accept (fun hm => ?_) (fun hm => ?_))
  ·show Sat (bounds T d >>= fun ks => doBlock T d >>= fun b => add T ⟨9, 0, ⟨#[]⟩, [n], ks ++ [b], ((tk T s).line : Nat)⟩) (fwd s1) _;unfold bounds;refine Sat.bind (Sat.bind ((hd.expr 0 _ _ (n1.fwd hT (mark_no hm (by decide)))).mono fun a s2 ⟨⟨h, a1, a2, a3, a4, a5⟩, _⟩ => Sat.bind (sat_expect hT a2.here fun hm2 => Sat.bind ((hd.expr 0 _ _ (a2.fwd hT (mark_no hm2 (by decide)))).mono fun b s3 ⟨⟨h', b1, b2, b3, b4, b5⟩, _⟩ => Sat.bind (sat_accept (fun hm3 => ?_) (fun hm3 => ?_))))))
   ·show Sat (d.expr 0 >>= fun c => Pure.pure [a, b, c]) (fwd s3) _;refine Sat.bind ((hd.expr 0 _ _ (b2.fwd hT (mark_no hm3 (by decide)))).mono fun c s4 ⟨⟨h3, c1, c2, c3, c4, c5⟩, _⟩ => Sat.pure (Sat.bind ((sat_doBlock hT hd c2).mono fun e s5 ⟨h4, d1, d2, d3, d4, d5⟩ => ?_)));have y1 : Ext s.l s2.l := by rw [<- e1]; exact a3
    have y2 : Ext s2.l s3.l := b3;have y3 : Ext s3.l s4.l := c3;have m2 : s1.at' + 1 < s2.at' := a4;have m3 : s2.at' + 1 < s3.at' := b4;have m4 : s3.at' + 1 < s4.at' := c4;have ka := (a5.ext ((y2.trans y3).trans d3)).2.1;have kb := (b5.ext (y3.trans d3)).2.1;have kc := (c5.ext d3).2.1;refine (sat_stat (nd := ⟨9, 0, ⟨#[]⟩, [n], [a, b, c, e], ((tk T s).line : Nat)⟩) (K := [(a, h), (b, h'), (c, h3), (e, h4)]) (ks := [((Nd.at' s5.l a).k, (Nd.at' s5.l a).n), ((Nd.at' s5.l b).k, (Nd.at' s5.l b).n), ((Nd.at' s5.l c).k, (Nd.at' s5.l c).n), (1, (Nd.at' s5.l e).n)]) hT (by simpa using d2) rfl (hts fun x hx => ?_) ?_ (row_for4 hl hn ka kb kc) (by rfl) (((y1.trans y2).trans y3).trans d3) (by omega)).mono fun i s' hh => hh.mono fun k _ e => ⟨e.2, by rw [e.1]; show 9 ≠ 12; decide⟩
    ·simp only [List.mem_cons, List.not_mem_nil, or_false] at hx;rcases hx with rfl | rfl | rfl | rfl <;> dsimp only <;> omega
    ·show [_, _, _, ((Nd.at' s5.l e).k, _)] = _;rw [show (Nd.at' s5.l e).k = 1 from d5.2]
   ·refine Sat.pure (Sat.bind ((sat_doBlock hT hd b2).mono fun e s5 ⟨h4, d1, d2, d3, d4, d5⟩ => ?_));have y1 : Ext s.l s2.l := by rw [<- e1]; exact a3
    have y2 : Ext s2.l s3.l := b3;have m2 : s1.at' + 1 < s2.at' := a4;have m3 : s2.at' + 1 < s3.at' := b4;have ka := (a5.ext (y2.trans d3)).2.1;have kb := (b5.ext d3).2.1;refine (sat_stat (nd := ⟨9, 0, ⟨#[]⟩, [n], [a, b, e], ((tk T s).line : Nat)⟩) (K := [(a, h), (b, h'), (e, h4)]) (ks := [((Nd.at' s5.l a).k, (Nd.at' s5.l a).n), ((Nd.at' s5.l b).k, (Nd.at' s5.l b).n), (1, (Nd.at' s5.l e).n)]) hT (by simpa using d2) rfl (hts fun x hx => ?_) ?_ (row_for3 hl hn ka kb) (by rfl) ((y1.trans y2).trans d3) (by omega)).mono fun i s' hh => hh.mono fun k _ e => ⟨e.2, by rw [e.1]; show 9 ≠ 12; decide⟩
    ·simp only [List.mem_cons, List.not_mem_nil, or_false] at hx;rcases hx with rfl | rfl | rfl <;> dsimp only <;> omega
    ·show [_, _, ((Nd.at' s5.l e).k, _)] = _;rw [show (Nd.at' s5.l e).k = 1 from d5.2]
  ·exact sat_forIn hT hd hl n4 n5 n6 n1 e1 (by omega)
 ·rw [if_neg h1];exact sat_forIn hT hd hl n4 n5 n6 n1 e1 (by omega)
theorem sat_jump (hT : TOk nm T) {s : St} {S : List (Int × Nat)} (hk6 : (tk T s).k ≠ 6) (hJ : J T nm s S) : Sat (jumpStat T) s (One T nm S (H + 1) s pN) := by
 have hl := int_line hT hJ.here;have hJ1 := hJ.fwd hT hk6;unfold jumpStat;refine Sat.bind (sat_tok (Sat.bind (sat_next ?_)));by_cases h1 : markOf (tk T s) = wGoto
 ·rw [if_pos h1];refine Sat.bind (sat_nextName hT hJ1.here fun n hn hk => ?_);exact sat_leaf hT (nd := ⟨14, 0, n, [], [], (tk T s).line⟩) (H := H) (hJ1.fwd hT (by omega)) rfl (row_jump (.inl rfl) hl hn) fun i s' j1 j2 j3 j4 j5 => ⟨H, rfl, j1, j3, by rw [j2]; show s.at' < s.at' + 1 + 1; omega, j4, by rw [j5]; exact ⟨rfl, (by decide : (14 : Nat) ≠ 12)⟩⟩
 ·rw [if_neg h1];by_cases h2 : markOf (tk T s) = wColons
  ·rw [if_pos h2];refine Sat.bind (sat_nextName hT hJ1.here fun n hn hk => ?_);have hJ2 := hJ1.fwd hT (show (tk T (fwd s)).k ≠ 6 by omega);refine Sat.bind (sat_expect hT hJ2.here fun hm => ?_);exact sat_leaf hT (nd := ⟨15, 0, n, [], [], (tk T s).line⟩) (H := H) (hJ2.fwd hT (mark_no hm (by decide))) rfl (row_jump (.inr rfl) hl hn) fun i s' j1 j2 j3 j4 j5 => ⟨H, rfl, j1, j3, by rw [j2]; show s.at' < s.at' + 1 + 1 + 1; omega, j4, by rw [j5]; exact ⟨rfl, (by decide : (15 : Nat) ≠ 12)⟩⟩
  ·rw [if_neg h2];exact sat_leaf hT (nd := ⟨13, 0, ⟨#[]⟩, [], [], (tk T s).line⟩) (H := H) hJ1 rfl (row_word (.inr (.inr (.inr (.inr rfl)))) hl) fun i s' j1 j2 j3 j4 j5 => ⟨H, rfl, j1, j3, by rw [j2]; exact Nat.lt_succ_self _, j4, by rw [j5]; exact ⟨rfl, (by decide : (13 : Nat) ≠ 12)⟩⟩
theorem sat_local (hT : TOk nm T) (hd : DOk T nm d H) {s : St} {S : List (Int × Nat)} (hk6 : (tk T s).k ≠ 6) (hJ : J T nm s S) : Sat (localStat T d) s (One T nm S (H + 1) s pN) := by
 have hl := int_line hT hJ.here;have hJ1 := hJ.fwd hT hk6;unfold localStat;refine Sat.bind (sat_line (Sat.bind (sat_next (Sat.bind (sat_mark ?_)))));by_cases h1 : markOf (tk T (fwd s)) = wFunction
 ·rw [if_pos h1];have hJ2 := hJ1.fwd hT (mark_no h1 (by decide));refine Sat.bind (hd.beg _ _ hJ1.here fun _ => Sat.bind (sat_line (Sat.bind (sat_next (Sat.bind (sat_nextName hT hJ2.here fun n hn hk => Sat.bind ((hd.body [] _ _ _ (hJ2.fwd hT (by omega)) (line_pos hT hJ1.here) (by decide) rfl).mono fun v s2 ⟨h, a1, a2, a3, a4, a5⟩ => ?_)))))));have l1 : s.at' + 1 + 1 + 1 < s2.at' := a4;refine (sat_stat (s0 := s) (nd := ⟨11, 0, ⟨#[]⟩, [n], [v], ((tk T s).line : Nat)⟩) (ks := [(26, (Nd.at' s2.l v).n)]) hT a2 rfl (ht1 a1) ?_ (row_lfunc hl hn) (by rfl) a3 (by omega)).mono fun i s' hh => hh.mono fun k _ e => ⟨e.2, by rw [e.1]; show 11 ≠ 12; decide⟩
  show [((Nd.at' s2.l v).k, _)] = _;rw [show (Nd.at' s2.l v).k = 26 from a5.2]
 ·rw [if_neg h1];refine Sat.bind (sat_names hT hJ1 fun ns s1 n1 n2 n3 n4 n5 n6 => ?_);have l1 : s.at' + 1 < s1.at' := n3;have e1 : s1.l = s.l := n2;refine Sat.bind (Sat.bind (sat_accept (fun hm => ?_) (fun hm => ?_)))
  ·refine (hd.exprs _ _ (n1.fwd hT (mark_no hm (by decide)))).mono fun ks s2 ⟨⟨h, a1, a2, a3, a4, a5⟩, c1, c2, c3⟩ => ?_
   have l2 : s1.at' + 1 < s2.at' := c3;exact (sat_stat (nd := ⟨2, 0, ⟨#[]⟩, ns, ks, ((tk T s).line : Nat)⟩) (ks := kk s2.l ks) hT a2 (map_fst _ h) (htm a1) rfl (row_local hl n4 n5 n6 (kk_all a5) (by unfold kk; rw [List.length_map]; exact c2)) (by rfl) (by rw [<- e1]; exact a3) (by omega)).mono fun i s' hh => hh.mono fun k _ e => ⟨e.2, by rw [e.1]; show 2 ≠ 12; decide⟩
  ·exact Sat.pure ((sat_stat (nd := ⟨2, 0, ⟨#[]⟩, ns, [], ((tk T s).line : Nat)⟩) (K := []) (ks := []) hT (by rw [List.append_nil]; exact n1) rfl hts0 rfl (row_local hl n4 n5 n6 rfl (by decide)) (by rfl) (by rw [<- e1]; exact Ext.refl _) (by omega)).mono fun i s' hh => hh.mono fun k _ e => ⟨e.2, by rw [e.1]; show 2 ≠ 12; decide⟩)
theorem sat_fieldsGo (hT : TOk nm T) (hd : DOk T nm d (H + 1)) : ∀ (f : Nat) (s s0 : St) (S : List (Int × Nat)) (t : Int), J T nm s (S ++ [(t, H)]) -> Has s.l t (fun k _ => k = 27 \/ k = 28) -> Ext s0.l s.l -> s0.at' < s.at' -> T.length < f + s.at' ->
  Sat (fieldsGo T d f t) s (One T nm S (H + 1) s0 fun k _ => k = 27 \/ k = 28)
 | 0, s, s0, S, t, hJ, h2, he, hlt, hf => by have := hJ.here; omega
 | f + 1, s, s0, S, t, hJ, h2, he, hlt, hf => by
  unfold fieldsGo;refine Sat.bind (sat_accept (fun hm => ?_) (fun hm => ?_))
  ·show Sat (fieldM T d.beg1 t >>= fun t' => fieldsGo T d f t') (fwd s) _;refine Sat.bind ((sat_field (X := 2) (Y := H + 1) (H := H) hT hd.beg1 (by omega) (hJ.fwd hT (mark_no hm (by decide))) (h2.mono fun k _ e => by rcases e with rfl | rfl <;> rfl)).mono fun i s' ⟨h, a1, a2, a3, a4, a5⟩ => ?_);have e : h = H := by omega
   rw [e] at a2;have l1 : s.at' + 1 < s'.at' := a4;exact sat_fieldsGo hT hd f s' s0 S i a2 (a5.mono fun _ _ e => .inr e) (he.trans a3) (by omega) (by omega)
  ·exact Sat.pure ⟨H, rfl, hJ, he, hlt, h2⟩
theorem sat_setFunc (hT : TOk nm T) (hd : DOk T nm d (H + 1)) {s s0 : St} {S : List (Int × Nat)} {t : Int} {ns : List ByteArray} {line : Nat} (hl : 1 <= line) (hJ : J T nm s (S ++ [(t, H)])) (h2 : Has s.l t fun k _ => k = 27 \/ k = 28) (he : Ext s0.l s.l) (hlt : s0.at' < s.at') (hn : ns.length <= 200) (ha : ns.all nm = true) :
  Sat (d.body ns line >>= fun v => add T ⟨3, 1, ⟨#[]⟩, [], [t, v], line⟩) s (One T nm S (H + 1 + 1) s0 pN) := by
 refine Sat.bind ((hd.body ns line _ _ hJ hl hn ha).mono fun v s2 ⟨h, a1, a2, a3, a4, a5⟩ => ?_);refine (sat_stat (H := H + 1) (s0 := s0) (nd := ⟨3, 1, ⟨#[]⟩, [], [t, v], line⟩) (ks := [((Nd.at' s2.l t).k, (Nd.at' s2.l t).n)] ++ [((Nd.at' s2.l v).k, (Nd.at' s2.l v).n)]) hT a2.assoc rfl (ht2 rfl a1) rfl ?_ (by rfl) (he.trans a3) (by omega)).mono fun i s' hh => hh.mono fun k _ e => ⟨e.2, by rw [e.1]; show 3 ≠ 12; decide⟩
 have ht := (h2.ext a3).2;have hv := a5.2;refine row_assign (nm := nm) (xs := [((Nd.at' s2.l t).k, (Nd.at' s2.l t).n)]) (ys := [((Nd.at' s2.l v).k, (Nd.at' s2.l v).n)]) (show (1 : Int) <= (line : Int) by omega) (Nat.le_refl _) (by show 1 <= 200; decide) ?_ ?_ (Nat.le_refl _) (by show 1 <= 200; decide)
 ·show ([(Nd.at' s2.l t).k]).all (Nd.isB [27, 28]) = true;rcases ht with e | e <;> rw [e] <;> rfl
 ·show ([(Nd.at' s2.l v).k]).all exprK = true;rw [show (Nd.at' s2.l v).k = 26 from hv]; rfl
theorem sat_function (hT : TOk nm T) (hself : nm wSelf = true) (hd : DOk T nm d H) {s : St} {S : List (Int × Nat)} (hk6 : (tk T s).k ≠ 6) (hJ : J T nm s S) : Sat (functionStat T d) s (One T nm S (H + 1) s pN) := by
 unfold functionStat;refine Sat.bind (hd.beg _ _ hJ.here fun hH => Sat.bind (sat_line (Sat.bind (sat_next ?_))));obtain ⟨G, rfl⟩ : ∃ G, H = G + 1 := ⟨H - 1, by omega⟩;have hl := line_pos hT hJ.here;refine Sat.bind ((sat_variable hT (H := G) (hJ.fwd hT hk6)).mono fun t s1 ⟨h, a1, a2, a3, a4, a5⟩ => ?_);have e : h = G := by omega
 rw [e] at a2;have l1 : s.at' + 1 < s1.at' := a4;refine Sat.bind ((sat_fieldsGo hT hd _ s1 s S t a2 (a5.mono fun _ _ e => .inl e) a3 (by omega) (by omega)).mono fun t2 s2 ⟨h2, b1, b2, b3, b4, b5⟩ => ?_);have e2 : h2 = G := by omega
 rw [e2] at b2;refine Sat.bind (sat_accept (fun hm => ?_) (fun hm => ?_))
 ·show Sat (fieldM T d.beg1 t2 >>= fun t3 => d.body [wSelf] (tk T s).line >>= fun v => add T ⟨3, 1, ⟨#[]⟩, [], [t3, v], ((tk T s).line : Nat)⟩) (fwd s2) _;refine Sat.bind ((sat_field (X := 2) (Y := G + 1) (H := G) hT hd.beg1 (by omega) (b2.fwd hT (mark_no hm (by decide))) (b5.mono fun k _ e => by rcases e with rfl | rfl <;> rfl)).mono fun i s' ⟨h3, c1, c2, c3, c4, c5⟩ => ?_);have e3 : h3 = G := by omega
  rw [e3] at c2;have l3 : s2.at' + 1 < s'.at' := c4;exact sat_setFunc hT hd hl c2 (c5.mono fun _ _ e => .inr e) (b3.trans c3) (by omega) (by decide) (by simp [hself])
 ·exact sat_setFunc hT hd hl b2 b5 b3 b4 (by decide) rfl
end
end Go.Proofs.YtnkejjlidgnkkaaGreatDoor.Ps
namespace Go.Proofs.YtnkejjlidgnkkaaGreatDoor.Ps

open Go.Lib renaming hid → qh
open Go.Proofs.YtnkejjlidgnkkaaGreatDoor.Nd
open Go.Proofs.YtnkejjlidgnkkaaGreatDoor.Lex (Tok tokensL)
section
variable {T : List Tok} {nm : ByteArray -> Bool} {d : Fns} {H : Nat}
theorem sat_startPre (hT : TOk nm T) {s : St} (hh : s.at' < T.length) {Q : Unit -> St -> Prop} (h : ((tk T s).k = 1 \/ markOf (tk T s) = wOpen) -> Q () s) : Sat (startPre T) s Q := by
 unfold Sat startPre;by_cases h1 : (tk T s).k = 1 \/ markOf (tk T s) = wOpen
 ·rw [if_pos h1]; exact h h1
 ·rw [if_neg h1]; exact ⟨.inr rfl, line_pos hT hh⟩
def pT (k : Nat) (_ : Int) : Prop := Nd.isB [27, 28] k = true
theorem pref_target {k : Nat} (h : prefP k = true) (h1 : ¬ (isCall k = true \/ k = 38)) : Nd.isB [27, 28] k = true := by
 have hm : k ∈ [27, 28, 29, 30, 38] := List.contains_iff_mem.1 h;simp only [List.mem_cons, List.not_mem_nil, or_false] at hm;rcases hm with rfl | rfl | rfl | rfl | rfl
 ·rfl
 ·rfl
 ·exact absurd (.inl rfl) h1
 ·exact absurd (.inl rfl) h1
 ·exact absurd (.inr rfl) h1
theorem sat_target (hT : TOk nm T) {s : St} {i : Int} (hh : s.at' < T.length) (h : Has s.l i pP) {Q : Int -> St -> Prop} (hQ : Has s.l i pT -> Q i s) : Sat (targetM T i) s Q := by
 unfold targetM;refine Sat.bind (sat_kindAt ?_);by_cases h1 : isCall (Nd.at' s.l i).k = true \/ (Nd.at' s.l i).k = 38
 ·rw [if_pos h1]; exact sat_fail hT hh (.inr rfl)
 ·rw [if_neg h1]; exact Sat.pure (hQ ⟨h.1, pref_target h.2 h1⟩)
theorem sat_targetsGo (hT : TOk nm T) (hd : DOk T nm d H) : ∀ (f : Nat) (s s0 : St) (S : List (Int × Nat)) (ks : List Int) (h : Nat), h + 1 = H -> J T nm s (S ++ ks.map fun i => (i, h)) -> (∀ i ∈ ks, Has s.l i pT) -> 1 <= ks.length -> ks.length <= 200 -> Ext s0.l s.l -> s0.at' < s.at' -> T.length < f + s.at' ->
  Sat (targetsGo T d f ks) s fun ks' s' => J T nm s' (S ++ ks'.map fun i => (i, h)) /\ (∀ i ∈ ks', Has s'.l i pT) /\ 1 <= ks'.length /\ ks'.length <= 200 /\ Ext s0.l s'.l /\ s0.at' < s'.at'
 | 0, s, s0, S, ks, h, hh, hJ, h2, h1, hl, he, hlt, hf => by have := hJ.here; omega
 | f + 1, s, s0, S, ks, h, hh, hJ, h2, h1, hl, he, hlt, hf => by
  unfold targetsGo;refine Sat.bind (sat_accept (fun hm => ?_) (fun hm => ?_))
  ·have hJ1 := hJ.fwd hT (mark_no hm (by decide))
   show Sat (startPre T >>= fun _ => room T ks.length >>= fun _ => d.pre >>= fun p => targetM T p >>= fun t => targetsGo T d f (ks ++ [t])) (fwd s) _;refine Sat.bind (sat_startPre hT hJ1.here fun hp => Sat.bind (sat_room hT hJ1.here hl fun hc => Sat.bind ((hd.pre _ _ hJ1 hp).mono fun p s1 ⟨h', a1, a2, a3, a4, a5⟩ => Sat.bind (sat_target hT a2.here a5 fun ht => ?_))));have e : h' = h := by omega
   rw [e, map_snoc] at a2;have x : Ext s.l s1.l := a3;have l1 : s.at' + 1 < s1.at' := a4;have hl1 : (ks ++ [p]).length = ks.length + 1 := by rw [List.length_append]; rfl
   exact sat_targetsGo hT hd f s1 s0 S (ks ++ [p]) h hh a2 (all_snoc h2 x ht) (by omega) (by omega) (he.trans x) (by omega) (by omega)
  ·exact Sat.pure ⟨hJ, h2, h1, hl, he, hlt⟩
theorem kk_alls {l : List Nd} {ks : List Int} {p : Nat -> Bool} (h : ∀ i ∈ ks, Has l i fun k _ => p k = true) : ((kk l ks).map (·.1)).all p = true := kinds_all h
theorem kk_len (l : List Nd) (ks : List Int) : (kk l ks).length = ks.length := by unfold kk; rw [List.length_map]
theorem sat_prefix (hT : TOk nm T) (hd : DOk T nm d H) {s : St} {S : List (Int × Nat)} (hJ : J T nm s S) : Sat (prefixStat T d) s (One T nm S (H + 1) s pN) := by
 have hl := int_line hT hJ.here;unfold prefixStat;refine Sat.bind (sat_startPre hT hJ.here fun hp => Sat.bind (hd.beg _ _ hJ.here fun _ => Sat.bind (sat_line (Sat.bind ((hd.pre _ _ hJ hp).mono fun p s1 ⟨h, a1, a2, a3, a4, a5⟩ => Sat.bind (sat_kindAt ?_))))));by_cases h1 : isCall (Nd.at' s1.l p).k = true
 ·rw [if_pos h1];refine (sat_stat (s0 := s) (nd := ⟨4, 0, ⟨#[]⟩, [], [p], ((tk T s).line : Nat)⟩) (ks := [((Nd.at' s1.l p).k, (Nd.at' s1.l p).n)]) hT a2 rfl (ht1 a1) rfl (row_one (p := Nd.isB [29, 30]) hl rfl nm_nil rfl rfl ?_ (show (4 : Nat) <= 15 by decide)) (by rfl) a3 a4).mono fun i s' hh => hh.mono fun k _ e => ⟨e.2, by rw [e.1]; show 4 ≠ 12; decide⟩
  unfold isCall at h1;simp only [Bool.or_eq_true, beq_iff_eq] at h1;rcases h1 with e | e <;> rw [e] <;> rfl
 ·rw [if_neg h1];refine Sat.bind (sat_target hT a2.here a5 fun ht => Sat.bind ((sat_targetsGo hT hd _ s1 s S [p] h a1 a2 (fun i hi => by rw [List.mem_singleton.1 hi]; exact ht) (Nat.le_refl _) (by show 1 <= 200; decide) a3 a4 (by omega)).mono fun ks s2 ⟨b1, b2, b3, b4, b5, b6⟩ => Sat.bind (sat_expect hT b1.here fun hm => Sat.bind ((hd.exprs _ _ (b1.fwd hT (mark_no hm (by decide)))).mono fun es s3 ⟨⟨h3, c1, c2, c3, c4, c5⟩, e1, e2, e3⟩ => ?_))));have hne : es ≠ [] := fun e => by rw [e] at e1; exact absurd e1 (by decide)
  have e : h3 = h := by have := c1 hne; omega
  rw [e] at c2;have x : Ext s2.l s3.l := c3;have l1 : s2.at' + 1 < s3.at' := e3;have hlen : ((ks.length : Nat) : Int) = ((kk s2.l ks).length : Nat) := by rw [kk_len]
  refine (sat_stat (s0 := s) (nd := ⟨3, ks.length, ⟨#[]⟩, [], ks ++ es, ((tk T s).line : Nat)⟩) (K := (ks ++ es).map fun i => (i, h)) (ks := kk s2.l ks ++ kk s3.l es) hT (by rw [List.map_append, <- List.append_assoc]; exact c2) (map_fst _ h) (htm fun _ => a1) ?_ ?_ (by rfl) (b5.trans x) (by omega)).mono fun i s' hh => hh.mono fun k _ e => ⟨e.2, by rw [e.1]; show 3 ≠ 12; decide⟩
  ·show kk s3.l (ks ++ es) = _;rw [kk_append, kk_ext (fun i hi => (b2 i hi).1) x]
  ·show rowD nm ⟨3, (ks.length : Int), ⟨#[]⟩, [], [], ((tk T s).line : Nat)⟩ _ = true;rw [hlen];exact row_assign hl (by rw [kk_len]; exact b3) (by rw [kk_len]; exact b4) (kk_alls b2) (kk_alls c5) (by rw [kk_len]; exact e1) (by rw [kk_len]; exact e2)
theorem sat_statM (hT : TOk nm T) (hself : nm wSelf = true) (hd : DOk T nm d H) {s : St} {S : List (Int × Nat)} (hJ : J T nm s S) : Sat (statM T d) s (One T nm S (H + 1) s pN) := by
 have hl := int_line hT hJ.here;unfold statM;refine Sat.bind (sat_tok ?_);by_cases h1 : markOf (tk T s) = wWhile
 ·rw [if_pos h1]; exact sat_while hT hd hl (mark_no h1 (by decide)) hJ
 ·rw [if_neg h1];by_cases h2 : markOf (tk T s) = wDo
  ·rw [if_pos h2]; exact sat_do hT hd hl hJ
  ·rw [if_neg h2];by_cases h3 : markOf (tk T s) = wRepeat
   ·rw [if_pos h3]; exact sat_repeat hT hd hl (mark_no h3 (by decide)) hJ
   ·rw [if_neg h3];by_cases h4 : markOf (tk T s) = wIf
    ·rw [if_pos h4]; exact sat_if hT hd (mark_no h4 (by decide)) hJ
    ·rw [if_neg h4];by_cases h5 : markOf (tk T s) = wFor
     ·rw [if_pos h5]; exact sat_for hT hd (mark_no h5 (by decide)) hJ
     ·rw [if_neg h5];by_cases h6 : markOf (tk T s) = wFunction
      ·rw [if_pos h6]; exact sat_function hT hself hd (mark_no h6 (by decide)) hJ
      ·rw [if_neg h6];by_cases h7 : markOf (tk T s) = wLocal
       ·rw [if_pos h7]; exact sat_local hT hd (mark_no h7 (by decide)) hJ
       ·rw [if_neg h7];by_cases h8 : markOf (tk T s) = wColons \/ markOf (tk T s) = wGoto \/ markOf (tk T s) = wBreak
        ·rw [if_pos h8];exact sat_jump hT (by rcases h8 with h | h | h <;> exact mark_no h (by decide)) hJ
        ·rw [if_neg h8]; exact sat_prefix hT hd hJ
theorem sat_last (hT : TOk nm T) (hd : DOk T nm d H) {s : St} {S : List (Int × Nat)} (hk6 : (tk T s).k ≠ 6) (hJ : J T nm s S) : Sat (lastStat T d) s fun i s' => One T nm S (H + 1) s pS i s' /\ endsB (tk T s') = true := by
 have hl := int_line hT hJ.here;unfold lastStat;have fin : ∀ (i : Int) (s' : St), One T nm S (H + 1) s (fun k _ => k = 12 /\ statK k = true) i s' -> Sat (accept T wSemi >>= fun _ => endsM T >>= fun b => if b = true then Pure.pure i else fail T 40) s' fun i s' => One T nm S (H + 1) s pS i s' /\ endsB (tk T s') = true := by
  rintro i s' ⟨h, a1, a2, a3, a4, a5⟩;have go : ∀ s2, J T nm s2 (S ++ [(i, h)]) -> s2.l = s'.l -> s'.at' <= s2.at' -> Sat (endsM T >>= fun b => if b = true then Pure.pure i else fail T 40) s2 fun i s' => One T nm S (H + 1) s pS i s' /\ endsB (tk T s') = true := fun s2 hJ2 e2 l2 => by
   refine Sat.bind (sat_ends ?_);by_cases hx : endsB (tk T s2) = true
   ·rw [if_pos hx];exact Sat.pure ⟨⟨h, a1, hJ2, by rw [e2]; exact a3, by omega, by rw [e2]; exact a5.mono fun _ _ e => e.2⟩, hx⟩
   ·rw [if_neg hx]; exact sat_fail hT hJ2.here (.inr rfl)
  exact Sat.bind (sat_accept (fun hm => go _ (a2.fwd hT (mark_no hm (by decide))) rfl (Nat.le_succ _)) (fun hm => go _ a2 rfl (Nat.le_refl _)))
 refine Sat.bind (sat_line (Sat.bind (sat_next (Sat.bind (sat_tok ?_)))));have hJ1 := hJ.fwd hT hk6;refine Sat.bind ?_;by_cases h1 : markOf (tk T (fwd s)) = wSemi \/ endsB (tk T (fwd s)) = true
 ·rw [if_pos h1];refine Sat.pure (Sat.bind ((sat_stat (s := fwd s) (s0 := s) (nd := ⟨12, 0, ⟨#[]⟩, [], [], ((tk T s).line : Nat)⟩) (K := []) (ks := []) hT (by rw [List.append_nil]; exact hJ1) rfl hts0 rfl (row_ret hl rfl (by decide)) (by rfl) (Ext.refl _) (Nat.lt_succ_self _)).mono fun i s' h => fin i s' h))
 ·rw [if_neg h1];refine (hd.exprs _ _ hJ1).mono fun ks s1 ⟨⟨h, a1, a2, a3, a4, a5⟩, c1, c2, c3⟩ => Sat.bind ((sat_stat (s0 := s) (nd := ⟨12, 0, ⟨#[]⟩, [], ks, ((tk T s).line : Nat)⟩) (K := ks.map fun i => (i, h)) (ks := kk s1.l ks) hT a2 (map_fst _ h) (htm a1) rfl (row_ret hl (kk_all a5) (by rw [kk_len]; exact c2)) (by rfl) a3 (by have : s.at' + 1 < s1.at' := c3; omega)).mono fun i s' h => fin i s' h)
def Stats (T : List Tok) (s : St) (ks : List Int) : Prop := (∀ i ∈ ks, Has s.l i pS) /\ ((∀ i ∈ ks, Has s.l i fun k _ => k ≠ 12) \/ ((∀ i ∈ ks.dropLast, Has s.l i fun k _ => k ≠ 12) /\ endsB (tk T s) = true))
theorem sat_blockGo (hT : TOk nm T) (hself : nm wSelf = true) (hd : DOk T nm d H) : ∀ (f : Nat) (s s0 : St) (S : List (Int × Nat)) (ks : List Int), J T nm s (S ++ ks.map fun i => (i, H)) -> Stats T s ks -> Ext s0.l s.l -> s0.at' <= s.at' -> T.length < f + s.at' ->
  Sat (blockGo T d f ks) s fun ks' s' => J T nm s' (S ++ ks'.map fun i => (i, H)) /\ (∀ i ∈ ks', Has s'.l i pS) /\ (∀ i ∈ ks'.dropLast, Has s'.l i fun k _ => k ≠ 12) /\ Ext s0.l s'.l /\ s0.at' <= s'.at'
 | 0, s, s0, S, ks, hJ, hS, he, hlt, hf => by have := hJ.here; omega
 | f + 1, s, s0, S, ks, hJ, hS, he, hlt, hf => by
  unfold blockGo;refine Sat.bind (sat_tok ?_);by_cases h1 : endsB (tk T s) = true
  ·rw [if_pos h1];refine Sat.pure ⟨hJ, hS.1, ?_, he, hlt⟩;rcases hS.2 with h | h
   ·exact fun i hi => h i (List.dropLast_subset ks hi)
   ·exact h.1
  ·rw [if_neg h1];have h12 : ∀ i ∈ ks, Has s.l i fun k _ => k ≠ 12 := by
    rcases hS.2 with h | h
    ·exact h
    ·exact absurd h.2 h1
   by_cases h2 : markOf (tk T s) = wSemi
   ·rw [if_pos h2];exact Sat.bind (sat_next (sat_blockGo hT hself hd f _ s0 S ks (hJ.fwd hT (mark_no h2 (by decide))) ⟨hS.1, .inl h12⟩ he (by show s0.at' <= s.at' + 1; omega) (by show T.length < f + (s.at' + 1); omega)))
   ·rw [if_neg h2];by_cases h3 : markOf (tk T s) = wReturn
    ·rw [if_pos h3];refine Sat.bind ((sat_last hT hd (mark_no h3 (by decide)) hJ).mono fun k s1 ⟨⟨h, a1, a2, a3, a4, a5⟩, a6⟩ => ?_);have e : h = H := by omega
     rw [e, map_snoc] at a2;refine sat_blockGo hT hself hd f s1 s0 S (ks ++ [k]) a2 ⟨all_snoc hS.1 a3 a5, .inr ⟨fun i hi => ?_, a6⟩⟩ (he.trans a3) (by omega) (by omega);rw [List.dropLast_concat] at hi;exact (h12 i hi).ext a3
    ·rw [if_neg h3];refine Sat.bind ((sat_statM hT hself hd hJ).mono fun k s1 ⟨h, a1, a2, a3, a4, a5⟩ => ?_);have e : h = H := by omega
     rw [e, map_snoc] at a2;exact sat_blockGo hT hself hd f s1 s0 S (ks ++ [k]) a2 ⟨all_snoc hS.1 a3 (a5.mono fun _ _ e => e.1), .inl (all_snoc h12 a3 (a5.mono fun _ _ e => e.2))⟩ (he.trans a3) (by omega) (by omega)
theorem sat_block (hT : TOk nm T) (hself : nm wSelf = true) (hd : DOk T nm d H) {s : St} {S : List (Int × Nat)} (hJ : J T nm s S) :
  Sat (blockM T d) s fun i s' => ∃ h, h + 1 = H + 1 /\ J T nm s' (S ++ [(i, h)]) /\ Ext s.l s'.l /\ s.at' <= s'.at' /\ Has s'.l i fun k _ => k = 1 := by
 unfold blockM;refine Sat.bind (sat_line (Sat.bind ((sat_blockGo hT hself hd _ s s S [] (by simpa using hJ) ⟨fun i h => (by cases h), .inl fun i h => (by cases h)⟩ (Ext.refl _) (Nat.le_refl _) (by omega)).mono fun ks s1 ⟨a1, a2, a3, a4, a5⟩ => ?_)));refine sat_add hT (nd := ⟨1, 0, ⟨#[]⟩, [], ks, ((tk T s).line : Nat)⟩) (K := ks.map fun i => (i, H)) (h := H) a1 (map_fst ks H) (heights (k := 1) fun p => by unfold up; rw [if_pos (.inl rfl)]) ?_ fun i s2 j1 j2 j3 j4 j5 => ⟨H, rfl, j1, a4.trans j3, by omega, j4, by rw [j5]⟩
 show rowD nm ⟨1, 0, ⟨#[]⟩, [], [], ((tk T s).line : Nat)⟩ (kk s1.l ks) = true;refine row_block (int_line hT hJ.here) (kk_alls a2) ?_;rw [List.length_map, kk_len];have e : ((kk s1.l ks).map (·.1)).take (ks.length - 1) = (kk s1.l ks.dropLast).map (·.1) := by
  unfold kk;rw [<- List.map_take, <- List.map_take, List.dropLast_eq_take]
 rw [e, List.all_eq_true];intro x hx;unfold kk at hx;rw [List.map_map] at hx;obtain ⟨i, hi, rfl⟩ := List.mem_map.1 hx;have := (a3 i hi).2
 simpa using this
theorem fns_ok (hT : TOk nm T) (hself : nm wSelf = true) : ∀ k, DOk T nm (fns T k) k
 | 0 => ⟨fun s Q h _ => sat_fail hT h (.inl rfl), fun s Q h _ => sat_fail hT h (.inl rfl), fun b s S hJ => sat_fail hT hJ.here (.inl rfl), fun s S hJ _ => sat_fail hT hJ.here (.inl rfl), fun s S hJ => sat_fail hT hJ.here (.inl rfl), fun s S hJ => sat_fail hT hJ.here (.inl rfl), fun s S hJ _ => sat_fail hT hJ.here (.inl rfl), fun ns line s S hJ _ _ _ => sat_fail hT hJ.here (.inl rfl)⟩
 | k + 1 =>
  have hd := fns_ok hT hself k
  ⟨fun s Q h hQ => Sat.pure (hQ (by omega)), fun s Q h hQ => hd.beg s Q h fun h1 => hQ (by omega), fun b s S hJ => sat_expr hT hd b hJ, fun s S hJ hs => sat_operand hT hd hJ hs, fun s S hJ => sat_exprs hT hd hJ, fun s S hJ => sat_block hT hself hd hJ, fun s S hJ _ => sat_pre hT hd hJ, fun ns line s S hJ h0 hl hn => sat_body hT hd hJ h0 hl hn⟩
theorem text_right (hT : TOk nm T) (hself : nm wSelf = true) (h0 : 0 < T.length) : Sat (textM T) ⟨0, []⟩ fun r s' => RightP (rowD nm) s'.l r /\ r = (s'.l.length : Int) - 1 /\ ∃ h, Post (rowD nm) s'.l [(r, h)] := by
 unfold textM;have hJ : J T nm ⟨0, []⟩ [] := ⟨h0, by show 0 <= 4096; decide, .nil⟩;refine Sat.bind (((fns_ok hT hself 100).block _ [] hJ).mono fun b s1 ⟨h, a1, a2, a3, a4, a5⟩ => Sat.bind (sat_tok ?_));by_cases h6 : (tk T s1).k = 6
 ·rw [if_pos h6];refine sat_add hT (S := []) (nd := ⟨26, 1, ⟨#[]⟩, [], [b], 1⟩) (K := [(b, h)]) (h := h + 1) a2 rfl (hts1 (show h + up 26 0 <= h + 1 from by have := up1 26 0; omega)) ?_ fun i s2 j1 j2 j3 j4 j5 => ?_
  ·show rowD nm ⟨26, ((1 : Nat) : Int), ⟨#[]⟩, [], [], 1⟩ [((Nd.at' s1.l b).k, (Nd.at' s1.l b).n)] = true;rw [show (Nd.at' s1.l b).k = 1 from a5.2];exact row_func (by decide) (Nat.le_refl _) (by decide) rfl
  ·have hp : Post (rowD nm) s2.l [(i, h + 1)] := j1.post;exact ⟨hp.right j1.few (by omega) (by rw [j5]; exact ⟨rfl, rfl, rfl⟩), hp.root, _, hp⟩
 ·rw [if_neg h6]; exact sat_fail hT a2.here (.inr rfl)
end
end Go.Proofs.YtnkejjlidgnkkaaGreatDoor.Ps
namespace Go.Proofs.YtnkejjlidgnkkaaGreatDoor.Ps

open Go.Lib renaming hid → qh
open Go Go.RowKit
open Go.Proofs.YtnkejjlidgnkkaaGreatDoor.Nd
open Go.Proofs.YtnkejjlidgnkkaaGreatDoor.Lex (Tok tokensL)
theorem self_name : nmD wSelf = true := by kernel_rfl
theorem parse_right (s : ByteArray) :
  ((tokensL s.data.toList).2.1 = 0 /\ (parseL s).2.2.1 = 0 /\ (parseL s).2.2.2 = 0 /\ RightP (rowD nmD) (parseL s).1 (parseL s).2.1 /\ (parseL s).2.1 = ((parseL s).1.length : Int) - 1 /\ ∃ h, Post (rowD nmD) (parseL s).1 [((parseL s).2.1, h)])
  \/ ((tokensL s.data.toList).2.1 = 0 /\ (parseL s).1 = [] /\ (parseL s).2.1 = 0 /\ ((parseL s).2.2.1 = 3 \/ (parseL s).2.2.1 = 40) /\ 1 <= (parseL s).2.2.2)
  \/ ((tokensL s.data.toList).2.1 ≠ 0 /\ parseL s = ([], 0, (tokensL s.data.toList).2.1, (tokensL s.data.toList).2.2)) := by
 by_cases he : (tokensL s.data.toList).2.1 = 0
 ·have hT := tokens_ok _ he;obtain ⟨_, hpos, _⟩ := tokens_end _ he;have ht := text_right hT self_name hpos;unfold Sat at ht;have hp : parseL s = match textM (tokensL s.data.toList).1 ⟨0, []⟩ with
   | .ok r st => (st.l, r, 0, 0)
   | .no e line => ([], 0, e, line) := by
   unfold parseL;rw [if_neg (fun h => h he)];cases textM (tokensL s.data.toList).1 ⟨0, []⟩ <;> rfl
  cases hx : textM (tokensL s.data.toList).1 ⟨0, []⟩ with
  | ok r st =>
   rw [hx] at ht hp;rw [hp];exact .inl ⟨he, rfl, rfl, ht⟩
  | no e line =>
   rw [hx] at ht hp;rw [hp];exact .inr (.inl ⟨he, rfl, rfl, ht⟩)
 ·refine .inr (.inr ⟨he, ?_⟩);unfold parseL;rw [if_pos he]
end Go.Proofs.YtnkejjlidgnkkaaGreatDoor.Ps
namespace Go.Proofs.YtnkejjlidgnkkaaGreatDoor.Ps

open Go.Lib renaming hid → qh
open Go Go.RowKit
open Go.Proofs.YtnkejjlidgnkkaaGreatDoor.Lex
theorem linesF_le : ∀ (p : Nat) (l : List UInt8), linesF p l <= l.length
 | _, [] => Nat.le_refl _
 | p, c :: r => by
  rw [linesF, List.length_cons];have h1 := linesF_le 0 r;have h2 := linesF_le c.toNat r
  split
  ·split <;> omega
  ·omega
theorem lines_take (l : List UInt8) (k : Nat) (hk : k <= l.length) : linesOf (l.take k) <= k := by
 have := linesF_le 0 (l.take k);rw [List.length_take] at this;unfold linesOf;omega
theorem tokF_line (B : Nat) : ∀ (f line : Nat) (l : List UInt8) (acc : List Tok), line + l.length <= B -> (∀ x ∈ acc, x.line <= B) -> ∀ x ∈ (tokF f line l acc).1, x.line <= B
 | 0, _, _, _, _, _ => fun x hx => by cases hx
 | f + 1, line, l, acc, h, ha => by
  have hb := blanks_le l;have h1 := lines_take l (blanks l) hb;have hl : (l.drop (blanks l)).length = l.length - blanks l := List.length_drop;rw [tokF]
  split
  ·intro x hx;rcases List.mem_append.1 hx with hx | hx
   ·exact ha x hx
   ·rw [List.mem_singleton] at hx; rw [hx]; show line + _ <= B; omega
  ·split
   ·intro x hx; cases hx
   ·rename_i k hk;have h2 := note_len hk;have h3 := lines_take (l.drop (blanks l)) (k + 1) h2;refine tokF_line B f _ _ acc ?_ ha;rw [List.length_drop]; omega
   ·split
    ·rename_i he;have h2 := (one_len he).2;have h3 := lines_take (l.drop (blanks l)) (oneL (l.drop (blanks l))).len h2;generalize oneL (l.drop (blanks l)) = O at *;refine tokF_line B f _ _ _ ?_ ?_
     ·rw [List.length_drop]; omega
     ·intro x hx;rcases List.mem_append.1 hx with hx | hx
      ·exact ha x hx
      ·rw [List.mem_singleton] at hx; rw [hx]; show line + _ <= B; omega
    ·intro x hx; cases hx
theorem tokens_line (l : List UInt8) : ∀ x ∈ (tokensL l).1, x.line <= 65536 := by
 unfold tokensL
 split
 ·intro x hx; cases hx
 ·exact tokF_line 65536 _ 1 l [] (by omega) (fun x hx => by cases hx)
theorem wrap_fits (n : Int) : Num.In64 (wrap64 n) := by unfold Num.In64 wrap64; omega
theorem sign_fits (neg : Bool) (u : Nat) : Num.In64 (Num.signN neg u) := by
 unfold Num.signN
 split <;> exact wrap_fits _
theorem zero_fits : Num.In64 0 := by unfold Num.In64; omega
theorem hex_fits (l : List UInt8) (neg : Bool) : Num.In64 (Num.hexOf l neg).1 := by
 unfold Num.hexOf
 split
 ·exact zero_fits
 ·exact sign_fits neg _
theorem dec_fits (l : List UInt8) (neg : Bool) : Num.In64 (Num.decOf l neg).1 := by
 unfold Num.decOf
 split
 ·split
  ·exact zero_fits
  ·exact sign_fits neg _
 ·exact zero_fits
theorem rest_fits (s : ByteArray) (p hi : Nat) (neg : Bool) : Num.In64 (Num.restOf s p hi neg).1 := by
 unfold Num.restOf
 split
 ·exact hex_fits _ _
 ·exact dec_fits _ _
theorem parse_fits (s : ByteArray) : Num.In64 (Num.parseOf s).1 := rest_fits _ _ _ _
theorem number_fits (s : ByteArray) : Num.In64 (numberN s) := by
 unfold numberN
 split
 ·exact parse_fits s
 ·exact zero_fits
theorem tok_fits (l : List UInt8) : Num.In64 (oneL l).n := by
 unfold oneL
 split
 ·exact zero_fits
 ·split
  ·exact number_fits _
  ·split
   ·exact zero_fits
   ·exact zero_fits
   ·split
    ·exact zero_fits
    ·split
     ·exact zero_fits
     ·unfold signO
      split
      ·split <;> exact zero_fits
      ·exact zero_fits
theorem tokF_num : ∀ (f line : Nat) (l : List UInt8) (acc : List Tok), (∀ x ∈ acc, Num.In64 x.n) -> ∀ x ∈ (tokF f line l acc).1, Num.In64 x.n
 | 0, _, _, _, _ => fun x hx => by cases hx
 | f + 1, line, l, acc, ha => by
  rw [tokF]
  split
  ·intro x hx;rcases List.mem_append.1 hx with hx | hx
   ·exact ha x hx
   ·rw [List.mem_singleton] at hx; rw [hx]; exact zero_fits
  ·split
   ·intro x hx; cases hx
   ·exact tokF_num f _ _ acc ha
   ·split
    ·have h1 := tok_fits (l.drop (blanks l));generalize oneL (l.drop (blanks l)) = O at *;refine tokF_num f _ _ _ ?_;intro x hx;rcases List.mem_append.1 hx with hx | hx
     ·exact ha x hx
     ·rw [List.mem_singleton] at hx; rw [hx]; exact h1
    ·intro x hx; cases hx
theorem tokens_fit (l : List UInt8) : ∀ x ∈ (tokensL l).1, Num.In64 x.n /\ x.line <= 65536 := fun x hx => by
 refine ⟨?_, tokens_line l x hx⟩;unfold tokensL at hx
 split at hx
 ·cases hx
 ·exact tokF_num _ 1 l [] (fun x hx => by cases hx) x hx
end Go.Proofs.YtnkejjlidgnkkaaGreatDoor.Ps
