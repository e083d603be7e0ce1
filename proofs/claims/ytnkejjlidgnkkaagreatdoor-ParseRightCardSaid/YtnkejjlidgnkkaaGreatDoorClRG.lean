/-
  A part of the proof.
-/
import Derived.Lib.Hide
import Derived.Test.YtnkejjlidgnkkaaGreatDoorClRF
set_option maxRecDepth 100000
set_option maxHeartbeats 40000000
namespace Go.Proofs.YtnkejjlidgnkkaaGreatDoor.Ps

open Go.Lib renaming hid → qh
open Go Go.RowKit Go.ChangeShapes Go.WideShapes Go.Shelf
open Go.Proofs.YtnkejjlidgnkkaaGreatDoor.Nd
open Go.Proofs.YtnkejjlidgnkkaaGreatDoor.Lex (Tok tokensL TokReads)
theorem infoI : (Tryz.prog.info? 3).map (fun i => (i.zero, i.size, i.bytes)) = some (some (.int .i64 0), 1, 8) := by kernel_rfl
theorem infoS : (Tryz.prog.info? 9).map (fun i => (i.zero, i.size, i.bytes)) = some (some (.string ⟨#[]⟩), 1, 16) := by kernel_rfl
section
variable {T : List Tok} {tv : Value} {P base : Nat} {s : St} {nv : NR}
theorem loc_more {w w' : World} {b : Nat} {e : TypeId} {kv v' : Value} {xs ys : List Value} (h : PAt T tv P base s nv w) (L : Loc w b nv e kv xs) (ho : w'.ownsRow b e 1 v' (xs.length + ys.length) (xs ++ ys)) (hat : v'.ownBlock = kv.ownBlock \/ ∃ k, v'.ownBlock = some k /\ w.heap.size <= k) : Loc w' b nv e v' (xs ++ ys) := by
 refine ⟨by rw [List.length_append]; exact ho, fun r hr g hg hh => ?_⟩;rcases hat with e | ⟨k, e, hk⟩
 ·exact L.off r hr g (e ▸ hg) hh
 ·rw [e] at hg;have : k = g := Option.some.inj hg;have := sub_lt (h.nodes.2 r hr) hh;omega
theorem wpList_append_kid {w : World} {ops : Array Go.Oper} {rest : List Go.Oper} {o : Go.Oper} {a : Act} {Q : Exit -> Act -> World -> Prop} (hgd : o.guard = none) (x y : Operand)
  (ho : o.op = .call { callee := .builtin .append, args := #[x, y], argTypes := #[33, 33] })
  (h : PAt T tv P base s nv w) {b : Nat} (hlow : Low tv P b) (hb : b <= w.heap.size) (kv : Value) (ks : List Int) (k : Int) (hs : a.eval x = kv) (L : Loc w b nv 3 kv (intsV ks))
  (g : Nat) (hx : a.eval y = .slice (some ⟨g, 0, none⟩) 1 1) (hgw : g = w.heap.size) (hl : ks.length <= 1000000)
  (hq : ∀ v' w', Loc w' b nv 3 v' (intsV (ks ++ [k])) -> PAt T tv P base s nv w' -> Turn P nv (Xv kv) w w' nv -> wpList Tryz.prog ops Q rest (a.put o.dst v') w') :
  wpList Tryz.prog ops Q (o :: rest) a (w.alloc (.cells #[.int .i64 k] 3)) := by
 subst hgw;obtain ⟨i, hi, hz, hsize, hby⟩ := info_parts infoI;have hal : Below w.heap.size w (w.alloc (.cells #[.int .i64 k] 3)) := (Below.refl _ _).alloc (Nat.le_refl _) _;have L1 := L.below hal;have hn : (intsV ks).length = ks.length := by unfold intsV; rw [List.length_map]
 refine wpList_append_own_at (w := w.alloc (.cells #[.int .i64 k] 3)) hgd x y 33 ho b 3 i _ 1 8 Tryz.underlying33 hi hz hsize hby rfl (by decide) kv (intsV ks).length (intsV ks) hs L1.own ⟨w.heap.size, 0, none⟩ 1 1 [.int .i64 k] hx rfl (cell_one_new _ _ _) (fun u hu => by simp at hu; subst hu; rfl) (by unfold maxLen; omega) (by omega) (by simp; omega) (fun v' w' h1 h2 _ h4 => ?_);have hP1 := h.below hal;have h4' : v'.ownBlock = kv.ownBlock \/ ∃ g, v'.ownBlock = some g /\ (w.alloc (.cells #[.int .i64 k] 3)).heap.size <= g := by
  rcases h4 with e | e
  ·exact .inl e
  ·exact .inr ⟨_, e, Nat.le_refl _⟩
 refine hq v' w' ?_ (hP1.grown L1 hlow (by decide) h2) ((Turn.of_below hal).trans' (Turn.grown h2) fun _ hi => .inl hi);have := loc_more (ys := [.int .i64 k]) hP1 L1 h1 h4';unfold intsV at this ⊢;rw [List.map_append];exact this
theorem wpList_append_name {w : World} {ops : Array Go.Oper} {rest : List Go.Oper} {o : Go.Oper} {a : Act} {Q : Exit -> Act -> World -> Prop} (hgd : o.guard = none) (x y : Operand)
  (ho : o.op = .call { callee := .builtin .append, args := #[x, y], argTypes := #[24, 24] })
  (h : PAt T tv P base s nv w) {b : Nat} (hlow : Low tv P b) (hb : b <= w.heap.size) (kv : Value) (ks : List ByteArray) (k : ByteArray) (hs : a.eval x = kv) (L : Loc w b nv 9 kv (textsV ks))
  (g : Nat) (hx : a.eval y = .slice (some ⟨g, 0, none⟩) 1 1) (hgw : g = w.heap.size) (hl : ks.length <= 1000000)
  (hq : ∀ v' w', Loc w' b nv 9 v' (textsV (ks ++ [k])) -> PAt T tv P base s nv w' -> Turn P nv (Xv kv) w w' nv -> (∀ i, Xv v' i -> Xv kv i \/ w.heap.size <= i) -> wpList Tryz.prog ops Q rest (a.put o.dst v') w') :
  wpList Tryz.prog ops Q (o :: rest) a (w.alloc (.cells #[.string k] 9)) := by
 subst hgw;obtain ⟨i, hi, hz, hsize, hby⟩ := info_parts infoS;have hal : Below w.heap.size w (w.alloc (.cells #[.string k] 9)) := (Below.refl _ _).alloc (Nat.le_refl _) _;have L1 := L.below hal;have hn : (textsV ks).length = ks.length := by unfold textsV; rw [List.length_map]
 refine wpList_append_own_at (w := w.alloc (.cells #[.string k] 9)) hgd x y 24 ho b 9 i _ 1 16 Tryz.underlying24 hi hz hsize hby rfl (by decide) kv (textsV ks).length (textsV ks) hs L1.own ⟨w.heap.size, 0, none⟩ 1 1 [.string k] hx rfl (cell_one_new _ _ _) (fun u hu => by simp at hu; subst hu; rfl) (by unfold maxLen; omega) (by omega) (by simp; omega) (fun v' w' h1 h2 _ h4 => ?_);have hP1 := h.below hal;have h4' : v'.ownBlock = kv.ownBlock \/ ∃ g, v'.ownBlock = some g /\ (w.alloc (.cells #[.string k] 9)).heap.size <= g := by
  rcases h4 with e | e
  ·exact .inl e
  ·exact .inr ⟨_, e, Nat.le_refl _⟩
 refine hq v' w' ?_ (hP1.grown L1 hlow (by decide) h2) ((Turn.of_below hal).trans' (Turn.grown h2) fun _ hi => .inl hi) (fun i hi => by
  rcases h4 with e | e
  ·left
   unfold Xv at hi ⊢;rw [<- e];exact hi
  ·right
   unfold Xv at hi;rw [e] at hi;have := Option.some.inj hi;simp at this;omega)
 have := loc_more (ys := [.string k]) hP1 L1 h1 h4';unfold textsV at this ⊢;rw [List.map_append];exact this
theorem wpList_append_kids {w : World} {ops : Array Go.Oper} {rest : List Go.Oper} {o : Go.Oper} {a : Act} {Q : Exit -> Act -> World -> Prop} (hgd : o.guard = none) (x y : Operand)
  (ho : o.op = .call { callee := .builtin .append, args := #[x, y], argTypes := #[33, 33] })
  (h : PAt T tv P base s nv w) {b b2 : Nat} (hlow : Low tv P b) (hb : b <= w.heap.size) (kv mv : Value) (ks ms : List Int) (hs : a.eval x = kv) (L : Loc w b nv 3 kv (intsV ks)) (hx : a.eval y = mv) (L2 : Loc w b2 nv 3 mv (intsV ms)) (hne : ms ≠ [])
  (hl : ks.length + ms.length <= 1000000)
  (hq : ∀ v' w', Loc w' b nv 3 v' (intsV (ks ++ ms)) -> PAt T tv P base s nv w' -> Turn P nv (Xv kv) w w' nv -> wpList Tryz.prog ops Q rest (a.put o.dst v') w') :
  wpList Tryz.prog ops Q (o :: rest) a w := by
 obtain ⟨i, hi, hz, hsize, hby⟩ := info_parts infoI;have hn : (intsV ks).length = ks.length := by unfold intsV; rw [List.length_map]
 have hm : (intsV ms).length = ms.length := by unfold intsV; rw [List.length_map]
 have hpos : 0 < ms.length := List.length_pos_iff.2 hne;rcases L2.own.2 with ⟨_, e⟩ | ⟨g, cap, cur, rfl, _, hh, _⟩
 ·omega
 ·refine wpList_append_own_at (w := w) hgd x y 33 ho b 3 i _ 1 8 Tryz.underlying33 hi hz hsize hby rfl (by decide) kv (intsV ks).length (intsV ks) hs L.own ⟨g, 0, none⟩ _ cap (intsV ms) hx (by rw [Nat.mul_one]) (L2.own.cells (g := g) rfl) (fun u hu => by unfold intsV at hu; obtain ⟨k, _, rfl⟩ := List.mem_map.1 hu; rfl) (by unfold maxLen; omega) (by omega) hb (fun v' w' h1 h2 _ h4 => ?_);have h4' : v'.ownBlock = kv.ownBlock \/ ∃ k, v'.ownBlock = some k /\ w.heap.size <= k := by
   rcases h4 with e | e
   ·exact .inl e
   ·exact .inr ⟨_, e, Nat.le_refl _⟩
  refine hq v' w' ?_ (h.grown L hlow (by decide) h2) (Turn.grown h2);have := loc_more (ys := intsV ms) h L h1 h4';unfold intsV at this ⊢;rw [List.map_append];exact this
end
theorem loc_is {w : World} {b n : Nat} {nv : NR} {e : TypeId} {kv : Value} {xs : List Value} (L : Loc w b nv e kv xs) (hn : xs.length = n) : ∃ a c, kv = .slice a n c := by
 obtain ⟨a, c, h⟩ := own_slice L.own;exact ⟨a, c, by rw [h, hn]⟩
theorem texts_len (ns : List ByteArray) : (textsV ns).length = ns.length := by unfold textsV; rw [List.length_map]
theorem ints_len (ns : List Int) : (intsV ns).length = ns.length := by unfold intsV; rw [List.length_map]
theorem ints_snoc (ks : List Int) (k : Int) : (intsV (ks ++ [k])).length = ks.length + 1 := by rw [ints_len, List.length_append]; rfl
theorem texts_snoc (ks : List ByteArray) (k : ByteArray) : (textsV (ks ++ [k])).length = ks.length + 1 := by rw [texts_len, List.length_append]; rfl
def vNames (b m : Nat) (nm : Value) (a : List ByteArray) (v : Value) (nv : NR) (w : World) : Prop := Loc w b nv 9 v (textsV a) /\ (∀ i, Xv v i -> Xv nm i \/ m <= i) /\ a.length <= 200
end Go.Proofs.YtnkejjlidgnkkaaGreatDoor.Ps
namespace Go.Proofs.YtnkejjlidgnkkaaGreatDoor.Ps

open Go.Lib renaming hid → qh
open Go Go.RowKit Go.ChangeShapes Go.WideShapes Go.Shelf
open Go.Proofs.YtnkejjlidgnkkaaGreatDoor.Nd
open Go.Proofs.YtnkejjlidgnkkaaGreatDoor.Lex (Tok tokensL TokReads)
section
variable {T : List Tok} {tv : Value} {P base : Nat} {s : St} {nv : NR} {d : Fns} {L : Int}
theorem oneMore_do {ns : List ByteArray} {nm : Value} {b : Nat} (hE : EndT T) (hlow : Low tv P b) (hlen : ns.length <= 200) (w : World) (h : PAt T tv P base s nv w) (hb : b <= w.heap.size) (hnm : Loc w b nv 9 nm (textsV ns)) : Calls Tryz.prog 172 #[.pointer (some ⟨P, 0, none⟩), nm] w (Does T tv P base (oneMore T ns) s nv (Xv nm) w (vNames b w.heap.size nm) 1) := by
 have HNM := qh hnm;have hlen2 : ∀ (s : St) (a : Unit) (s' : St), room T ns.length s = .ok a s' -> ns.length ≠ 200 := fun s a s' h e => by rw [room_f e] at h; cases h
 have HP0 := qh h;have HT0 := qh (show Turn P nv (Xv nm) w w nv from Turn.of_below (Below.refl _ _));obtain ⟨ao, co, rfl⟩ := loc_is hnm (texts_len ns);clear h hnm;go_enter Tryz.func172, Tryz.ntmps172;go_wp2_with fail;refine (peek_do _ HP0.out).mono ?_;intro e w1 hd1;rcases hidR HT0 hd1 with ⟨a1, s1, v1, nv1, HX1, rfl, hv1, HP1, HT1, hT1, HL1⟩ | ⟨er, l1, nv1, HX1, rfl, HT1⟩;rotate_left
 ·clear hd1;go_wp2_with fail;exact ⟨rfl, does_no (by simp only [oneMore, runs, HX1.out]) HT1.out⟩
 obtain rfl : v1 = .string a1 := hv1;have HNM_1 := qh (HNM.out.turn HP0.out hT1 not_none (by decide) (by decide));clear hd1 hT1;go_wp2_with fail;refine (room_do ns.length _ HP1.out hlen).mono ?_;intro e w2 hd2;rcases hidR HT1 hd2 with ⟨a2, s2, v2, nv2, HX2, rfl, hv2, HP2, HT2, hT2, HL2⟩ | ⟨er, l2, nv2, HX2, rfl, HT2⟩;rotate_left
 ·clear hd2;go_wp2_with fail;exact ⟨rfl, does_no (by simp only [oneMore, runs, HX1.out, HX2.out]) HT2.out⟩
 obtain rfl : v2 = .tuple #[] := hv2;have HNM_2 := qh (HNM_1.out.turn HP1.out hT2 not_none (by decide) (by decide));clear hd2 hT2;go_wp2_with fail;refine (name_do hE _ HP2.out).mono ?_;intro e w3 hd3;rcases hidR HT2 hd3 with ⟨a3, s3, v3, nv3, HX3, rfl, hv3, HP3, HT3, hT3, HL3⟩ | ⟨er, l3, nv3, HX3, rfl, HT3⟩;rotate_left
 ·clear hd3;go_wp2_with fail;exact ⟨rfl, does_no (by simp only [oneMore, runs, HX1.out, HX2.out, HX3.out]) HT3.out⟩
 obtain rfl : v3 = .string a3 := hv3;have HNM_3 := qh (HNM_2.out.turn HP2.out hT3 not_none (by decide) (by decide));clear hd3 hT3;go_wp2_with (at_builtin; go_loud (refine wpList_append_name rfl (.tmp 11) (.tmp 14) rfl HP3.out hlow (Nat.le_trans hb HT3.out.size) _ ns a3 rfl HNM_3.out _ rfl rfl (by omega) ?_));intro v4 w4 hv4 hP4 hT4 ho4
 first | obtain ⟨ao4, co4, rfl⟩ := loc_is hv4 (texts_snoc _ _) | obtain ⟨ao4, co4, rfl⟩ := loc_is hv4 (texts_len _)
 have HV4 := qh hv4;have HO4 := qh ho4;have HP4 := qh hP4;have HT4 := qh (HT3.out.trans' hT4 (fun i hi => .inl hi));clear hv4 hP4 hT4 ho4;go_wp2_with fail;go_ret;exact does_ok (a := ns ++ [a3]) (s' := s3) (by simp only [oneMore, runs, HX1.out, HX2.out, HX3.out]) ⟨HV4.out, (fun i hi => (HO4.out i hi).imp id fun h => Nat.le_trans HT3.out.size h), by rw [List.length_append, List.length_singleton]; have := hlen2 _ _ _ HX2.out; omega⟩ HP4.out HT4.out (by have := HL1.out; have := HL2.out; have := HL3.out; omega)
theorem names_do (hE : EndT T) (w : World) (h : PAt T tv P base s nv w) : Calls Tryz.prog 142 #[.pointer (some ⟨P, 0, none⟩)] w (Does T tv P base (names T) s nv Xn w (vNames w.heap.size w.heap.size (.slice none 0 0)) 1) := by
 have HLOW := qh h.lows;have HP0 := qh h;have HT0 := qh (show Turn P nv Xn w w nv from Turn.of_below (Below.refl _ _));clear h;go_enter Tryz.func142, Tryz.ntmps142;go_wp2_with fail;refine (oneMore_do (ns := []) (b := w.heap.size) hE HLOW.out (by decide) _ HP0.out HT0.out.size (Loc.nil _ _ _ _)).mono ?_;intro e w1 hd1;rcases does_cases hd1 with ⟨a1, s1, v1, nv1, hx1, rfl, hv1, hP1, hT1, hl1⟩ | ⟨er, l1, nv1, hx1, rfl, hT1⟩;rotate_left
 ·have HX1 := qh hx1;have HT1 := qh (HT0.out.trans' hT1 (fun i hi => .inl (nil_X hi)));clear hd1 hx1 hT1;go_wp2_with fail;exact ⟨rfl, does_no (by simp only [names, runs, HX1.out]) HT1.out⟩
 obtain ⟨hv1, ho1, hn1⟩ := hv1;obtain ⟨ao1, co1, rfl⟩ := loc_is hv1 (texts_len _);have HV1 := qh hv1;have HO1 := qh ho1;have HN1 := qh hn1;have HX1 := qh hx1;have HP1 := qh hP1;have HT1 := qh (HT0.out.trans' hT1 (fun i hi => .inl (nil_X hi)));have HL1 := qh hl1;clear hd1 hx1 hP1 hT1 hl1 hv1 ho1 hn1;go_wp2_with fail;go_loopg [3] (T.length + 1) (fun r nm wr => ∃ (f : Nat) (s' : St) (nv' : NR) (ns : List ByteArray), r = f /\ T.length < f + s'.at' /\ PAt T tv P base s' nv' wr /\ Turn P nv Xn w wr nv' /\ Loc wr w.heap.size nv' 9 nm (textsV ns) /\ ns.length <= 200 /\ s.at' + 1 <= s'.at' /\ names T s = namesGo T f ns s')
 case atStart =>
  exact ⟨T.length + 1, s1, nv1, _, rfl, by omega, HP1.out, HT1.out, HV1.out, HN1.out, (by have := HL1.out; omega), (by simp only [names, runs, HX1.out])⟩
 case round =>
  obtain ⟨f2, s2, nv2, ns2, hq2, hf2, hP2, hT2, hnm, hn, hl, hm2⟩ := hrel;obtain ⟨f3, rfl⟩ : ∃ k, f2 = k + 1 := ⟨f2 - 1, by have := hP2.here; omega⟩;subst hq2;have HP2 := qh hP2;have HT2 := qh hT2;have HM2 := qh hm2;have HF2 := qh hf2;have HNM := qh hnm;have HN := qh hn;have HL := qh hl;clear hP2 hT2 hm2 hf2 hnm hn hl;by_cases hc4 : markOf (tk T s2) = wComma
  ·have HC4 := qh hc4;clear hc4;go_wp2_with fail;refine (accept_y hE _ HP2.out HC4.out (by decide)).mono ?_;intro e w5 hd5;rcases hidR HT2 hd5 with ⟨a5, s5, v5, nv5, HX5, rfl, hv5, HP5, HT5, hT5, HL5⟩ | ⟨er, l5, nv5, HX5, rfl, HT5⟩;rotate_left
   ·clear hd5;go_wp2_with fail;exact ⟨rfl, does_no (HM2.out.trans (by simp only [namesGo, runs, HX5.out])) HT5.out⟩
   obtain ⟨rfl, rfl⟩ := hv5;have hnm_5 := qh (HNM.out.turn HP2.out hT5 not_none (by decide) (by decide));clear hd5 hT5;go_wp2_with fail;refine (oneMore_do hE HLOW.out HN.out _ HP5.out HT5.out.size hnm_5.out).mono ?_;intro e w6 hd6;rcases does_cases hd6 with ⟨a6, s6, v6, nv6, hx6, rfl, hv6, hP6, hT6, hl6⟩ | ⟨er, l6, nv6, hx6, rfl, hT6⟩;rotate_left
   ·have HX6 := qh hx6;have HT6 := qh (HT5.out.trans' hT6 (own_above hnm_5.out));clear hd6 hx6 hT6;go_wp2_with fail;exact ⟨rfl, does_no (HM2.out.trans (by simp only [namesGo, runs, HX5.out, HX6.out])) HT6.out⟩
   obtain ⟨hv6, ho6, hn6⟩ := hv6;obtain ⟨ao6, co6, rfl⟩ := loc_is hv6 (texts_len _);have HV6 := qh hv6;have HO6 := qh ho6;have HN6 := qh hn6;have HX6 := qh hx6;have HP6 := qh hP6;have HT6 := qh (HT5.out.trans' hT6 (own_above hnm_5.out));have HL6 := qh hl6;clear hd6 hx6 hP6 hT6 hl6 hv6 ho6 hn6;go_wp2_with fail;go_roundg f3
   case measure => omega
   case rel => exact ⟨f3, s6, nv6, _, rfl, (by have := HF2.out; have := HL.out; have := HL5.out; have := HL6.out; omega), HP6.out, HT6.out, HV6.out, HN6.out, (by have := HL.out; have := HL5.out; have := HL6.out; omega), (HM2.out.trans (by simp only [namesGo, runs, HX5.out, HX6.out]))⟩
  ·have HC4 := qh hc4;clear hc4;go_wp2_with fail;refine (accept_n _ HP2.out HC4.out).mono ?_;intro e w7 hd7;rcases hidR HT2 hd7 with ⟨a7, s7, v7, nv7, HX7, rfl, hv7, HP7, HT7, hT7, HL7⟩ | ⟨er, l7, nv7, HX7, rfl, HT7⟩;rotate_left
   ·clear hd7;go_wp2_with fail;exact ⟨rfl, does_no (HM2.out.trans (by simp only [namesGo, runs, HX7.out])) HT7.out⟩
   obtain ⟨rfl, rfl⟩ := hv7;have hnm_7 := qh (HNM.out.turn HP2.out hT7 not_none (by decide) (by decide));clear hd7 hT7;go_wp2_with fail;go_ret;exact does_ok (a := _) (s' := s7) (HM2.out.trans (by simp only [namesGo, runs, HX7.out])) ⟨hnm_7.out, own_above hnm_7.out, HN.out⟩ HP7.out HT7.out (by have := HF2.out; have := HL.out; have := HL7.out; omega)
end
end Go.Proofs.YtnkejjlidgnkkaaGreatDoor.Ps
namespace Go.Proofs.YtnkejjlidgnkkaaGreatDoor.Ps

open Go.Lib renaming hid → qh
open Go Go.RowKit Go.ChangeShapes Go.WideShapes Go.Shelf
open Go.Proofs.YtnkejjlidgnkkaaGreatDoor.Nd
open Go.Proofs.YtnkejjlidgnkkaaGreatDoor.Lex (Tok tokensL TokReads)
theorem al (w : World) (o : Obj) : Below w.heap.size w (w.alloc o) := (Below.refl _ _).alloc (Nat.le_refl _) _
theorem fresh_row {T : List Tok} {tv : Value} {P base : Nat} {s : St} {nv : NR} {w : World} (h : PAt T tv P base s nv w) {b n : Nat} {e : TypeId} (hb : b <= w.heap.size) (cs : Array Value) (xs : List Value) (hcs : cs.toList = xs) (hn : cs.size = n) (hm : n <= 1000) : Loc (w.alloc (.cells cs e)) b nv e (.slice (some ⟨w.heap.size, 0, none⟩) n n) xs :=
 hcs ▸ Loc.fresh h (hit rfl) (Nat.le_refl _) hb hn (by unfold maxLen; omega)
structure Blk (P B : Nat) (o : Obj) (nv : NR) (w : World) : Prop where
 at' : w.heap[B]? = some o
 ne : B ≠ P
 own : nv.v.ownBlock ≠ some B
theorem Blk.new {T : List Tok} {tv : Value} {P base : Nat} {s : St} {nv : NR} {w : World} (h : PAt T tv P base s nv w) {cs : Array Value} {e : TypeId} : Blk P w.heap.size (.cells cs e (0, 0)) nv (w.alloc (.cells cs e)) := by
 refine ⟨hit rfl, fun e => ?_, fun e => ?_⟩
 ·have := lt_of_heap h.cells; omega
 ·have := (h.nodes.1.lt _ e).2; omega
theorem Blk.lt {P B : Nat} {o : Obj} {nv : NR} {w : World} (h : Blk P B o nv w) : B < w.heap.size := lt_of_heap h.at'
theorem Blk.turn {P B : Nat} {o : Obj} {nv nv' : NR} {X : Nat -> Prop} {A C : World} (h : Blk P B o nv A) (k : Turn P nv X A C nv') (hX : ¬ X B) : Blk P B o nv' C := by
 refine ⟨(k.keep B h.lt h.ne h.own hX).trans h.at', h.ne, fun e => ?_⟩;rcases k.row with e2 | ⟨x, e2, hx⟩
 ·exact h.own (e2 ▸ e)
 ·rw [e2] at e;have := Option.some.inj e;have := h.lt;omega
theorem Blk.below {P B : Nat} {o : Obj} {nv : NR} {A C : World} (h : Blk P B o nv A) (k : Below A.heap.size A C) : Blk P B o nv C := ⟨(k.block B h.lt).trans h.at', h.ne, h.own⟩
theorem Blk.set {P B j : Nat} {cs : Array Value} {e : TypeId} {nv : NR} {w : World} (h : Blk P B (.cells cs e (0, 0)) nv w) (v : Value) : Blk P B (.cells (cs.setIfInBounds j v) e (0, 0)) nv (w.setCell ⟨B, j, none⟩ v) :=
 ⟨Joins.block_setCell (i := j) h.at' v, h.ne, h.own⟩
theorem no_Xn {B : Nat} : ¬ Xn B := id
theorem Blk.apart {P B b : Nat} {cs : Array Value} {e e2 : TypeId} {nv : NR} {w : World} {fr : Nat × Nat} {kv : Value} {xs : List Value} (h : Blk P B (.cells cs e fr) nv w) (L : Loc w b nv e2 kv xs) (hne : e ≠ e2) : ¬ Xv kv B := by
 intro hx;rcases L.own.2 with ⟨rfl, _⟩ | ⟨g, cap, cur, rfl, _, hh, _⟩
 ·simp [Xv, Value.ownBlock] at hx
 ·have : g = B := by simpa [Xv, Value.ownBlock] using hx
  rw [this, h.at'] at hh;cases hh;exact hne rfl
theorem own_far {w : World} {b n size B j : Nat} {e : TypeId} {v u : Value} {xs : List Value} (h : w.ownsRow b e size v n xs) (hB : v.ownBlock ≠ some B) : (w.setCell ⟨B, j, none⟩ u).ownsRow b e size v n xs := by
 refine ⟨h.1, ?_⟩;rcases h.2 with h2 | ⟨g, cap, cur, hv, hg, hh, r⟩
 ·exact .inl h2
 ·refine .inr ⟨g, cap, cur, hv, hg, ?_, r⟩;rw [Below.heap_setCell _ _ _ _ (show g ≠ B from fun e => hB (by rw [hv, <- e]; rfl))];exact hh
theorem PAt.store {T : List Tok} {tv : Value} {P base : Nat} {s : St} {nv : NR} {w : World} {B j b : Nat} {cs : Array Value} {e : TypeId} {fr : Nat × Nat} {u : Value} (h : PAt T tv P base s nv w) (k : Blk P B (.cells cs e fr) nv w) (hlow : Low tv P b) (hb : b <= B) (h1 : e ≠ 9) (h2 : e ≠ 3) : PAt T tv P base s nv (w.setCell ⟨B, j, none⟩ u) := by
 have hs : ∀ {e2 : TypeId} {b n : Nat} {v : Value} {xs : List Value}, w.ownsRow b e2 1 v n xs -> e ≠ e2 -> v.ownBlock ≠ some B := fun hr hne he => by
  rcases hr.2 with ⟨rfl, _⟩ | ⟨g, cap, cur, rfl, _, hh, _⟩
  ·simp [Value.ownBlock] at he
  ·have : g = B := by simpa [Value.ownBlock] using he
   rw [this, k.at'] at hh;cases hh;exact hne rfl
 refine ⟨toks_keep h.toks (by simp) fun g i v hgt hv => ?_, (Below.heap_setCell _ _ _ _ (show P ≠ B from fun e => k.ne e.symm)).trans h.cells, ⟨own_far h.nodes.1 k.own, fun r hr => ⟨own_far (h.nodes.2 r hr).1 (hs (h.nodes.2 r hr).1 h1), own_far (h.nodes.2 r hr).2 (hs (h.nodes.2 r hr).2 h2)⟩⟩, h.list, h.here, h.few, h.apart, by have := h.low; simpa using this, h.many, ?_, h.opsLow⟩
 ·rw [World.cell?_setCell_far _ _ _ _ (show B ≠ g from fun e => by have := hlow.t g hgt; omega)];exact hv
 ·obtain ⟨Ty, fr, ho⟩ := h.ops;exact ⟨Ty, fr, (Below.heap_setCell _ _ _ _ (show opsG ≠ B from fun e => by have := hlow.o; omega)).trans ho⟩
theorem Loc.store {w : World} {b B j : Nat} {nv : NR} {e e2 : TypeId} {kv u : Value} {xs : List Value} {P : Nat} {cs : Array Value} {fr : Nat × Nat} (L : Loc w b nv e kv xs) (k : Blk P B (.cells cs e2 fr) nv w) (hne : e2 ≠ e) : Loc (w.setCell ⟨B, j, none⟩ u) b nv e kv xs :=
 ⟨own_far L.own (fun h => k.apart L hne h), L.off⟩
theorem Turn.store {P : Nat} {nv nv' : NR} {X : Nat -> Prop} {A C : World} {B j : Nat} {u : Value} (h : Turn P nv X A C nv') (hb : A.heap.size <= B) : Turn P nv X A (C.setCell ⟨B, j, none⟩ u) nv' :=
 ⟨h.os, h.tape, h.output, by have := h.size; simpa using this, fun k hk hP hn hx => (Below.heap_setCell _ _ _ _ (show k ≠ B by omega)).trans (h.keep k hk hP hn hx), h.row, h.rows, h.more⟩
theorem wn_t {m : ByteArray} (l : List UInt8) (h : m = ⟨l.toArray⟩) : (m.toList != l) = false := by simp only [bne, w_t l h, Bool.not_true]
theorem wn_f {m : ByteArray} (l : List UInt8) (h : m ≠ ⟨l.toArray⟩) : (m.toList != l) = true := by simp only [bne, w_f l h, Bool.not_false]
section
variable {T : List Tok} {tv : Value} {P base : Nat} {s : St} {nv : NR}
theorem sa_t (w : World) (h : PAt T tv P base s nv w) (hs : startsArgs (tk T s) = true) : Calls Tryz.prog 179 #[.pointer (some ⟨P, 0, none⟩)] w fun e w' => e = .returned (.bool true) /\ Below w.heap.size w w' := by
 have := startsArgs_fn w h
 rwa [hs] at this
theorem sa_f (w : World) (h : PAt T tv P base s nv w) (hs : ¬ startsArgs (tk T s) = true) : Calls Tryz.prog 179 #[.pointer (some ⟨P, 0, none⟩)] w fun e w' => e = .returned (.bool false) /\ Below w.heap.size w w' := by
 have := startsArgs_fn w h
 rwa [show startsArgs (tk T s) = false by simpa using hs] at this
theorem ends_t (w : World) (h : PAt T tv P base s nv w) (hs : endsB (tk T s) = true) : Calls Tryz.prog 74 #[.pointer (some ⟨P, 0, none⟩)] w fun e w' => e = .returned (.bool true) /\ Below w.heap.size w w' := by
 have := ends_fn w h
 rwa [hs] at this
theorem ends_f (w : World) (h : PAt T tv P base s nv w) (hs : ¬ endsB (tk T s) = true) : Calls Tryz.prog 74 #[.pointer (some ⟨P, 0, none⟩)] w fun e w' => e = .returned (.bool false) /\ Below w.heap.size w w' := by
 have := ends_fn w h
 rwa [show endsB (tk T s) = false by simpa using hs] at this
theorem isCall_t (w : World) (h : PAt T tv P base s nv w) {a : Int} (ha : Rng a nv) (hs : isCall (Nd.at' s.l a).k = true) : Calls Tryz.prog 151 #[.pointer (some ⟨P, 0, none⟩), .int .i64 a] w fun e w' => e = .returned (.bool true) /\ Below w.heap.size w w' := by
 refine (isCall_fn w h ha).mono ?_;rintro e w' ⟨rfl, rfl⟩;rw [hs];exact ⟨rfl, Below.refl _ _⟩
theorem isCall_f (w : World) (h : PAt T tv P base s nv w) {a : Int} (ha : Rng a nv) (hs : ¬ isCall (Nd.at' s.l a).k = true) : Calls Tryz.prog 151 #[.pointer (some ⟨P, 0, none⟩), .int .i64 a] w fun e w' => e = .returned (.bool false) /\ Below w.heap.size w w' := by
 refine (isCall_fn w h ha).mono ?_;rintro e w' ⟨rfl, rfl⟩;rw [show isCall (Nd.at' s.l a).k = false by simpa using hs];exact ⟨rfl, Below.refl _ _⟩
theorem starts_of_args {t : Tok} (h : startsArgs t = true) (h1 : markOf t ≠ wOpen) : startsE t = true := by
 unfold startsArgs at h;unfold startsE;simp only [Bool.or_eq_true, decide_eq_true_eq] at h ⊢;rcases h with (h | h) | h
 ·exact absurd h h1
 ·simp [h]
 ·simp [h]
end
end Go.Proofs.YtnkejjlidgnkkaaGreatDoor.Ps
namespace Go.Proofs.YtnkejjlidgnkkaaGreatDoor.Ps

open Go.Lib renaming hid → qh
open Go Go.RowKit Go.ChangeShapes Go.WideShapes Go.Shelf
open Go.Proofs.YtnkejjlidgnkkaaGreatDoor.Nd
open Go.Proofs.YtnkejjlidgnkkaaGreatDoor.Lex (Tok tokensL TokReads)
section
variable {T : List Tok} {tv : Value} {P base : Nat} {s : St} {nv : NR} {d : Fns} {L : Int}
theorem pair_do (hE : EndT T) (hd : DFn T tv P base d L) (hk : (tk T s).k ≠ 6) (w : World) (h : PAt T tv P base s nv w) : Calls Tryz.prog 141 #[.pointer (some ⟨P, 0, none⟩), .int .i64 L] w (Does T tv P base (pairM T d) s nv Xn w (vRow w.heap.size 3 intsV) 1) := by
 have HP0 := qh h;have HT0 := qh (show Turn P nv Xn w w nv from Turn.of_below (Below.refl _ _));clear h;go_enter Tryz.func141, Tryz.ntmps141;go_wp2_with fail;refine (next_do hE _ HP0.out hk).mono ?_;intro e w1 hd1;rcases hidC HT0 hd1 with ⟨a1, s1, v1, nv1, HX1, rfl, hv1, HP1, HT1, HL1⟩ | ⟨er, l1, nv1, HX1, rfl, HT1⟩;rotate_left
 ·clear hd1;go_wp2_with fail;exact ⟨rfl, does_no (by simp only [pairM, runs, HX1.out]) HT1.out⟩
 obtain rfl : v1 = .tuple #[] := hv1;clear hd1;go_wp2_with fail;refine (hd.expr 0 _ _ _ HP1.out).mono ?_;intro e w2 hd2;rcases hidC HT1 hd2 with ⟨a2, s2, v2, nv2, HX2, rfl, hv2, HP2, HT2, HL2⟩ | ⟨er, l2, nv2, HX2, rfl, HT2⟩;rotate_left
 ·clear hd2;go_wp2_with fail;exact ⟨rfl, does_no (by simp only [pairM, runs, HX1.out, HX2.out]) HT2.out⟩
 obtain ⟨rfl, hr2⟩ : v2 = .int .i64 a2 /\ Rng a2 nv2 := hv2;have HR2 := qh hr2;clear hd2 hr2;go_wp2_with fail;refine (expect_do hE _ HP2.out (m := wThen) (by decide)).mono ?_;intro e w3 hd3;rcases hidR HT2 hd3 with ⟨a3, s3, v3, nv3, HX3, rfl, hv3, HP3, HT3, hT3, HL3⟩ | ⟨er, l3, nv3, HX3, rfl, HT3⟩;rotate_left
 ·clear hd3;go_wp2_with fail;exact ⟨rfl, does_no (by simp only [pairM, runs, HX1.out, HX2.out, HX3.out]) HT3.out⟩
 obtain rfl : v3 = .tuple #[] := hv3;have HR2_3 := qh (hT3.rng HR2.out);clear hd3 hT3;go_wp2_with fail;refine (hd.block _ _ _ HP3.out).mono ?_;intro e w4 hd4;rcases hidR HT3 hd4 with ⟨a4, s4, v4, nv4, HX4, rfl, hv4, HP4, HT4, hT4, HL4⟩ | ⟨er, l4, nv4, HX4, rfl, HT4⟩;rotate_left
 ·clear hd4;go_wp2_with fail;exact ⟨rfl, does_no (by simp only [pairM, runs, HX1.out, HX2.out, HX3.out, HX4.out]) HT4.out⟩
 obtain ⟨rfl, hr4⟩ : v4 = .int .i64 a4 /\ Rng a4 nv4 := hv4;have HR4 := qh hr4;have HR2_4 := qh (hT4.rng HR2_3.out);clear hd4 hT4 hr4;go_wp2_with fail;go_ret;exact does_ok (a := [a2, a4]) (s' := s4) (by simp only [pairM, runs, HX1.out, HX2.out, HX3.out, HX4.out]) (fresh_row HP4.out HT4.out.size _ _ rfl rfl (by decide)) (HP4.out.below (al _ _)) (HT4.out.trans (Turn.of_below (al _ _))) (by have := HL1.out; have := HL2.out; have := HL3.out; have := HL4.out; omega)
theorem bounds_do (hE : EndT T) (hd : DFn T tv P base d L) (w : World) (h : PAt T tv P base s nv w) : Calls Tryz.prog 143 #[.pointer (some ⟨P, 0, none⟩), .int .i64 L] w (Does T tv P base (bounds T d) s nv Xn w (vRow w.heap.size 3 intsV) 1) := by
 have HLOW := qh h.lows;have HP0 := qh h;have HT0 := qh (show Turn P nv Xn w w nv from Turn.of_below (Below.refl _ _));clear h;go_enter Tryz.func143, Tryz.ntmps143;go_wp2_with fail;refine (hd.expr 0 _ _ _ HP0.out).mono ?_;intro e w1 hd1;rcases hidC HT0 hd1 with ⟨a1, s1, v1, nv1, HX1, rfl, hv1, HP1, HT1, HL1⟩ | ⟨er, l1, nv1, HX1, rfl, HT1⟩;rotate_left
 ·clear hd1;go_wp2_with fail;exact ⟨rfl, does_no (by simp only [bounds, runs, HX1.out]) HT1.out⟩
 obtain ⟨rfl, hr1⟩ : v1 = .int .i64 a1 /\ Rng a1 nv1 := hv1;have HR1 := qh hr1;clear hd1 hr1;go_wp2_with fail;refine (expect_do hE _ HP1.out (m := wComma) (by decide)).mono ?_;intro e w2 hd2;rcases hidR HT1 hd2 with ⟨a2, s2, v2, nv2, HX2, rfl, hv2, HP2, HT2, hT2, HL2⟩ | ⟨er, l2, nv2, HX2, rfl, HT2⟩;rotate_left
 ·clear hd2;go_wp2_with fail;exact ⟨rfl, does_no (by simp only [bounds, runs, HX1.out, HX2.out]) HT2.out⟩
 obtain rfl : v2 = .tuple #[] := hv2;have HR1_2 := qh (hT2.rng HR1.out);clear hd2 hT2;go_wp2_with fail;refine (hd.expr 0 _ _ _ HP2.out).mono ?_;intro e w3 hd3;rcases hidR HT2 hd3 with ⟨a3, s3, v3, nv3, HX3, rfl, hv3, HP3, HT3, hT3, HL3⟩ | ⟨er, l3, nv3, HX3, rfl, HT3⟩;rotate_left
 ·clear hd3;go_wp2_with fail;exact ⟨rfl, does_no (by simp only [bounds, runs, HX1.out, HX2.out, HX3.out]) HT3.out⟩
 obtain ⟨rfl, hr3⟩ : v3 = .int .i64 a3 /\ Rng a3 nv3 := hv3;have HR3 := qh hr3;have HR1_3 := qh (hT3.rng HR1_2.out);clear hd3 hT3 hr3;go_wp2_with fail;have HP4 := qh (HP3.out.below (al w3 (.cells #[.int .i64 a1, .int .i64 a3] 3)));have HT4 := qh (HT3.out.trans (Turn.of_below (al w3 (.cells #[.int .i64 a1, .int .i64 a3] 3))));have HK := qh (fresh_row (n := 2) (e := 3) HP3.out HT3.out.size #[.int .i64 a1, .int .i64 a3] (intsV [a1, a3]) rfl rfl (by decide));by_cases hc5 : markOf (tk T s3) = wComma
 ·have HC5 := qh hc5;clear hc5;refine (accept_y hE _ HP4.out HC5.out (by decide)).mono ?_;intro e w6 hd6;rcases hidR HT4 hd6 with ⟨a6, s6, v6, nv6, HX6, rfl, hv6, HP6, HT6, hT6, HL6⟩ | ⟨er, l6, nv6, HX6, rfl, HT6⟩;rotate_left
  ·clear hd6;go_wp2_with fail;exact ⟨rfl, does_no (by simp only [bounds, runs, HX1.out, HX2.out, HX3.out, HX6.out]) HT6.out⟩
  obtain ⟨rfl, rfl⟩ := hv6;have HK_6 := qh (HK.out.turn HP4.out hT6 not_none (by decide) (by decide));have HR1_6 := qh (hT6.rng HR1_3.out);have HR3_6 := qh (hT6.rng HR3.out);clear hd6 hT6;go_wp2_with fail;refine (hd.expr 0 _ _ _ HP6.out).mono ?_;intro e w7 hd7;rcases hidR HT6 hd7 with ⟨a7, s7, v7, nv7, HX7, rfl, hv7, HP7, HT7, hT7, HL7⟩ | ⟨er, l7, nv7, HX7, rfl, HT7⟩;rotate_left
  ·clear hd7;go_wp2_with fail;exact ⟨rfl, does_no (by simp only [bounds, runs, HX1.out, HX2.out, HX3.out, HX6.out, HX7.out]) HT7.out⟩
  obtain ⟨rfl, hr7⟩ : v7 = .int .i64 a7 /\ Rng a7 nv7 := hv7;have HR7 := qh hr7;have HK_7 := qh (HK_6.out.turn HP6.out hT7 not_none (by decide) (by decide));have HR1_7 := qh (hT7.rng HR1_6.out);have HR3_7 := qh (hT7.rng HR3_6.out);clear hd7 hT7 hr7;go_wp2_with (at_builtin; go_loud (refine wpList_append_kid rfl (.tmp 19) (.tmp 23) rfl HP7.out HLOW.out HT7.out.size _ [a1, a3] a7 rfl HK_7.out _ rfl rfl (by simp) ?_));intro v8 w8 hv8 hP8 hT8
  first | obtain ⟨ao8, co8, rfl⟩ := loc_is hv8 (ints_snoc _ _) | obtain ⟨ao8, co8, rfl⟩ := loc_is hv8 (ints_len _)
  have HV8 := qh hv8;have HP8 := qh hP8;have HT8 := qh (HT7.out.trans' hT8 (own_above HK_7.out));clear hv8 hP8 hT8;go_wp2_with fail;go_ret;exact does_ok (a := [a1, a3, a7]) (s' := s7) (by simp only [bounds, runs, HX1.out, HX2.out, HX3.out, HX6.out, HX7.out]) HV8.out HP8.out HT8.out (by have := HL1.out; have := HL2.out; have := HL3.out; have := HL6.out; have := HL7.out; omega)
 ·have HC5 := qh hc5;clear hc5;refine (accept_n _ HP4.out HC5.out).mono ?_;intro e w9 hd9;rcases hidR HT4 hd9 with ⟨a9, s9, v9, nv9, HX9, rfl, hv9, HP9, HT9, hT9, HL9⟩ | ⟨er, l9, nv9, HX9, rfl, HT9⟩;rotate_left
  ·clear hd9;go_wp2_with fail;exact ⟨rfl, does_no (by simp only [bounds, runs, HX1.out, HX2.out, HX3.out, HX9.out]) HT9.out⟩
  obtain ⟨rfl, rfl⟩ := hv9;have HK_9 := qh (HK.out.turn HP4.out hT9 not_none (by decide) (by decide));have HR1_9 := qh (hT9.rng HR1_3.out);have HR3_9 := qh (hT9.rng HR3.out);clear hd9 hT9;go_wp2_with fail;go_ret;exact does_ok (a := [a1, a3]) (s' := s9) (by simp only [bounds, runs, HX1.out, HX2.out, HX3.out, HX9.out]) HK_9.out HP9.out HT9.out (by have := HL1.out; have := HL2.out; have := HL3.out; have := HL9.out; omega)
theorem firstPre_do (hE : EndT T) (hw : IntKind.i64.wrap (L + 1) = L + 1) (hd : DFn T tv P base d (L + 1)) (w : World) (h : PAt T tv P base s nv w) : Calls Tryz.prog 177 #[.pointer (some ⟨P, 0, none⟩), .int .i64 L] w (Does T tv P base (firstPre T d) s nv Xn w vInt 1) := by
 have HP0 := qh h;have HT0 := qh (show Turn P nv Xn w w nv from Turn.of_below (Below.refl _ _));clear h;go_enter Tryz.func177, Tryz.ntmps177;go_wp2_with fail;refine (line_fn _ HP0.out).mono ?_;rintro e w1 ⟨rfl, b⟩;have HP1 := qh (HP0.out.below b);have HT1 := qh (HT0.out.trans (Turn.of_below b));clear b;by_cases hc2 : markOf (tk T s) = wOpen
 ·have HC2 := qh hc2;clear hc2;go_wp2_with fail;refine (accept_y hE _ HP1.out HC2.out (by decide)).mono ?_;intro e w3 hd3;rcases hidC HT1 hd3 with ⟨a3, s3, v3, nv3, HX3, rfl, hv3, HP3, HT3, HL3⟩ | ⟨er, l3, nv3, HX3, rfl, HT3⟩;rotate_left
  ·clear hd3;go_wp2_with fail;exact ⟨rfl, does_no (by simp only [firstPre, runs, HX3.out]) HT3.out⟩
  obtain ⟨rfl, rfl⟩ := hv3;clear hd3;go_wp2_with fail;refine (hd.expr 0 _ _ _ HP3.out).mono ?_;intro e w4 hd4;rcases hidC HT3 hd4 with ⟨a4, s4, v4, nv4, HX4, rfl, hv4, HP4, HT4, HL4⟩ | ⟨er, l4, nv4, HX4, rfl, HT4⟩;rotate_left
  ·clear hd4;go_wp2_with fail;exact ⟨rfl, does_no (by simp only [firstPre, runs, HX3.out, HX4.out]) HT4.out⟩
  obtain ⟨rfl, hr4⟩ : v4 = .int .i64 a4 /\ Rng a4 nv4 := hv4;have HR4 := qh hr4;clear hd4 hr4;go_wp2_with fail;refine (expect_do hE _ HP4.out (m := wShut) (by decide)).mono ?_;intro e w5 hd5;rcases hidR HT4 hd5 with ⟨a5, s5, v5, nv5, HX5, rfl, hv5, HP5, HT5, hT5, HL5⟩ | ⟨er, l5, nv5, HX5, rfl, HT5⟩;rotate_left
  ·clear hd5;go_wp2_with fail;exact ⟨rfl, does_no (by simp only [firstPre, runs, HX3.out, HX4.out, HX5.out]) HT5.out⟩
  obtain rfl : v5 = .tuple #[] := hv5;have HR4_5 := qh (hT5.rng HR4.out);clear hd5 hT5;go_wp2_with fail;refine (calls_nilX (add_kids (b := 0) (n := 1) w5 HP5.out ⟨38, 0, ⟨#[]⟩, [], [a4], ((tk T s).line : Nat)⟩ _ _ _ _ (Nat.zero_le _) (Loc.nil _ _ _ _) rfl rfl (by decide) rfl rfl rfl rfl)).mono ?_;intro e w6 hd6;rcases hidR HT5 hd6 with ⟨a6, s6, v6, nv6, HX6, rfl, hv6, HP6, HT6, hT6, HL6⟩ | ⟨er, l6, nv6, HX6, rfl, HT6⟩;rotate_left
  ·clear hd6;go_wp2_with fail;exact ⟨rfl, does_no (by simp only [firstPre, runs, HX3.out, HX4.out, HX5.out, HX6.out]) HT6.out⟩
  obtain ⟨rfl, hr6⟩ : v6 = .int .i64 a6 /\ Rng a6 nv6 := hv6;have HR6 := qh hr6;have HR4_6 := qh (hT6.rng HR4_5.out);clear hd6 hT6 hr6;go_wp2_with fail;go_ret;exact does_ok (a := a6) (s' := s6) (by simp only [firstPre, runs, HX3.out, HX4.out, HX5.out, HX6.out]) ⟨rfl, HR6.out⟩ HP6.out HT6.out (by have := HL3.out; have := HL4.out; have := HL5.out; have := HL6.out; omega)
 ·have HC2 := qh hc2;clear hc2;go_wp2_with fail;refine (accept_n _ HP1.out HC2.out).mono ?_;intro e w7 hd7;rcases hidC HT1 hd7 with ⟨a7, s7, v7, nv7, HX7, rfl, hv7, HP7, HT7, HL7⟩ | ⟨er, l7, nv7, HX7, rfl, HT7⟩;rotate_left
  ·clear hd7;go_wp2_with fail;exact ⟨rfl, does_no (by simp only [firstPre, runs, HX7.out]) HT7.out⟩
  obtain ⟨rfl, rfl⟩ := hv7;clear hd7;go_wp2_with fail;refine (variable_do hE _ HP7.out).mono ?_;intro e w8 hd8;rcases hidC HT7 hd8 with ⟨a8, s8, v8, nv8, HX8, rfl, hv8, HP8, HT8, HL8⟩ | ⟨er, l8, nv8, HX8, rfl, HT8⟩;rotate_left
  ·clear hd8;go_wp2_with fail;exact ⟨rfl, does_no (by simp only [firstPre, runs, HX7.out, HX8.out]) HT8.out⟩
  obtain ⟨rfl, hr8⟩ : v8 = .int .i64 a8 /\ Rng a8 nv8 := hv8;have HR8 := qh hr8;clear hd8 hr8;go_wp2_with fail;go_ret;exact does_ok (a := a8) (s' := s8) (by simp only [firstPre, runs, HX7.out, HX8.out]) ⟨rfl, HR8.out⟩ HP8.out HT8.out (by have := HL7.out; have := HL8.out; omega)
theorem args_do (hE : EndT T) (hd : DFn T tv P base d L) (w : World) (h : PAt T tv P base s nv w) : Calls Tryz.prog 187 #[.pointer (some ⟨P, 0, none⟩), .int .i64 L] w (Does T tv P base (argsM T d) s nv Xn w (vRow w.heap.size 3 intsV) 1) := by
 have HLOW := qh h.lows;have HP0 := qh h;have HT0 := qh (show Turn P nv Xn w w nv from Turn.of_below (Below.refl _ _));clear h;go_enter Tryz.func187, Tryz.ntmps187;by_cases hc1 : startsArgs (tk T s) = true
 ·have HC1 := qh hc1;clear hc1;go_wp2_with fail;refine (sa_t _ HP0.out HC1.out).mono ?_;rintro e w2 ⟨rfl, b⟩;have HP2 := qh (HP0.out.below b);have HT2 := qh (HT0.out.trans (Turn.of_below b));clear b;by_cases hc3 : markOf (tk T s) = wOpen
  ·have HC3 := qh hc3;clear hc3;go_wp2_with fail;refine (accept_y hE _ HP2.out HC3.out (by decide)).mono ?_;intro e w4 hd4;rcases hidC HT2 hd4 with ⟨a4, s4, v4, nv4, HX4, rfl, hv4, HP4, HT4, HL4⟩ | ⟨er, l4, nv4, HX4, rfl, HT4⟩;rotate_left
   ·clear hd4;go_wp2_with fail;exact ⟨rfl, does_no (by simp only [argsM, runs, if_pos HC1.out, HX4.out]) HT4.out⟩
   obtain ⟨rfl, rfl⟩ := hv4;clear hd4;by_cases hc5 : markOf (tk T s4) = wShut
   ·have bc5 := w_t [41] hc5;have nc5 := wn_t [41] hc5;have HC5 := qh hc5;clear hc5;go_wp2_with fail;refine (mark_fn _ HP4.out).mono ?_;rintro e w6 ⟨rfl, b⟩;have HP6 := qh (HP4.out.below b);have HT6 := qh (HT4.out.trans (Turn.of_below b));clear b;go_wp2_with fail;refine (expect_do hE _ HP6.out (m := wShut) (by decide)).mono ?_;intro e w7 hd7;rcases hidC HT6 hd7 with ⟨a7, s7, v7, nv7, HX7, rfl, hv7, HP7, HT7, HL7⟩ | ⟨er, l7, nv7, HX7, rfl, HT7⟩;rotate_left
    ·clear hd7;go_wp2_with fail;exact ⟨rfl, does_no (by simp only [argsM, runs, if_pos HC1.out, HX4.out, if_pos HC5.out, HX7.out]) HT7.out⟩
    obtain rfl : v7 = .tuple #[] := hv7;clear hd7;go_wp2_with fail;go_ret;exact does_ok (a := []) (s' := s7) (by simp only [argsM, runs, if_pos HC1.out, HX4.out, if_pos HC5.out, HX7.out]) (Loc.nil _ _ _ _) HP7.out HT7.out (by have := HL4.out; have := HL7.out; omega)
   ·have bc5 := w_f [41] hc5;have nc5 := wn_f [41] hc5;have HC5 := qh hc5;clear hc5;go_wp2_with fail;refine (mark_fn _ HP4.out).mono ?_;rintro e w8 ⟨rfl, b⟩;have HP8 := qh (HP4.out.below b);have HT8 := qh (HT4.out.trans (Turn.of_below b));clear b;go_wp2_with fail;refine (hd.exprs _ _ _ HP8.out).mono ?_;intro e w9 hd9;rcases hidC HT8 hd9 with ⟨a9, s9, v9, nv9, HX9, rfl, hv9, HP9, HT9, HL9⟩ | ⟨er, l9, nv9, HX9, rfl, HT9⟩;rotate_left
    ·clear hd9;go_wp2_with fail;exact ⟨rfl, does_no (by simp only [argsM, runs, if_pos HC1.out, HX4.out, if_neg HC5.out, HX9.out]) HT9.out⟩
    obtain ⟨ao9, co9, rfl⟩ := loc_is hv9 (ints_len _);have HV9 := qh (Loc.base hv9 HT8.out.size);clear hd9 hv9;go_wp2_with fail;refine (expect_do hE _ HP9.out (m := wShut) (by decide)).mono ?_;intro e w10 hd10;rcases hidR HT9 hd10 with ⟨a10, s10, v10, nv10, HX10, rfl, hv10, HP10, HT10, hT10, HL10⟩ | ⟨er, l10, nv10, HX10, rfl, HT10⟩;rotate_left
    ·clear hd10;go_wp2_with fail;exact ⟨rfl, does_no (by simp only [argsM, runs, if_pos HC1.out, HX4.out, if_neg HC5.out, HX9.out, HX10.out]) HT10.out⟩
    obtain rfl : v10 = .tuple #[] := hv10;have HK_10 := qh (HV9.out.turn HP9.out hT10 not_none (by decide) (by decide));clear hd10 hT10;go_wp2_with fail;go_ret;exact does_ok (a := a9) (s' := s10) (by simp only [argsM, runs, if_pos HC1.out, HX4.out, if_neg HC5.out, HX9.out, HX10.out]) HK_10.out HP10.out HT10.out (by have := HL4.out; have := HL9.out; have := HL10.out; omega)
  ·have HC3 := qh hc3;clear hc3;go_wp2_with fail;refine (accept_n _ HP2.out HC3.out).mono ?_;intro e w11 hd11;rcases hidC HT2 hd11 with ⟨a11, s11, v11, nv11, HX11, rfl, hv11, HP11, HT11, HL11⟩ | ⟨er, l11, nv11, HX11, rfl, HT11⟩;rotate_left
   ·clear hd11;go_wp2_with fail;exact ⟨rfl, does_no (by simp only [argsM, runs, if_pos HC1.out, HX11.out]) HT11.out⟩
   obtain ⟨rfl, rfl⟩ := hv11;clear hd11;go_wp2_with fail;refine (hd.beg _ _ _ HP11.out).mono ?_;intro e w12 hd12;rcases hidC HT11 hd12 with ⟨a12, s12, v12, nv12, HX12, rfl, hv12, HP12, HT12, HL12⟩ | ⟨er, l12, nv12, HX12, rfl, HT12⟩;rotate_left
   ·clear hd12;go_wp2_with fail;exact ⟨rfl, does_no (by simp only [argsM, runs, if_pos HC1.out, HX11.out, HX12.out]) HT12.out⟩
   obtain rfl : v12 = .tuple #[] := hv12;clear hd12;have hb := hd.ok _ _ _ HX12.out;go_wp2_with fail;refine (hd.operand hb.1 _ _ _ HP12.out (by rw [hb.2, acc_same HX11.out]; exact starts_of_args HC1.out HC3.out)).mono ?_;intro e w13 hd13;rcases hidC HT12 hd13 with ⟨a13, s13, v13, nv13, HX13, rfl, hv13, HP13, HT13, HL13⟩ | ⟨er, l13, nv13, HX13, rfl, HT13⟩;rotate_left
   ·clear hd13;go_wp2_with fail;exact ⟨rfl, does_no (by simp only [argsM, runs, if_pos HC1.out, HX11.out, HX12.out, HX13.out]) HT13.out⟩
   obtain ⟨rfl, hr13⟩ : v13 = .int .i64 a13 /\ Rng a13 nv13 := hv13;have HR13 := qh hr13;clear hd13 hr13;go_wp2_with fail;go_ret;exact does_ok (a := [a13]) (s' := s13) (by simp only [argsM, runs, if_pos HC1.out, HX11.out, HX12.out, HX13.out]) (fresh_row HP13.out HT13.out.size _ _ rfl rfl (by decide)) (HP13.out.below (al _ _)) (HT13.out.trans (Turn.of_below (al _ _))) (by have := HL11.out; have := HL12.out; have := HL13.out; omega)
 ·have HC1 := qh hc1;clear hc1;go_wp2_with fail;refine (sa_f _ HP0.out HC1.out).mono ?_;rintro e w14 ⟨rfl, b⟩;have HP14 := qh (HP0.out.below b);have HT14 := qh (HT0.out.trans (Turn.of_below b));clear b;go_wp2_with fail;refine (fail_fn 40 _ HP14.out).mono ?_;rintro e w15 ⟨rfl, b⟩;have HT15 := qh (HT14.out.trans (Turn.of_below b));clear b;go_wp2_with fail;exact ⟨rfl, does_no (e := 40) (l := (tk T s).line) (by simp only [argsM, runs, if_neg HC1.out]) HT15.out⟩
end
end Go.Proofs.YtnkejjlidgnkkaaGreatDoor.Ps
