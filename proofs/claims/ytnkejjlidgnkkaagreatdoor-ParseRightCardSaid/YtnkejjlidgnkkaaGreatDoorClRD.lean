/-
  A part of the proof.
-/
import Derived.Deep.AppendLies
import Derived.Deep.RegionLaw
import Derived.Lib.Hide
import Derived.Test.YtnkejjlidgnkkaaGreatDoorClRA
import Derived.Test.YtnkejjlidgnkkaaGreatDoorClRC
set_option maxRecDepth 100000
set_option maxHeartbeats 40000000
namespace Go.Proofs.YtnkejjlidgnkkaaGreatDoor.Ps

open Go.Lib renaming hid → qh
open Go Go.RowKit Go.ChangeShapes Go.WideShapes Go.Shelf
open Go.Proofs.YtnkejjlidgnkkaaGreatDoor.Nd
open Go.Proofs.YtnkejjlidgnkkaaGreatDoor.Lex (Tok tokensL TokReads)
def Does {α : Type} (T : List Tok) (tv : Value) (P base : Nat) (x : M α) (s : St) (nv : NR) (X : Nat -> Prop) (w : World) (val : α -> Value -> NR -> World -> Prop) (δ : Nat) (e : Ending) (w' : World) : Prop := match x s with
 | .ok a s' => ∃ v nv', e = .returned v /\ val a v nv' w' /\ PAt T tv P base s' nv' w' /\ Turn P nv X w w' nv' /\ s.at' + δ <= s'.at'
 | .no er l => e = .panicked (faultV er l) /\ ∃ nv', Turn P nv X w w' nv'
theorem does_ok {α : Type} {T : List Tok} {tv : Value} {P base : Nat} {x : M α} {s s' : St} {nv nv' : NR} {X : Nat -> Prop} {w : World} {val : α -> Value -> NR -> World -> Prop} {δ : Nat} {a : α} {v : Value} {w' : World} (hx : x s = .ok a s') (hv : val a v nv' w') (hP : PAt T tv P base s' nv' w') (hT : Turn P nv X w w' nv') (hd : s.at' + δ <= s'.at') : Does T tv P base x s nv X w val δ (.returned v) w' := by
 unfold Does; rw [hx]; exact ⟨v, nv', rfl, hv, hP, hT, hd⟩
theorem does_no {α : Type} {T : List Tok} {tv : Value} {P base : Nat} {x : M α} {s : St} {nv nv' : NR} {X : Nat -> Prop} {w : World} {val : α -> Value -> NR -> World -> Prop} {δ e l : Nat} {w' : World} (hx : x s = .no e l) (hT : Turn P nv X w w' nv') : Does T tv P base x s nv X w val δ (.panicked (faultV e l)) w' := by
 unfold Does; rw [hx]; exact ⟨rfl, nv', hT⟩
theorem does_cases {α : Type} {T : List Tok} {tv : Value} {P base : Nat} {x : M α} {s : St} {nv : NR} {X : Nat -> Prop} {w : World} {val : α -> Value -> NR -> World -> Prop} {δ : Nat} {e : Ending} {w' : World} (h : Does T tv P base x s nv X w val δ e w') :
  (∃ a s' v nv', x s = .ok a s' /\ e = .returned v /\ val a v nv' w' /\ PAt T tv P base s' nv' w' /\ Turn P nv X w w' nv' /\ s.at' + δ <= s'.at') \/ (∃ er l nv', x s = .no er l /\ e = .panicked (faultV er l) /\ Turn P nv X w w' nv') := by
 unfold Does at h;cases hx : x s with
 | ok a s' => rw [hx] at h; obtain ⟨v, nv', h1, h2, h3, h4, h5⟩ := h; exact .inl ⟨a, s', v, nv', rfl, h1, h2, h3, h4, h5⟩
 | no er l => rw [hx] at h; obtain ⟨h1, nv', h2⟩ := h; exact .inr ⟨er, l, nv', rfl, h1, h2⟩
theorem hidC {α : Type} {T : List Tok} {tv : Value} {P base : Nat} {x : M α} {s : St} {nv nv0 : NR} {X : Nat -> Prop} {w w0 : World} {val : α -> Value -> NR -> World -> Prop} {δ : Nat} {e : Ending} {w' : World} (H : Hid (Turn P nv0 X w0 w nv)) (h : Does T tv P base x s nv Xn w val δ e w') :
  (∃ a s' v nv', Hid (x s = .ok a s') /\ e = .returned v /\ val a v nv' w' /\ Hid (PAt T tv P base s' nv' w') /\ Hid (Turn P nv0 X w0 w' nv') /\ Hid (s.at' + δ <= s'.at')) \/ (∃ er l nv', Hid (x s = .no er l) /\ e = .panicked (faultV er l) /\ Hid (Turn P nv0 X w0 w' nv')) := by
 rcases does_cases h with ⟨a, s', v, nv', h1, h2, h3, h4, h5, h6⟩ | ⟨er, l, nv', h1, h2, h3⟩
 ·exact .inl ⟨a, s', v, nv', qh h1, h2, h3, qh h4, qh (H.out.trans h5), qh h6⟩
 ·exact .inr ⟨er, l, nv', qh h1, h2, qh (H.out.trans h3)⟩
theorem hidR {α : Type} {T : List Tok} {tv : Value} {P base : Nat} {x : M α} {s : St} {nv nv0 : NR} {X : Nat -> Prop} {w w0 : World} {val : α -> Value -> NR -> World -> Prop} {δ : Nat} {e : Ending} {w' : World} (H : Hid (Turn P nv0 X w0 w nv)) (h : Does T tv P base x s nv Xn w val δ e w') :
  (∃ a s' v nv', Hid (x s = .ok a s') /\ e = .returned v /\ val a v nv' w' /\ Hid (PAt T tv P base s' nv' w') /\ Hid (Turn P nv0 X w0 w' nv') /\ Turn P nv Xn w w' nv' /\ Hid (s.at' + δ <= s'.at')) \/ (∃ er l nv', Hid (x s = .no er l) /\ e = .panicked (faultV er l) /\ Hid (Turn P nv0 X w0 w' nv')) := by
 rcases does_cases h with ⟨a, s', v, nv', h1, h2, h3, h4, h5, h6⟩ | ⟨er, l, nv', h1, h2, h3⟩
 ·exact .inl ⟨a, s', v, nv', qh h1, h2, h3, qh h4, qh (H.out.trans h5), h5, qh h6⟩
 ·exact .inr ⟨er, l, nv', qh h1, h2, qh (H.out.trans h3)⟩
def vUnit (_ : Unit) (v : Value) (_ : NR) (_ : World) : Prop := v = .tuple #[]
def Rng (a : Int) (nv : NR) : Prop := 0 <= a /\ a < (nv.rs.length : Int)
theorem Turn.rng {P : Nat} {nv nv' : NR} {X : Nat -> Prop} {A C : World} {a : Int} (h : Turn P nv X A C nv') (r : Rng a nv) : Rng a nv' := ⟨r.1, by have := r.2; have := h.more; omega⟩
def vInt (a : Int) (v : Value) (nv : NR) (_ : World) : Prop := v = .int .i64 a /\ Rng a nv
def vStr (a : ByteArray) (v : Value) (_ : NR) (_ : World) : Prop := v = .string a
theorem expect_yes {T : List Tok} {tv : Value} {P base : Nat} {s : St} {nv : NR} {m : ByteArray} (w : World) (h : PAt T tv P base s nv w) (hm : markOf (tk T s) = m) (hn : s.at' + 1 < T.length) :
  Calls Tryz.prog 140 #[.pointer (some ⟨P, 0, none⟩), .string m] w fun e w' => e = .returned (.tuple #[]) /\ PAt T tv P base ⟨s.at' + 1, s.l⟩ nv w' /\ Turn P nv Xn w w' nv := by
 have HC := qh (accept_yes w h hm hn);clear h hm;go_enter Tryz.func140, Tryz.ntmps140;go_wp2_with fail;refine HC.out.mono ?_;rintro e w1 ⟨rfl, h1, h2⟩;have H1 := qh h1;have H2 := qh h2;clear h1 h2;go_wp2_with fail;exact bodyPost_end (v := .tuple #[]) (by simp [results, Tryz.results140, go_sem]) rfl ⟨rfl, H1.out, H2.out⟩
theorem begin_yes {P : Nat} (lev : Nat) (w : World) (hl : lev <= 100) : Calls Tryz.prog 72 #[.pointer (some ⟨P, 0, none⟩), .int .i64 (lev : Int)] w fun e w' => e = .returned (.tuple #[]) /\ w' = w := by
 have hl' : ¬ (lev : Int) > 100 := by omega
 go_enter Tryz.func72, Tryz.ntmps72;go_wp2_with fail;exact bodyPost_end (v := .tuple #[]) (by simp [results, Tryz.results72, go_sem]) rfl ⟨rfl, rfl⟩
theorem begin_no {T : List Tok} {tv : Value} {P base : Nat} {s : St} {nv : NR} (lev : Nat) (w : World) (h : PAt T tv P base s nv w) (hl : 100 < lev) : Calls Tryz.prog 72 #[.pointer (some ⟨P, 0, none⟩), .int .i64 (lev : Int)] w fun e w' => e = .panicked (faultV 3 (tk T s).line) /\ Below w.heap.size w w' := by
 have hl' : (lev : Int) > 100 := by omega
 have HF := qh (fail_fn 3 w h);clear h;go_enter Tryz.func72, Tryz.ntmps72;go_wp2_with fail;refine HF.out.mono ?_;rintro e w2 ⟨rfl, b⟩;have HB := qh b;clear b;go_wp2_with fail;exact ⟨rfl, rfl, HB.out⟩
theorem room_yes {P : Nat} (c : Nat) (w : World) (hl : c < 200) : Calls Tryz.prog 137 #[.pointer (some ⟨P, 0, none⟩), .int .i64 (c : Int)] w fun e w' => e = .returned (.tuple #[]) /\ w' = w := by
 have hl' : ¬ (c : Int) = 200 := by omega
 have hl2 : ((c : Int) == 200) = false := by simp; omega
 go_enter Tryz.func137, Tryz.ntmps137;go_wp2_with fail;exact bodyPost_end (v := .tuple #[]) (by simp [results, Tryz.results137, go_sem]) rfl ⟨rfl, rfl⟩
theorem room_no {T : List Tok} {tv : Value} {P base : Nat} {s : St} {nv : NR} (w : World) (h : PAt T tv P base s nv w) : Calls Tryz.prog 137 #[.pointer (some ⟨P, 0, none⟩), .int .i64 200] w fun e w' => e = .panicked (faultV 3 (tk T s).line) /\ Below w.heap.size w w' := by
 have HF := qh (fail_fn 3 w h);clear h;go_enter Tryz.func137, Tryz.ntmps137;go_wp2_with fail;refine HF.out.mono ?_;rintro e w2 ⟨rfl, b⟩;have HB := qh b;clear b;go_wp2_with fail;exact ⟨rfl, rfl, HB.out⟩
theorem peek_yes {T : List Tok} {tv : Value} {P base : Nat} {s : St} {nv : NR} (w : World) (h : PAt T tv P base s nv w) (hk : (tk T s).k = 1) : Calls Tryz.prog 176 #[.pointer (some ⟨P, 0, none⟩)] w fun e w' => e = .returned (.string (tk T s).s) /\ Below w.heap.size w w' := by
 have HC := qh (fun w' (hb : Below w.heap.size w w') => token_fn w' (h.below hb));unfold tokV at HC;clear h;generalize tk T s = t at *;obtain ⟨k, ts, n, line⟩ := t
 dsimp only at HC hk ⊢
 subst hk;have hf0 : ∀ w : World, (Instr.field 55 (.agg #[.int .u8 1, .string ts, .int .i64 n, .int .i64 (line : Int)]) 0).run Tryz.prog w = .ok (.int .u8 1) w := fun _ => by kernel_rfl
 have hf1 : ∀ w : World, (Instr.field 55 (.agg #[.int .u8 1, .string ts, .int .i64 n, .int .i64 (line : Int)]) 1).run Tryz.prog w = .ok (.string ts) w := fun _ => by kernel_rfl
 go_enter Tryz.func176, Tryz.ntmps176;go_wp2_with fail;refine (HC.out w (Below.refl _ _)).mono ?_;rintro e w1 ⟨rfl, b⟩;have HB := qh b;clear b;go_wp2_with fail;refine (HC.out w1 HB.out).mono ?_;rintro e w2 ⟨rfl, b⟩;have HB2 := qh (HB.out.trans (b.mono HB.out.size));clear b;go_wp2_with fail;go_ret;exact ⟨rfl, HB2.out⟩
theorem peek_no {T : List Tok} {tv : Value} {P base : Nat} {s : St} {nv : NR} (w : World) (h : PAt T tv P base s nv w) (hk : (tk T s).k ≠ 1) : Calls Tryz.prog 176 #[.pointer (some ⟨P, 0, none⟩)] w fun e w' => e = .panicked (faultV 40 (tk T s).line) /\ Below w.heap.size w w' := by
 have HC := qh (token_fn w h);have HF := qh (fun w' (hb : Below w.heap.size w w') => fail_fn 40 w' (h.below hb));unfold tokV at HC;clear h;generalize tk T s = t at *;obtain ⟨k, ts, n, line⟩ := t
 dsimp only at HC HF hk ⊢
 have hk1 : ((k : Int) == 1) = false := by simp; omega
 have hk2 : ¬ (k : Int) = 1 := by omega
 have hf0 : ∀ w : World, (Instr.field 55 (.agg #[.int .u8 (k : Int), .string ts, .int .i64 n, .int .i64 (line : Int)]) 0).run Tryz.prog w = .ok (.int .u8 (k : Int)) w := fun _ => by kernel_rfl
 go_enter Tryz.func176, Tryz.ntmps176;go_wp2_with fail;refine HC.out.mono ?_;rintro e w1 ⟨rfl, b⟩;have HB := qh b;clear b;go_wp2_with fail;refine (HF.out w1 HB.out).mono ?_;rintro e w2 ⟨rfl, b⟩;have HB2 := qh (HB.out.trans (b.mono HB.out.size));clear b;go_wp2_with fail;exact ⟨rfl, rfl, HB2.out⟩
theorem name_yes {T : List Tok} {tv : Value} {P base : Nat} {s : St} {nv : NR} (w : World) (h : PAt T tv P base s nv w) (hk : (tk T s).k = 1) (hz : (tk T s).s.size <= 60) (hn : s.at' + 1 < T.length) : Calls Tryz.prog 148 #[.pointer (some ⟨P, 0, none⟩)] w fun e w' => e = .returned (.string (tk T s).s) /\ PAt T tv P base ⟨s.at' + 1, s.l⟩ nv w' /\ Turn P nv Xn w w' nv := by
 have HC := qh (peek_yes w h hk);have HP := qh h;have hz' : ¬ ((tk T s).s.size : Int) > 60 := by omega
 clear h hk;generalize (tk T s).s = ts at *;go_enter Tryz.func148, Tryz.ntmps148;go_wp2_with fail;refine HC.out.mono ?_;rintro e w1 ⟨rfl, b⟩;have HP1 := qh (HP.out.below b);have HB := qh b;clear b;go_wp2_with fail;refine (next_fn _ HP1.out hn).mono ?_;rintro e w2 ⟨rfl, rfl⟩;go_wp2_with fail;go_ret;exact ⟨rfl, HP1.out.step hn, (Turn.of_below HB.out).set⟩

open Go.Lib renaming hid → qh
open Go Go.RowKit Go.ChangeShapes Go.WideShapes Go.Shelf
open Go.Proofs.YtnkejjlidgnkkaaGreatDoor.Nd
open Go.Proofs.YtnkejjlidgnkkaaGreatDoor.Lex (Tok tokensL TokReads)
theorem add_yes {T : List Tok} {tv : Value} {P base : Nat} {s : St} {nv : NR} {X : Nat -> Prop} (w : World) (h : PAt T tv P base s nv w) (nd : Nd) (an ak : Option Addr) (cn ck : Nat) (hs : Sub w (nd, .slice an nd.names.length cn, .slice ak nd.kids.length ck)) (hlen : s.l.length < 4096) (hX : ∀ g, hasB (nd, .slice an nd.names.length cn, .slice ak nd.kids.length ck) g -> X g) :
  Calls Tryz.prog 33 #[.pointer (some ⟨P, 0, none⟩), .agg #[.int .u8 (nd.k : Int), .int .i64 nd.n, .string nd.name, .slice an nd.names.length cn, .slice ak nd.kids.length ck, .int .i64 nd.line]] w fun e w' => ∃ nv', e = .returned (.int .i64 (s.l.length : Int)) /\ PAt T tv P base ⟨s.at', s.l ++ [nd]⟩ nv' w' /\ Turn P nv X w w' nv' := by
 have hbase := h.low;obtain ⟨nvv, rs⟩ := nv;have hO : OwnNd w base nvv rs := h.nodes;have hM : rs.map (·.1) = s.l := h.list;have hN : rs.length = s.l.length := by rw [<- hM, List.length_map]
 obtain ⟨an0, cn0, hnv⟩ := own_slice hO.1;have HO := qh hO;have HM := qh hM;have HH := qh h;have HS := qh hs;have hl' : ¬ (s.l.length : Int) = 4096 := by omega
 have hl2 : ((s.l.length : Int) == 4096) = false := by simp; omega
 rw [hN] at hnv;subst hnv;have y2 := cell_of h.cells 2 (.slice an0 s.l.length cn0) rfl;have yf := free_of h.cells 2;have hal : Below w.heap.size w (w.alloc (.cells #[.int .u8 (nd.k : Int), .int .i64 nd.n, .string nd.name, .slice an nd.names.length cn, .slice ak nd.kids.length ck, .int .i64 nd.line] 35)) := (Below.refl _ _).alloc (Nat.le_refl _) _;have hx : (w.alloc (.cells #[.int .u8 (nd.k : Int), .int .i64 nd.n, .string nd.name, .slice an nd.names.length cn, .slice ak nd.kids.length ck, .int .i64 nd.line] 35)).heap[w.heap.size]? = some (.cells #[.int .u8 (nd.k : Int), .int .i64 nd.n, .string nd.name, .slice an nd.names.length cn, .slice ak nd.kids.length ck, .int .i64 nd.line] 35 (0, 0)) := hit rfl
 replace y2 := cell_up hal y2
 have yf : (w.alloc (.cells #[.int .u8 (nd.k : Int), .int .i64 nd.n, .string nd.name, .slice an nd.names.length cn, .slice ak nd.kids.length ck, .int .i64 nd.line] 35)).frozen? ⟨P, 2, none⟩ = false := free_of ((hal.block _ (lt_of_heap h.cells)).trans h.cells) 2;have hPn : some P ≠ (Value.slice an0 s.l.length cn0).ownBlock := by
  intro e;rcases hO.1.2 with ⟨e2, _⟩ | ⟨g, cap, cur, e2, _, hh, _⟩
  ·rw [e2] at e; cases e
  ·rw [e2] at e;have e3 : P = g := by simpa [Value.ownBlock] using e
   rw [<- e3, h.cells] at hh;cases hh
 have hPw : P < w.heap.size := lt_of_heap h.cells;generalize hL : s.l.length = L at *;have HAL := qh hal;have HX := qh hx;clear h hs hO hM hal hx;go_enter Tryz.func33, Tryz.ntmps33;go_upto_region 3 with fail;obtain ⟨B, hB⟩ : ∃ B, w.heap.size = B := ⟨_, rfl⟩;obtain ⟨W, hW⟩ : ∃ W, w.alloc (.cells #[.int .u8 (nd.k : Int), .int .i64 nd.n, .string nd.name, .slice an nd.names.length cn, .slice ak nd.kids.length ck, .int .i64 nd.line] 35) = W := ⟨_, rfl⟩;rw [hW] at y2 yf HAL HX ⊢;rw [hB] at HAL HX ⊢;have z0 := cell_of HX.out 0 (.int .u8 (nd.k : Int)) rfl;have z1 := cell_of HX.out 1 (.int .i64 nd.n) rfl;have z2 := cell_of HX.out 2 (.string nd.name) rfl;have z3 := cell_of HX.out 3 (.slice an nd.names.length cn) rfl;have z4 := cell_of HX.out 4 (.slice ak nd.kids.length ck) rfl;have z5 := cell_of HX.out 5 (.int .i64 nd.line) rfl;obtain ⟨ii, hi, hz, hsize, hby⟩ := info_parts infoNode;have HOW := qh (show OwnNd W base (.slice an0 L cn0) rs from HO.out.below (by rw [hB]; exact HAL.out));have hbW : Below W.heap.size W (W.alloc (.cells #[.int .u8 (nd.k : Int), .int .i64 nd.n, .string nd.name, .slice an nd.names.length cn, .slice ak nd.kids.length ck, .int .i64 nd.line] 35)).drew := ((Below.refl _ _).alloc (Nat.le_refl _) _).drew;have g1 : World.ownsRow (W.alloc (.cells #[.int .u8 (nd.k : Int), .int .i64 nd.n, .string nd.name, .slice an nd.names.length cn, .slice ak nd.kids.length ck, .int .i64 nd.line] 35)).drew base 35 6 (.slice an0 L cn0) L (rowCells rs) := by
  have := own_below5 HOW.out.1 hbW;rw [hN] at this;exact this
 have g2 : ∀ (j : Nat) (u : Value), (cells6 (nd, .slice an nd.names.length cn, .slice ak nd.kids.length ck))[j]? = some u -> World.cell? (W.alloc (.cells #[.int .u8 (nd.k : Int), .int .i64 nd.n, .string nd.name, .slice an nd.names.length cn, .slice ak nd.kids.length ck, .int .i64 nd.line] 35)).drew ((⟨W.heap.size, 0, none⟩ : Addr).add j) = some u := World.news_of_block (B := W.heap.size) (cs := #[.int .u8 (nd.k : Int), .int .i64 nd.n, .string nd.name, .slice an nd.names.length cn, .slice ak nd.kids.length ck, .int .i64 nd.line]) (hit rfl);have g3 : ∀ u ∈ cells6 (nd, .slice an nd.names.length cn, .slice ak nd.kids.length ck), u.oneCell' = true := by
  intro u hu;simp [cells6] at hu;rcases hu with rfl | rfl | rfl | rfl | rfl | rfl <;> rfl
 have g4 : L + 1 <= maxLen := by unfold maxLen; omega
 have g5 : (L + 1) * 88 <= 140737488355328 := by omega
 have g6 : base <= ((W.alloc (.cells #[.int .u8 (nd.k : Int), .int .i64 nd.n, .string nd.name, .slice an nd.names.length cn, .slice ak nd.kids.length ck, .int .i64 nd.line] 35)).drew).heap.size := by have := HAL.out.size; have := hbW.size; omega
 clear hW;have hPW : P < ((W.alloc (.cells #[.int .u8 (nd.k : Int), .int .i64 nd.n, .string nd.name, .slice an nd.names.length cn, .slice ak nd.kids.length ck, .int .i64 nd.line] 35)).drew).heap.size := by have := HAL.out.size; have := hbW.size; omega
 have hp2 := cell_up hbW y2;have hpf : World.frozen? (W.alloc (.cells #[.int .u8 (nd.k : Int), .int .i64 nd.n, .string nd.name, .slice an nd.names.length cn, .slice ak nd.kids.length ck, .int .i64 nd.line] 35)).drew ⟨P, 2, none⟩ = false := (hbW.frozen (p := ⟨P, 2, none⟩) (show P < W.heap.size from by have := HAL.out.size; omega)).trans yf;go_region_law (refine step_append_lies _ (by rfl) (.tmp 17) (.tmp 19) 25 (by rfl) base 35 ii _ 6 88 Tryz.underlying25 hi hz hsize hby (by rfl) (by decide) (.slice an0 L cn0) L (rowCells rs) (by simp [Act.eval]) g1 ⟨W.heap.size, 0, none⟩ 1 1 (cells6 (nd, .slice an nd.names.length cn, .slice ak nd.kids.length ck)) (by simp [Act.eval]) (by rfl) g2 g3 (by decide) g4 g5 g6 _ (by rfl) ?_; intro g cap w1 hown hgrow hat hlt; have q2 := (World.grownBy.cell_far hgrow ⟨P, 2, none⟩ hPW hPn).trans hp2; have q3 := (World.grownBy.frozen_far hgrow ⟨P, 2, none⟩ hPW hPn).trans hpf)
 all_goals
  have hbw : Below w.heap.size w (W.alloc (.cells #[.int .u8 (nd.k : Int), .int .i64 nd.n, .string nd.name, .slice an nd.names.length cn, .slice ak nd.kids.length ck, .int .i64 nd.line] 35)).drew := (show Below w.heap.size w W from by rw [hB]; exact HAL.out).trans (hbW.mono (by have := HAL.out.size; omega));have hPc : (w1).heap[P]? = some (.cells #[tv, .int .i64 (s.at' : Int), .slice an0 L cn0] 45 (0, 0)) := (hgrow.block P hPW hPn).trans ((hbw.block P hPw).trans HH.out.cells);have hP2 := Joins.block_setCell (i := 2) hPc (.slice (some ⟨g, 0, none⟩) (L + 1) cap);have c2 := cell_of hP2 2 (.slice (some ⟨g, 0, none⟩) (L + 1) cap) rfl;have hw : IntKind.i64.wrap ((L : Int) + 1 - 1) = (L : Int) := by rw [Int.add_sub_cancel]; exact IntWalk.i64_in _ (by omega)
  have HP2 := qh hP2;have HG := qh (show g < w1.heap.size /\ hgrow = hgrow from ⟨hlt, rfl⟩);have HOW2 := qh hown;have HGR := qh hgrow;have HAT := qh hat;have HBW := qh hbw;clear hP2 hPc hown q2 q3 hat hlt HG;go_wp2_with fail;go_ret;have hnv : ∀ x, (Value.slice (some ⟨g, 0, none⟩) (L + 1) cap).ownBlock = some x -> x = g := fun x hx => by simpa [Value.ownBlock] using hx.symm
  have hPc : (w1).heap[P]? = some (.cells #[tv, .int .i64 (s.at' : Int), .slice an0 L cn0] 45 (0, 0)) := (HGR.out.block P hPW hPn).trans ((HBW.out.block P hPw).trans HH.out.cells);have hsz : w.heap.size <= w1.heap.size := Nat.le_trans (HBW.out.size) HGR.out.size;refine ⟨⟨.slice (some ⟨g, 0, none⟩) (L + 1) cap, rs ++ [(nd, .slice an nd.names.length cn, .slice ak nd.kids.length ck)]⟩, rfl, ⟨?_, HP2.out, ⟨?_, ?_⟩, ?_, HH.out.here, HH.out.few, ?_, by have := HH.out.low; simp; omega, by show (s.l ++ [nd]).length <= 4096; rw [List.length_append, List.length_singleton]; omega, ?_, HH.out.opsLow⟩, ?_⟩
  ·refine toks_keep HH.out.toks (by simpa using hsz) (fun gt j v hgt hv => ?_);have hne := toks_other HH.out hgt;rw [World.cell?_setCell_far _ _ _ _ (show P ≠ gt from fun e => hne e.symm)];have hlt2 : gt < w.heap.size := lt_cell hv;rw [World.grownBy.cell_far HGR.out ⟨gt, j, none⟩ (Nat.lt_of_lt_of_le hlt2 HBW.out.size) (fun e => ?_)]
   ·exact cell_up HBW.out hv
   ·rcases HH.out.apart with e2 | e2
    ·rw [e2] at e; cases e
    ·exact e2 (by rw [hgt, <- e])
  ·show World.ownsRow _ _ _ _ _ (rs ++ [(nd, Value.slice an nd.names.length cn, Value.slice ak nd.kids.length ck)]).length _;rw [row_snoc, List.length_append, List.length_singleton, hN];exact own_other HOW2.out hPc (by decide)
  ·intro r hr;rcases List.mem_append.1 hr with h1 | h1
   ·exact ((((HOW.out.2 r h1).below hbW).kept g1 HGR.out).set hPc (by decide) (by decide))
   ·rw [List.mem_singleton.1 h1];exact (((HS.out.below HBW.out).kept g1 HGR.out).set hPc (by decide) (by decide))
  ·show (rs ++ [(nd, Value.slice an nd.names.length cn, Value.slice ak nd.kids.length ck)]).map (·.1) = s.l ++ [nd];rw [List.map_append, HM.out]; rfl
  ·right
   intro e;have e2 : tv.ownBlock = some g := by rw [<- e]; rfl
   have hne := toks_other HH.out e2;rcases HAT.out with e3 | e3
   ·rcases HH.out.apart with e4 | e4
    ·have e5 : (Value.slice an0 L cn0).ownBlock = none := e4;rw [e5] at e3; cases e3
    ·exact e4 (show (Value.slice an0 L cn0).ownBlock = tv.ownBlock by rw [e3, e2])
   ·obtain ⟨gt, c, rfl, x0, _⟩ := tok_cells HH.out;have e5 : gt = g := by simpa [Value.ownBlock] using e2
    have h6 := lt_cell x0;have h7 := HBW.out.size;have h8 : w.heap.size <= W.heap.size := by have := HAL.out.size; omega
    have e3 : g = _ := e3;omega
  ·obtain ⟨Ty, fr, ho⟩ := HH.out.ops;refine ⟨Ty, fr, (Below.heap_setCell _ _ _ _ HH.out.opsP).trans ((HGR.out.block opsG (Nat.lt_of_lt_of_le (lt_of_heap ho) HBW.out.size) (fun e => ?_)).trans ((HBW.out.block opsG (lt_of_heap ho)).trans ho))⟩;have h1 := (HO.out.1.lt opsG e.symm).1;have h2 := HH.out.opsLow;omega
  ·refine ⟨?_, ?_, ?_, by simpa using hsz, fun k hk hP hn _ => ?_, ?_, fun r hr => ?_, by show rs.length <= (rs ++ [_]).length; rw [List.length_append]; omega⟩
   ·exact HGR.out.os.trans HBW.out.os
   ·exact HGR.out.tape.trans HBW.out.tape
   ·exact HGR.out.output.trans HBW.out.output
   ·exact (Below.heap_setCell _ _ _ _ (show k ≠ P from hP)).trans ((HGR.out.block k (Nat.lt_of_lt_of_le hk HBW.out.size) (fun e => hn e.symm)).trans (HBW.out.block k hk))
   ·rcases HAT.out with e3 | e3
    ·exact .inl (show some g = (Value.slice an0 L cn0).ownBlock by rw [e3])
    ·refine .inr ⟨g, rfl, ?_⟩
     show w.heap.size <= g;have h7 := HBW.out.size;have h8 : w.heap.size <= W.heap.size := by have := HAL.out.size; omega
     have e3 : g = _ := e3;omega
   ·rcases List.mem_append.1 hr with h1 | h1
    ·exact .inl h1
    ·exact .inr fun g hg => .inl (hX g (by rw [List.mem_singleton.1 h1] at hg; exact hg))
end Go.Proofs.YtnkejjlidgnkkaaGreatDoor.Ps
namespace Go.Proofs.YtnkejjlidgnkkaaGreatDoor.Nd

open Go.Lib renaming hid → qh
inductive Post (row : Row) : List Nd -> List (Int × Nat) -> Prop
 | nil : Post row [] []
 | push {l : List Nd} {S K : List (Int × Nat)} {nd : Nd} {h : Nat} : Post row l (S ++ K) -> nd.kids = K.map (·.1) -> (∀ (p : Nat) (x : Int × Nat), K[p]? = some x -> x.2 + up nd.k p <= h) ->
   row (bare nd) (kinds l nd) = true -> Post row (l ++ [nd]) (S ++ [((l.length : Int), h)])
theorem at_old {l : List Nd} {nd : Nd} {i : Int} (h : inR l i) : at' (l ++ [nd]) i = at' l i := by
 unfold at';have : i.toNat < l.length := by have := h.1; have := h.2; omega
 rw [List.getD_eq_getElem?_getD, List.getD_eq_getElem?_getD, List.getElem?_append_left this]
theorem at_new {l : List Nd} {nd : Nd} : at' (l ++ [nd]) (l.length : Int) = nd := by
 unfold at';rw [List.getD_eq_getElem?_getD, Int.toNat_natCast, List.getElem?_append_right (Nat.le_refl _), Nat.sub_self]
 rfl
theorem inR_new {l : List Nd} {nd : Nd} {i : Int} (h : inR (l ++ [nd]) i) : inR l i \/ i = l.length := by
 obtain ⟨h1, h2⟩ := h;rw [List.length_append, List.length_singleton] at h2;by_cases e : i = l.length
 ·exact .inr e
 ·exact .inl ⟨h1, by omega⟩
theorem inR_more {l : List Nd} {nd : Nd} {i : Int} (h : inR l i) : inR (l ++ [nd]) i := ⟨h.1, by have := h.2; rw [List.length_append, List.length_singleton]; omega⟩
structure PostI (row : Row) (l : List Nd) (S : List (Int × Nat)) : Prop where
 asc : (S.map (·.1)).Pairwise (· < ·)
 ins : ∀ x ∈ S, inR l x.1
 less : ∀ i, inR l i -> ∀ c ∈ (at' l i).kids, 0 <= c /\ c < i
 sorted : ∀ i, inR l i -> (at' l i).kids.Pairwise (· < ·)
 once : ∀ (i j : Int) (p q : Nat) (c : Int), inR l i -> inR l j -> (at' l i).kids[p]? = some c -> (at' l j).kids[q]? = some c -> i = j /\ p = q
 free : ∀ x ∈ S, ∀ i, inR l i -> x.1 ∉ (at' l i).kids
 all : ∀ j, inR l j -> (∃ x ∈ S, x.1 = j) \/ ∃ (i : Int) (p : Nat), inR l i /\ (at' l i).kids[p]? = some j
 rows : ∀ i, inR l i -> row (bare (at' l i)) (kinds l (at' l i)) = true
 high : ∃ h : Int -> Nat, (∀ x ∈ S, h x.1 = x.2) /\ ∀ i, inR l i -> ∀ (p : Nat) (c : Int), (at' l i).kids[p]? = some c -> h c + up (at' l i).k p <= h i
theorem kinds_more {l : List Nd} {nd : Nd} {n : Nd} (h : ∀ c ∈ n.kids, inR l c) : kinds (l ++ [nd]) n = kinds l n := by
 unfold kinds;refine List.map_congr_left fun c hc => ?_
 rw [at_old (h c hc)]
theorem pair_nodup {K : List Int} (h : K.Pairwise (· < ·)) {p q : Nat} {c : Int} (hp : K[p]? = some c) (hq : K[q]? = some c) : p = q := by
 rw [List.pairwise_iff_getElem] at h;obtain ⟨hp1, hp2⟩ := List.getElem?_eq_some_iff.1 hp;obtain ⟨hq1, hq2⟩ := List.getElem?_eq_some_iff.1 hq;rcases Nat.lt_trichotomy p q with e | e | e
 ·have := h p q hp1 hq1 e; omega
 ·exact e
 ·have := h q p hq1 hp1 e; omega
theorem Post.inv {row : Row} {l : List Nd} {S : List (Int × Nat)} (hP : Post row l S) : PostI row l S := by
 induction hP with
 | nil =>
  have no : ∀ i, ¬ inR ([] : List Nd) i := fun i h => by have := h.1; have := h.2; simp at this; omega
  exact ⟨List.Pairwise.nil, (fun x h => by cases h), (fun i h => absurd h (no i)), (fun i h => absurd h (no i)), (fun i j p q c h => absurd h (no i)), (fun x h => by cases h), (fun j h => absurd h (no j)), (fun i h => absurd h (no i)), fun _ => 0, (fun x h => by cases h), (fun i h => absurd h (no i))⟩
 | @push l S K nd h hP hk hh hr ih =>
  have hasc := ih.asc;rw [List.map_append, List.pairwise_append] at hasc;obtain ⟨a1, a2, a3⟩ := hasc;have inS : ∀ x ∈ S, inR l x.1 := fun x hx => ih.ins x (List.mem_append_left _ hx)
  have inK : ∀ c ∈ nd.kids, inR l c := fun c hc => by
   rw [hk] at hc;obtain ⟨x, hx, rfl⟩ := List.mem_map.1 hc;exact ih.ins x (List.mem_append_right _ hx)
  have notK : ∀ c ∈ nd.kids, ∀ i, inR l i -> c ∉ (at' l i).kids := fun c hc => by
   rw [hk] at hc;obtain ⟨x, hx, rfl⟩ := List.mem_map.1 hc;exact ih.free x (List.mem_append_right _ hx)
  have less : ∀ i, inR (l ++ [nd]) i -> ∀ c ∈ (at' (l ++ [nd]) i).kids, 0 <= c /\ c < i := by
   intro i hi c hc;rcases inR_new hi with h1 | rfl
   ·rw [at_old h1] at hc;exact ih.less i h1 c hc
   ·rw [at_new] at hc;exact inK c hc
  refine ⟨?_, ?_, less, ?_, ?_, ?_, ?_, ?_, ?_⟩
  ·rw [List.map_append, List.pairwise_append];refine ⟨a1, List.pairwise_singleton _ _, fun x hx y hy => ?_⟩;obtain ⟨x', hx', rfl⟩ := List.mem_map.1 hx;simp only [List.map_cons, List.map_nil, List.mem_singleton] at hy;subst hy;exact (inS x' hx').2
  ·intro x hx;rcases List.mem_append.1 hx with h1 | h1
   ·exact inR_more (inS x h1)
   ·rw [List.mem_singleton] at h1;subst h1;exact ⟨Int.natCast_nonneg _, by rw [List.length_append, List.length_singleton]; show (l.length : Int) < _; omega⟩
  ·intro i hi;rcases inR_new hi with h1 | rfl
   ·rw [at_old h1]; exact ih.sorted i h1
   ·rw [at_new, hk]; exact a2
  ·intro i j p q c hi hj hp hq;rcases inR_new hi with h1 | rfl <;> rcases inR_new hj with h2 | rfl
   ·rw [at_old h1] at hp;rw [at_old h2] at hq;exact ih.once i j p q c h1 h2 hp hq
   ·rw [at_old h1] at hp;rw [at_new] at hq;exact absurd (List.mem_of_getElem? hp) (notK c (List.mem_of_getElem? hq) i h1)
   ·rw [at_new] at hp;rw [at_old h2] at hq;exact absurd (List.mem_of_getElem? hq) (notK c (List.mem_of_getElem? hp) j h2)
   ·rw [at_new] at hp hq;refine ⟨rfl, pair_nodup (K := nd.kids) ?_ hp hq⟩;rw [hk]; exact a2
  ·intro x hx i hi hc;rcases List.mem_append.1 hx with h1 | h1
   ·rcases inR_new hi with h2 | rfl
    ·rw [at_old h2] at hc;exact ih.free x (List.mem_append_left _ h1) i h2 hc
    ·rw [at_new, hk] at hc;have := a3 x.1 (List.mem_map_of_mem h1) x.1 hc;omega
   ·rw [List.mem_singleton] at h1;subst h1;have := less i hi _ hc;have := hi.2;rw [List.length_append, List.length_singleton] at this
    dsimp only at *
    omega
  ·intro j hj;rcases inR_new hj with h1 | rfl
   ·rcases ih.all j h1 with ⟨x, hx, rfl⟩ | ⟨i, p, hi, hp⟩
    ·rcases List.mem_append.1 hx with h2 | h2
     ·exact .inl ⟨x, List.mem_append_left _ h2, rfl⟩
     ·obtain ⟨p, hp⟩ := List.getElem?_of_mem h2;refine .inr ⟨l.length, p, ⟨Int.natCast_nonneg _, by rw [List.length_append, List.length_singleton]; omega⟩, ?_⟩;rw [at_new, hk, List.getElem?_map, hp]
      rfl
    ·exact .inr ⟨i, p, inR_more hi, by rw [at_old hi]; exact hp⟩
   ·exact .inl ⟨_, List.mem_append_right _ (List.mem_singleton.2 rfl), rfl⟩
  ·intro i hi;rcases inR_new hi with h1 | rfl
   ·rw [at_old h1, kinds_more (fun c hc => ⟨(ih.less i h1 c hc).1, by have := (ih.less i h1 c hc).2; have := h1.2; omega⟩)];exact ih.rows i h1
   ·rw [at_new, kinds_more inK];exact hr
  ·obtain ⟨f, f1, f2⟩ := ih.high;refine ⟨fun i => if i = l.length then h else f i, fun x hx => ?_, fun i hi p c hc => ?_⟩
   ·rcases List.mem_append.1 hx with h1 | h1
    ·have := (inS x h1).2
     show (if x.1 = (l.length : Int) then h else f x.1) = x.2;rw [if_neg (by omega)];exact f1 x (List.mem_append_left _ h1)
    ·rw [List.mem_singleton] at h1;subst h1
     show (if (l.length : Int) = (l.length : Int) then h else _) = h;rw [if_pos rfl]
   ·have hl := less i hi c (List.mem_of_getElem? hc)
    show (if c = (l.length : Int) then h else f c) + _ <= if i = (l.length : Int) then h else f i;rcases inR_new hi with h1 | rfl
    ·have := h1.2;rw [if_neg (by omega), if_neg (by omega)];rw [at_old h1] at hc ⊢;exact f2 i h1 p c hc
    ·rw [if_neg (by omega), if_pos rfl];rw [at_new] at hc ⊢;rw [hk, List.getElem?_map] at hc;cases hx : K[p]? with
     | none => rw [hx] at hc; cases hc
     | some x =>
      rw [hx] at hc;cases hc;have := hh p x hx
      show f x.1 + _ <= h;rw [f1 x (List.mem_append_right _ (List.mem_of_getElem? hx))];exact this
theorem Post.ne {row : Row} {l : List Nd} {S : List (Int × Nat)} (hP : Post row l S) (h : S ≠ []) : ∃ l' nd T y, l = l' ++ [nd] /\ S = T ++ [((l'.length : Int), y)] := by
 cases hP with
 | nil => exact absurd rfl h
 | push _ _ _ _ => exact ⟨_, _, _, _, rfl, rfl⟩
theorem Post.right {row : Row} {l : List Nd} {root : Int} {h : Nat} (hP : Post row l [(root, h)]) (hn : l.length <= 4096) (hh : h <= 100) (head : (at' l root).k = 26 /\ (at' l root).n = 1 /\ (at' l root).names = []) : RightP row l root := by
 have H := hP.inv;have top := H.ins (root, h) (List.mem_singleton.2 rfl);have inK : ∀ i, inR l i -> ∀ c ∈ (at' l i).kids, inR l c := fun i hi c hc => ⟨(H.less i hi c hc).1, by have := (H.less i hi c hc).2; have := hi.2; omega⟩
 refine ⟨hn, top, inK, H.once, fun i hi => H.free (root, h) (List.mem_singleton.2 rfl) i hi, ?_, H.rows, ?_, head⟩
 ·have key : ∀ (k : Nat) (i : Int), inR l i -> (l.length : Int) - i <= k -> ∃ v, Lev l root i v := by
   intro k
   induction k with
   | zero => intro i hi hk; have := hi.2; omega
   | succ k ih =>
    intro i hi hk;rcases H.all i hi with ⟨x, hx, rfl⟩ | ⟨j, p, hj, hp⟩
    ·rw [List.mem_singleton] at hx;subst hx;exact ⟨0, .top⟩
    ·have := H.less j hj i (List.mem_of_getElem? hp);obtain ⟨v, hv⟩ := ih j hj (by omega);exact ⟨_, .kid hv hp⟩
  exact fun i hi => key l.length i hi (by have := hi.1; omega)
 ·obtain ⟨f, f1, f2⟩ := H.high;have f0 := f1 (root, h) (List.mem_singleton.2 rfl);have key : ∀ (i : Int) (v : Nat), Lev l root i v -> v + f i <= h := by
   intro i v hL
   induction hL with
   | top => rw [show f root = h from f0]; omega
   | @kid i v p c hL hc ih =>
    have := f2 i (lev_in inK top hL) p c hc;omega
  intro i v hL;have := key i v hL;omega
theorem Post.root {row : Row} {l : List Nd} {root : Int} {h : Nat} (hP : Post row l [(root, h)]) : root = (l.length : Int) - 1 := by
 obtain ⟨l', nd, T, y, rfl, e⟩ := hP.ne (by simp);cases T with
 | nil =>
  simp only [List.nil_append, List.cons.injEq, Prod.mk.injEq, and_true] at e;rw [e.1, List.length_append, List.length_singleton];omega
 | cons a T => have := congrArg List.length e; simp at this

open Go.Lib renaming hid → qh
def statK (k : Nat) : Bool := decide (2 <= k /\ k <= 15)
def exprK (k : Nat) : Bool := decide (20 <= k /\ k <= 35 \/ k = 38)

open Go.Lib renaming hid → qh
def areB (ks : List Nat) (lo hi : Int) (p : Nat -> Bool) : Bool := decide (0 <= lo /\ lo <= hi /\ hi <= ks.length) && ((ks.drop lo.toNat).take (hi.toNat - lo.toNat)).all p
def listB (ks : List Nat) (lo hi least : Int) : Bool := decide (least <= hi - lo /\ hi - lo <= 200) && areB ks lo hi exprK
def rowL : List Nat -> List (Nat -> Bool) -> Bool
 | [], [] => true
 | k :: ks, p :: ps => p k && rowL ks ps
 | _, _ => false
def isB (these : List Nat) (k : Nat) : Bool := these.contains k
def blockP : Nat -> Bool := isB [1]
def prefP : Nat -> Bool := isB [27, 28, 29, 30, 38]
def pairsGo : Nat -> List Nat -> Bool
 | 0, _ => true
 | n + 1, ks => rowL (ks.take 2) [exprK, blockP] && pairsGo n (ks.drop 2)
def pairsB (ks : List Nat) : Bool := pairsGo (ks.length / 2) ks && (decide (0 < ks.length / 2 * 2) && areB ks (ks.length / 2 * 2 : Nat) ks.length blockP)
def statKidsB (k : Nat) (n : Int) (ks : List Nat) : Bool :=
 match k with
 | 2 => listB ks 0 ks.length 0
 | 12 => listB ks 0 ks.length 0
 | 3 => areB ks 0 n (isB [27, 28]) && listB ks n ks.length 1
 | 4 => rowL ks [isB [29, 30]]
 | 5 => rowL ks [blockP]
 | 6 => rowL ks [exprK, blockP]
 | 7 => rowL ks [blockP, exprK]
 | 8 => pairsB ks
 | 9 => rowL ks [exprK, exprK, blockP] || rowL ks [exprK, exprK, exprK, blockP]
 | 10 => listB ks 0 (ks.length - 1) 1 && areB ks (ks.length - 1) ks.length blockP
 | 11 => rowL ks [isB [26]]
 | _ => rowL ks []
def kidsB (k : Nat) (n : Int) (ks : List Nat) : Bool :=
 if statK k then statKidsB k n ks else
 match k with
 | 1 => areB ks 0 ks.length statK && !isB (ks.take (ks.length - 1)) 12
 | 20 => rowL ks []
 | 21 => rowL ks []
 | 22 => rowL ks []
 | 25 => rowL ks []
 | 27 => rowL ks []
 | 23 => rowL ks []
 | 24 => rowL ks []
 | 26 => rowL ks [blockP]
 | 28 => rowL ks [prefP, exprK]
 | 29 => areB ks 0 1 prefP && listB ks 1 ks.length 0
 | 30 => areB ks 0 1 prefP && listB ks 1 ks.length 0
 | 31 => rowL ks [exprK, exprK]
 | 32 => rowL ks [exprK, exprK]
 | 33 => rowL ks [exprK, exprK]
 | 37 => rowL ks [exprK, exprK]
 | 34 => rowL ks [exprK]
 | 36 => rowL ks [exprK]
 | 38 => rowL ks [exprK]
 | 35 => areB ks 0 ks.length (isB [36, 37])
 | _ => false
def cntB (k : Nat) : Nat × Nat :=
 match k with
 | 2 => (1, 200)
 | 10 => (1, 200)
 | 9 => (1, 1)
 | 11 => (1, 1)
 | 26 => (0, 200)
 | _ => (0, 0)
def nameB (nm : ByteArray -> Bool) (k : Nat) (s : ByteArray) : Bool :=
 match k with
 | 14 => nm s
 | 15 => nm s
 | 27 => nm s
 | 30 => nm s
 | 24 => decide (s.size <= 65535)
 | _ => decide (s.toList = [])
def numB (k : Nat) (n : Int) : Bool :=
 match k with
 | 23 => true
 | 3 => decide (1 <= n /\ n <= 200)
 | 26 => decide (0 <= n /\ n <= 1)
 | 31 => decide (1 <= n /\ n <= 17)
 | 34 => decide (18 <= n /\ n <= 21)
 | _ => decide (n = 0)
def ownB (nm : ByteArray -> Bool) (n : Nd) : Bool :=
 decide ((cntB n.k).1 <= n.names.length /\ n.names.length <= (cntB n.k).2) && n.names.all nm && (nameB nm n.k n.name && numB n.k n.n)
def opD (n : Int) : Nat := if n = 7 then 4 else if n = 8 then 5 else if n = 6 then 6 else if n = 9 \/ n = 10 then 7 else if n = 11 then 8 else if n = 1 \/ n = 2 then 9 else if n = 3 \/ n = 4 \/ n = 5 then 10 else 3
def bindD (k : Nat) (n : Int) : Nat := if k = 33 then 1 else if k = 32 then 2 else if k = 31 then opD (n % 256) else if k = 34 then 11 else 12
def kb (ks : List (Nat × Int)) (i : Nat) : Nat := bindD (ks.getD i (0, 0)).1 (ks.getD i (0, 0)).2
def fitsD (n : Nd) (ks : List (Nat × Int)) : Bool :=
 if n.k = 34 then decide (bindD n.k n.n <= kb ks 0)
 else if n.k = 31 \/ n.k = 32 \/ n.k = 33 then
  (if n.k = 31 /\ n.n = 11 then decide (bindD n.k n.n < kb ks 0 /\ bindD n.k n.n <= kb ks 1) else decide (bindD n.k n.n <= kb ks 0 /\ bindD n.k n.n < kb ks 1))
 else true
def rowD (nm : ByteArray -> Bool) : Row := fun n ks => decide (1 <= n.line) && ownB nm n && kidsB n.k n.n (ks.map (·.1)) && fitsD n ks
end Go.Proofs.YtnkejjlidgnkkaaGreatDoor.Nd
