/-
  The laws' helpers: tok, is, wrong, awake.
-/
import Derived.Test.YtajeghkmgcpgiaaGreatDoorLexJ
import Derived.Test.YtajeghkmgcpgiaaGreatDoorLexOj
namespace Go.Proofs.YtajeghkmgcpgiaaGreatDoor.Lex
open Go.RowKit

theorem fault_under : Tryz.prog.underlying 33 = some (.struct (Tryz.prog.fieldsOf 33)) := by kernel_rfl
theorem fault_stood : Tryz.prog.stoodInHeld 33 = false := by kernel_rfl
theorem fault_guard : Tryz.prog.eqGuardType Tryz.prog.depth 33 = false := by kernel_rfl
theorem fault_fields : (Tryz.prog.fieldsOf 33).toList.map (fun f => (f.name, f.type, f.offset)) = [("Err", 29, 0), ("Line", 3, 1)] := by kernel_rfl
theorem eq_fault (a b c d : Int) (w : World) : (Op.equalIn 10000 33 (.agg #[.int .i64 a, .int .i64 b]) (.agg #[.int .i64 c, .int .i64 d])).run Tryz.prog w = .ok (decide (a = c ∧ b = d)) w := by
  rw [run_equalIn_agg _ _ _ _ _ fault_under fault_stood]
  have hf := fault_fields
  generalize (Tryz.prog.fieldsOf 33).toList = fs at *
  obtain ⟨f1, f2, rfl⟩ : ∃ f1 f2, fs = [f1, f2] := by
    have hl := congrArg List.length hf
    rw [List.length_map] at hl
    rcases fs with _ | ⟨f1, _ | ⟨f2, _ | ⟨f3, r⟩⟩⟩
    · simp at hl
    · simp at hl
    · exact ⟨f1, f2, rfl⟩
    · simp at hl
  simp only [List.map_cons, List.map_nil, List.cons.injEq, Prod.mk.injEq, and_true] at hf
  obtain ⟨⟨n1, t1, o1⟩, n2, t2, o2⟩ := hf
  simp only [Op.eqFields, n1, n2, t1, t2, o1, o2]
  simp [go_sem]
  by_cases h1 : a = c
  · by_cases h2 : b = d
    · simp [h1, h2]
    · simp [h1, h2]
  · simp [h1]
theorem eql_fault (a b c d : Int) (w : World) : (binOp .eql 33 (.agg #[.int .i64 a, .int .i64 b]) (.agg #[.int .i64 c, .int .i64 d])).run Tryz.prog w = .ok (.bool (decide (a = c ∧ b = d))) w := by
  rw [run_eql_struct, eq_fault]; rfl
theorem neq_fault (a b c d : Int) (w : World) : (binOp .neq 33 (.agg #[.int .i64 a, .int .i64 b]) (.agg #[.int .i64 c, .int .i64 d])).run Tryz.prog w = .ok (.bool (!decide (a = c ∧ b = d))) w := by
  rw [run_neq_struct, eq_fault]; rfl

theorem tok_is (k n line : Int) (s : ByteArray) (w : World) :
    Calls Tryz.prog 8 #[.int .u8 k, .string s, .int .i64 n, .int .i64 line] w fun e w' => e = .returned (.agg #[.int .u8 k, .string s, .int .i64 n, .int .i64 line]) ∧ Below w.heap.size w w' := by
  go_enter Tryz.func8, Tryz.ntmps8
  go_wp2
  refine bodyPost_ret (v := .agg #[.int .u8 k, .string s, .int .i64 n, .int .i64 line]) (by simp [results, Tryz.results8, go_sem]) rfl ?_
  exact ⟨rfl, (Below.refl _ _).alloc (Nat.le_refl _) _⟩

theorem reads_lit {w : World} {cs : Array Value} {T : TypeId} {l : List Tok} {n : Nat} (h : cs.toList = toksCells l) (hn : n = l.length) : TokReads (w.alloc (.cells cs T)) (.slice (some ⟨w.heap.size, 0, none⟩) n n) l := by
  subst hn
  refine ⟨_, _, rfl, fun _ => ⟨w.heap.size, by simp, rfl, fun i hi => ?_⟩⟩
  have hc : ∀ j, j < 4 → (w.alloc (.cells cs T)).cell? ⟨w.heap.size, i * 4 + j, none⟩ = (tokCells l[i])[j]? := fun j hj => by
    rw [World.cell?_alloc_mark, ← toks_at l i hi j hj, ← h]; simp
  exact ⟨hc 0 (by decide), hc 1 (by decide), hc 2 (by decide), hc 3 (by decide)⟩

set_option maxHeartbeats 1000000 in
theorem is_yes (s : ByteArray) (x : Value) (l : List Tok) (w : World) (hx : TokReads w x l) (h : tokensL s.data.toList = (l, 0, 0)) (hl : l.length ≤ 1000000000) (hV : LVars w) :
    Calls Tryz.prog 7 #[.string s, x] w fun e w' => e = .returned (.bool true) ∧ Below w.heap.size w w' := by
  have c := own_tokens s w hV
  rw [h] at c
  unfold ToksSays at c
  dsimp only at c
  clear h
  have hm := fault_guard
  have hq := fun w => eql_fault 0 0 0 0 w
  go_enter Tryz.func7, Tryz.ntmps7
  go_wp2_with fail
  refine c.mono ?_
  rintro e w1 ⟨v, rfl, hv, hb⟩
  have c2 := fun w' (h : Below w1.heap.size w1 w') => same_tokens v x l l w' (hv.below h) ((hx.below hb).below h) hl
  rw [decide_eq_true (rfl : l = l)] at c2
  go_wp2_with fail
  refine (c2 _ ((Below.refl _ _).alloc (Nat.le_refl _) _)).mono ?_
  rintro e w2 ⟨rfl, hb2⟩
  have HB2 := Lib.hid (hb.trans ((((Below.refl _ _).alloc (Nat.le_refl _) _).trans (hb2.mono (by simp))).mono hb.size))
  clear hb2 hb c2 hv hx
  go_wp2_with fail
  go_ret
  exact ⟨rfl, HB2.out⟩

set_option maxHeartbeats 1000000 in
theorem wrong_yes (s : ByteArray) (x line : Nat) (w : World) (h : tokensL s.data.toList = ([], x, line)) (hV : LVars w) :
    Calls Tryz.prog 9 #[.string s, .int .i64 x, .int .i64 line] w fun e w' => e = .returned (.bool true) ∧ Below w.heap.size w w' := by
  have c := own_tokens s w hV
  rw [h] at c
  unfold ToksSays at c
  dsimp only at c
  clear h
  have hm := fault_guard
  have hq := fun w => eql_fault x line x line w
  rw [decide_eq_true ⟨rfl, rfl⟩] at hq
  go_enter Tryz.func9, Tryz.ntmps9
  go_wp2_with fail
  refine c.mono ?_
  rintro e w1 ⟨v, rfl, ⟨ao, cap, rfl, _⟩, hb⟩
  have HB := Lib.hid hb
  clear hb
  go_wp2_with fail
  go_ret
  exact ⟨rfl, HB.out.alloc HB.out.size _⟩

theorem own_wordB (s : ByteArray) (w : World) : Calls Tryz.prog 12 #[.string s] w fun e w' => e = .returned (.bool (wordB s)) ∧ Below w.heap.size w w' :=
  (own_word s w).mono fun _ _ ⟨h, h'⟩ => ⟨h, h' ▸ Below.refl _ _⟩

set_option maxHeartbeats 2000000 in
theorem awake_lex (w : World) (hV : LVars w) : Calls Tryz.prog 16 #[] w fun e w' => e = .returned (.bool true) ∧ Below w.heap.size w w' := by
  have c1 := fun x w hx hV => is_yes ⟨#[120, 61, 48, 120, 49, 48, 45, 45, 91, 91, 97, 93, 93, 46, 46, 39, 98, 39]⟩ x [⟨1, ⟨#[120]⟩, 0, 1⟩, ⟨3, ⟨#[61]⟩, 0, 1⟩, ⟨4, ⟨#[]⟩, 16, 1⟩, ⟨3, ⟨#[46, 46]⟩, 0, 1⟩, ⟨5, ⟨#[98]⟩, 0, 1⟩, ⟨6, ⟨#[]⟩, 0, 1⟩] w hx (by decide +kernel) (by decide) hV
  have c2 := fun w hV => wrong_yes ⟨#[49, 46, 53]⟩ 31 1 w (by decide +kernel) hV
  have c3 := fun w => own_wordB ⟨#[101, 110, 100]⟩ w
  have c4 := fun w => own_wordB ⟨#[]⟩ w
  rw [show wordB ⟨#[101, 110, 100]⟩ = true by decide +kernel] at c3
  rw [show wordB ⟨#[]⟩ = false by decide +kernel] at c4
  have HV := Lib.hid hV
  clear hV
  go_enter Tryz.func16, Tryz.ntmps16
  go_wp2_with fail
  refine (tok_is _ _ _ _ _).mono ?_
  rintro e w1 ⟨rfl, b1⟩
  have B1 := Lib.hid b1
  clear b1
  go_wp2_with fail
  refine (tok_is _ _ _ _ _).mono ?_
  rintro e w2 ⟨rfl, b2⟩
  have B2 := Lib.hid (trans_below B1.out b2)
  clear b2
  go_wp2_with fail
  refine (tok_is _ _ _ _ _).mono ?_
  rintro e w3 ⟨rfl, b3⟩
  have B3 := Lib.hid (trans_below B2.out b3)
  clear b3
  go_wp2_with fail
  refine (tok_is _ _ _ _ _).mono ?_
  rintro e w4 ⟨rfl, b4⟩
  have B4 := Lib.hid (trans_below B3.out b4)
  clear b4
  go_wp2_with fail
  refine (tok_is _ _ _ _ _).mono ?_
  rintro e w5 ⟨rfl, b5⟩
  have B5 := Lib.hid (trans_below B4.out b5)
  clear b5
  go_wp2_with fail
  refine (tok_is _ _ _ _ _).mono ?_
  rintro e w6 ⟨rfl, b6⟩
  have B6 := Lib.hid (trans_below B5.out b6)
  clear b6
  go_wp2_with fail
  refine (c1 _ _ (reads_lit rfl rfl) (HV.out.below (B6.out.alloc B6.out.size _))).mono ?_
  rintro e w7 ⟨rfl, b7⟩
  have B7 := Lib.hid (trans_below B6.out (trans_below ((Below.refl _ _).alloc (Nat.le_refl _) _) b7))
  clear b7
  go_wp2_with fail
  refine (c2 _ (HV.out.below B7.out)).mono ?_
  rintro e w8 ⟨rfl, b8⟩
  have B8 := Lib.hid (trans_below B7.out b8)
  clear b8
  go_wp2_with fail
  refine (c3 _).mono ?_
  rintro e w9 ⟨rfl, b9⟩
  have B9 := Lib.hid (trans_below B8.out b9)
  clear b9
  go_wp2_with fail
  refine (c4 _).mono ?_
  rintro e w10 ⟨rfl, b10⟩
  have B10 := Lib.hid (trans_below B9.out b10)
  clear b10
  go_wp2_with fail
  go_ret
  exact ⟨rfl, B10.out⟩

end Go.Proofs.YtajeghkmgcpgiaaGreatDoor.Lex
