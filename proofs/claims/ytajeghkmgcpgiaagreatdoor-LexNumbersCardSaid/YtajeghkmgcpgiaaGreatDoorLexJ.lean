/-
  Two tokens, compared.
  twinsteplow.SameTokens, by contract.
-/
import Derived.Test.YtajeghkmgcpgiaaGreatDoorLexI
import Derived.Laws.StructEq
namespace Go.Proofs.YtajeghkmgcpgiaaGreatDoor.Lex
open Go.RowKit

instance : DecidableEq Tok := fun a b =>
  decidable_of_iff (a.k = b.k ∧ a.s = b.s ∧ a.n = b.n ∧ a.line = b.line) ⟨fun ⟨h1, h2, h3, h4⟩ => by cases a; cases b; simp_all, fun h => by rw [h]; exact ⟨rfl, rfl, rfl, rfl⟩⟩

theorem tok_under : Tryz.prog.underlying 25 = some (.struct (Tryz.prog.fieldsOf 25)) := by kernel_rfl
theorem tok_stood : Tryz.prog.stoodInHeld 25 = false := by kernel_rfl
theorem tok_guard : Tryz.prog.eqGuardType Tryz.prog.depth 25 = false := by kernel_rfl
theorem tok_fields : (Tryz.prog.fieldsOf 25).toList.map (fun f => (f.name, f.type, f.offset)) = [("Kind", 23, 0), ("S", 9, 1), ("N", 2, 2), ("Line", 3, 3)] := by kernel_rfl
theorem bytes_toList {a b : ByteArray} (h : a.toList = b.toList) : a = b := by
  rw [ByteArray.toList_eq, ByteArray.toList_eq] at h
  exact ByteArray.ext (Array.ext' h)
theorem neq_tok (t u : Tok) (w : World) : (binOp .neq 25 (.agg #[.int .u8 t.k, .string t.s, .int .i64 t.n, .int .i64 t.line]) (.agg #[.int .u8 u.k, .string u.s, .int .i64 u.n, .int .i64 u.line])).run Tryz.prog w = .ok (.bool (decide (t ≠ u))) w := by
  rw [run_neq_struct, run_equalIn_agg _ _ _ _ _ tok_under tok_stood]
  have hf := tok_fields
  generalize (Tryz.prog.fieldsOf 25).toList = fs at *
  obtain ⟨f1, f2, f3, f4, rfl⟩ : ∃ f1 f2 f3 f4, fs = [f1, f2, f3, f4] := by
    have hl := congrArg List.length hf
    rw [List.length_map] at hl
    rcases fs with _ | ⟨f1, _ | ⟨f2, _ | ⟨f3, _ | ⟨f4, _ | ⟨f5, r⟩⟩⟩⟩⟩
    · simp at hl
    · simp at hl
    · simp at hl
    · simp at hl
    · exact ⟨f1, f2, f3, f4, rfl⟩
    · simp at hl
  simp only [List.map_cons, List.map_nil, List.cons.injEq, Prod.mk.injEq, and_true] at hf
  obtain ⟨⟨n1, t1, o1⟩, ⟨n2, t2, o2⟩, ⟨n3, t3, o3⟩, n4, t4, o4⟩ := hf
  simp only [Op.eqFields, n1, n2, n3, n4, t1, t2, t3, t4, o1, o2, o3, o4]
  simp [go_sem]
  obtain ⟨a, b, c, d⟩ := t
  obtain ⟨a', b', c', d'⟩ := u
  by_cases h1 : a = a'
  · subst h1
    by_cases h2 : b = b'
    · subst h2
      by_cases h3 : c = c'
      · subst h3
        by_cases h4 : d = d'
        · subst h4; simp
        · have h5 : ¬ (d : Int) = d' := by omega
          simp [h4, h5]
      · simp [h3]
    · have h5 : ¬ b.toList = b'.toList := fun h => h2 (bytes_toList h)
      simp [h2, h5]
  · have h5 : ¬ (a : Int) = a' := by omega
    simp [h1, h5]
end Go.Proofs.YtajeghkmgcpgiaaGreatDoor.Lex

namespace Go.Proofs.YtajeghkmgcpgiaaGreatDoor.Lex
open Go.RowKit

set_option maxHeartbeats 4000000 in
theorem same_tokens (x y : Value) (a b : List Tok) (w : World) (hx : TokReads w x a) (hy : TokReads w y b) (ha : a.length ≤ 1000000000) :
    Calls Tryz.prog 18 #[x, y] w fun e w' => e = .returned (.bool (decide (a = b))) ∧ Below w.heap.size w w' := by
  obtain ⟨ao, ca, rfl, hca⟩ := hx
  obtain ⟨bo, cb, rfl, hcb⟩ := hy
  by_cases hlen : a.length = b.length
  · obtain ⟨n, hna⟩ : ∃ n, n = a.length := ⟨_, rfl⟩
    have hnb : n = b.length := by omega
    rw [← hna, ← hnb]
    rw [← hna] at ha
    have HE := Lib.hid (fun k (h : n ≤ k) (e : a.take k = b.take k) => show a = b by rwa [List.take_of_length_le (by omega), List.take_of_length_le (by omega)] at e)
    go_enter Tryz.func18, Tryz.ntmps18
    go_wp2_with fail
    go_loopg [5] n (fun r i wr => ∃ k : Nat, r = n - k ∧ i = .int .i64 k ∧ k ≤ n ∧ a.take k = b.take k ∧ Below w.heap.size w wr)
    case atStart => exact ⟨0, rfl, rfl, Nat.zero_le _, by simp, Below.refl _ _⟩
    case round =>
      obtain ⟨k, rfl, rfl, hk, he, hbw⟩ := hrel
      by_cases hlt : k < n
      · have hlt' : (k : Int) < n := by omega
        have hlta : k < a.length := by omega
        have hltb : k < b.length := by omega
        obtain ⟨g, hg, rfl, hc⟩ := hca (fun h => by rw [h] at hlta; cases hlta)
        obtain ⟨g2, hg2, rfl, hd⟩ := hcb (fun h => by rw [h] at hltb; cases hltb)
        obtain ⟨c0, c1, c2, c3⟩ := hc k hlta
        obtain ⟨d0, d1, d2, d3⟩ := hd k hltb
        rw [← hbw.cell (p := ⟨g, _, none⟩) hg] at c0 c1 c2 c3
        rw [← hbw.cell (p := ⟨g2, _, none⟩) hg2] at d0 d1 d2 d3
        have hstep : a[k] = b[k] → a.take (k + 1) = b.take (k + 1) := fun h => by
          rw [List.take_succ_eq_append_getElem hlta, List.take_succ_eq_append_getElem hltb, he, h]
        have hno : a[k] ≠ b[k] → a ≠ b := fun h e => h (by subst e; rfl)
        generalize a[k] = t at *
        generalize b[k] = u at *
        have HBW := Lib.hid hbw
        clear hca hcb hc hd hbw
        have e0 := IntWalk.i64_in k (by omega)
        have hm := tok_guard
        have hq := fun w => neq_tok t u w
        go_wp2_with fail
        go_quiet (fail)
        have HB2 := Lib.hid (below_drewN HBW.out nq)
        clear hm hq e0 c0 c1 c2 c3 d0 d1 d2 d3
        by_cases htu : t = u
        · have HS := Lib.hid (hstep htu)
          have e1 : (!decide (t = u)) = false := by rw [decide_eq_true htu]; rfl
          rw [e1]
          clear hstep hno he htu e1
          go_wp2_with fail
          go_roundg (n - (k + 1))
          case measure => omega
          case rel => exact ⟨k + 1, rfl, by go_num, by omega, HS.out, HB2.out⟩
        · have HS := Lib.hid (hno htu)
          have e1 : (!decide (t = u)) = true := by rw [decide_eq_false htu]; rfl
          rw [e1]
          clear hstep hno he htu e1
          go_wp2_with fail
          go_ret
          exact ⟨by rw [decide_eq_false HS.out]; rfl, HB2.out⟩
      · have hnlt : ¬ (k : Int) < n := by omega
        have HS := Lib.hid (HE.out k (by omega) he)
        have HBW := Lib.hid hbw
        clear he hbw
        go_wp2_with fail
        go_ret
        exact ⟨by rw [decide_eq_true HS.out]; rfl, HBW.out⟩
  · have HS := Lib.hid (show a ≠ b from fun h => hlen (by rw [h]))
    have hl1 : ((a.length : Int) != (b.length : Int)) = true := by rw [bne_iff_ne]; omega
    go_enter Tryz.func18, Tryz.ntmps18
    go_wp2_with fail
    go_ret
    exact ⟨by rw [decide_eq_false HS.out]; rfl, Below.refl _ _⟩

end Go.Proofs.YtajeghkmgcpgiaaGreatDoor.Lex
