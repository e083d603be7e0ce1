/-
  Layer 13: the developers' table: the first place behind another that is not dead; Next.
-/
import Derived.Test.YtlpbciclkagnbaaTdNew
namespace Go.Proofs.Ytlpbciclkagnbaa.Td
open Go Go.RowKit Go.Proofs.Ytlpbciclkagnbaa.Pl Go.Proofs.Ytlpbciclkagnbaa.Tb

theorem infoPlace : ∃ j, Try.prog.info? 29 = some j ∧ j.size ≠ 0 := by
  obtain ⟨j, hj⟩ : ∃ j, Try.prog.info? 29 = some j := Option.isSome_iff_exists.1 (show (Try.prog.info? 29).isSome = true by kernel_rfl)
  refine ⟨j, hj, ?_⟩
  have h : (Try.prog.info? 29).map (·.size) = some 7 := by kernel_rfl
  rw [hj] at h
  have h : j.size = 7 := Option.some.inj h
  rw [h]
  decide
theorem neq_same (a : Addr) (w : World) : (binOp .neq 27 (.pointer (some a)) (.pointer (some a))).run Try.prog w = .ok (.bool false) w := by
  obtain ⟨j, hj, hs⟩ := infoPlace
  have h : ∀ d : Nat, (Op.equalIn (d + 1) 27 (.pointer (some a)) (.pointer (some a))).run Try.prog w = .ok true w := fun d => by
    simp [Op.equalIn, run_underlying Try.underlying27, sizeOf, typeInfo, hj, run_sameAddr_same]
  simp only [binOp]
  simp [Op.equal, Op.maxDepth, h 9999]
theorem neq_other {a b : Addr} {w : World} {ca cb : Array Value} {ta tb : TypeId} (hne : a ≠ b) (ha : w.heap[a.block]? = some (.cells ca ta (0, 0))) (hb : w.heap[b.block]? = some (.cells cb tb (0, 0))) :
    (binOp .neq 27 (.pointer (some a)) (.pointer (some b))).run Try.prog w = .ok (.bool true) w := by
  obtain ⟨j, hj, hs⟩ := infoPlace
  have h : ∀ d : Nat, (Op.equalIn (d + 1) 27 (.pointer (some a)) (.pointer (some b))).run Try.prog w = .ok false w := fun d => by
    simp [Op.equalIn, run_underlying Try.underlying27, sizeOf, typeInfo, hj, hs, run_sameAddr_other w hne ha hb]
  simp only [binOp]
  simp [Op.equal, Op.maxDepth, h 9999]
theorem next1_fn (g : Nat) (k : Nat) (w : World) (h : w.cell? ⟨g, 2, none⟩ = some (.int .u8 (k : Int))) :
    Calls Try.prog 19 #[.pointer (some ⟨g, 0, none⟩)] w fun e w' => e = .returned (.bool (decide (k ≠ 0))) ∧ w' = w := by
  have c := dead_fn g k w h
  rw [show decide (k ≠ 0) = !decide (k = 0) from by simp]
  generalize decide (k = 0) = B at *
  clear h
  go_enter Try.func19, Try.ntmps19
  go_wp2_with fail
  refine c.mono ?_
  rintro e w1 ⟨rfl, rfl⟩
  go_wp2_with fail
  go_ret
  exact ⟨rfl, rfl⟩
def liveP (p : Plc) : Bool := decide (p.v.kind ≠ 0)
def hereA (b : Nat) (l : List Plc) : Addr := match l.find? liveP with | none => endA b | some q => adr q
section
variable {w w' : World} {b mb : Nat} {l l1 l2 : List Plc} {lv ln : Int} {p : Plc}
theorem TM.nexts (h : TM w b mb (l1 ++ p :: l2) lv ln) : w.cell? ⟨p.b, 5, none⟩ = some (.pointer (some (nextA b l2))) := h.split.2.2.1.1
theorem TM.firsts (h : TM w b mb l lv ln) : w.cell? ⟨b, 7, none⟩ = some (.pointer (some (nextA b l))) := by
  have h0 := h.links
  cases l with
  | nil => exact h0.1.1
  | cons p l => exact h0.1.1
theorem TM.differs (h : TM w b mb l lv ln) (hp : p ∈ l) : (binOp .neq 27 (.pointer (some ⟨p.b, 0, none⟩)) (.pointer (some ⟨b, 2, none⟩))).run Try.prog w = .ok (.bool true) w := by
  obtain ⟨c1, h1, _⟩ := (h.nodes p hp).shape
  obtain ⟨c2, h2, _⟩ := h.head.shape
  exact neq_other (a := ⟨p.b, 0, none⟩) (b := ⟨b, 2, none⟩) (ne_off (by decide)) h1 h2
theorem behind_fn (h : TM w b mb (l1 ++ l2) lv ln) (xb xo : Nat) (hx : w.cell? ⟨xb, xo + 5, none⟩ = some (.pointer (some (nextA b l2)))) :
    Calls Try.prog 18 #[.pointer (some ⟨b, 0, none⟩), .pointer (some ⟨xb, xo, none⟩), .func (.func 19) #[] #[]] w fun e w' => e = .returned (.pointer (some (hereA b l2))) ∧ w' = w := by
  have HH := Lib.hid h
  clear h
  go_enter Try.func18, Try.ntmps18
  go_wp2_with fail
  go_loopg [1] l2.length (fun r x wr => ∃ l3 l4 : List Plc, r = l3.length ∧ x = .pointer (some (nextA b l3)) ∧ l2 = l4 ++ l3 ∧ hereA b l3 = hereA b l2 ∧ wr = w)
  case atStart => exact ⟨l2, [], rfl, rfl, rfl, rfl, rfl⟩
  case round =>
    obtain ⟨l3, l4, rfl, rfl, hl, hf, rfl⟩ := hrel
    have HL := Lib.hid hl
    have HF := Lib.hid hf
    clear hl hf
    cases l3 with
    | nil =>
      have hq := neq_same ⟨b, 2, none⟩ wr
      rw [show nextA b [] = ⟨b, 2, none⟩ from rfl]
      go_wp2_with fail
      go_ret
      exact ⟨congrArg (fun a => Ending.returned (.pointer (some a))) ((show (⟨b, 2, none⟩ : Addr) = hereA b [] from rfl).trans HF.out), rfl⟩
    | cons q l3 =>
      have hq : q ∈ l1 ++ l2 := by rw [HL.out]; simp
      have hd := HH.out.differs hq
      have hv := (HH.out.nodes q hq).v0
      have hn : wr.cell? ⟨q.b, 5, none⟩ = some (.pointer (some (nextA b l3))) := by
        have := HH.out
        rw [HL.out, ← List.append_assoc] at this
        exact this.nexts
      have c := next1_fn q.b q.v.kind wr hv
      rw [show nextA b (q :: l3) = ⟨q.b, 0, none⟩ from rfl]
      have HQ := Lib.hid (show hereA b (q :: l3) = if liveP q then adr q else hereA b l3 from by unfold hereA; rw [List.find?_cons]; cases liveP q <;> rfl)
      by_cases hk : q.v.kind = 0
      · rw [show decide (q.v.kind ≠ 0) = false from by simp [hk]] at c
        have HQ2 := Lib.hid (HQ.out.trans (if_neg (by unfold liveP; simp [hk])))
        clear hk hv HQ
        go_wp2_with fail
        refine c.mono ?_
        rintro e w1 ⟨rfl, rfl⟩
        go_wp2_with fail
        go_roundg l3.length
        case rel => exact ⟨l3, l4 ++ [q], rfl, rfl, by rw [HL.out]; simp, HQ2.out.symm.trans HF.out, rfl⟩
        case measure => exact Nat.lt_succ_self _
      · rw [show decide (q.v.kind ≠ 0) = true from by simp [hk]] at c
        have HQ2 := Lib.hid (HQ.out.trans (if_pos (by unfold liveP; simp [hk])))
        clear hk hv HQ
        go_wp2_with fail
        refine c.mono ?_
        rintro e w1 ⟨rfl, rfl⟩
        go_wp2_with fail
        go_ret
        exact ⟨congrArg (fun a => Ending.returned (.pointer (some a))) ((show (⟨q.b, 0, none⟩ : Addr) = adr q from rfl).trans (HQ2.out.symm.trans HF.out)), rfl⟩
end
end Go.Proofs.Ytlpbciclkagnbaa.Td
