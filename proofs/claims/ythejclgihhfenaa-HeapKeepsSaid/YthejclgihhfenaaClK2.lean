import Derived.Test.YthejclgihhfenaaCm3
import Derived.Maps.RangeWalk
import Derived.OpenShut
/-
  'for v, n := range m' over a map of values (api.Value) to numbers, as a function of what is still to come. Nothing of one layer.
-/
namespace Go.Proofs.Ythejclgihhfenaa.Vm
open Go Go.RowKit Go.Proofs.Ythejclgihhfenaa.Pl Go.Proofs.Ythejclgihhfenaa.Tb Go.Maps Go.WideShapes Go.OpenShut

theorem val_inj' {a b : Vl} (h : a.val = b.val) : a = b := by
  obtain ⟨ak, an⟩ := a
  obtain ⟨bk, bn⟩ := b
  have h3 : Value.agg #[.int .u8 (ak : Int), .int .i64 an] = .agg #[.int .u8 (bk : Int), .int .i64 bn] := h
  injection h3 with h3
  have h4 := congrArg Array.toList h3
  injection h4 with h5 h6
  injection h6 with h6
  injection h5 with _ h5
  injection h6 with _ h6
  rw [Vl.mk.injEq]
  exact ⟨by omega, h6⟩
theorem kl_int {d : Nat} {t : TypeId} {q : IntKind} {a : Value} {ls : List Lit} (hu : Try.prog.underlying t = some (.int q)) (h : Try.prog.keyLits (d + 1) t [a] = some ls) : ∃ n, a = .int q n ∧ (Lit.int q n).wf = true ∧ ls = [.int q n] := by
  unfold Program.keyLits at h
  rw [hu] at h
  cases a <;> dsimp only at h <;> try cases h
  rename_i q' n
  split at h
  · rename_i hw
    obtain ⟨rfl, hw⟩ := hw
    exact ⟨n, rfl, hw, (Option.some.inj h).symm⟩
  · cases h
set_option maxRecDepth 100000 in
theorem value_of_key {key : Value} {kl : Lit} (h : keyOf Try.prog 31 key = some kl) : ∃ v : Vl, v.In ∧ key = v.val ∧ kl = kV v := by
  have h0 := h
  unfold keyOf at h
  rw [Try.underlying31] at h
  dsimp only at h
  split at h
  · rename_i hf
    have hf2 : Value.formed Try.prog 31 key = true := by
      rw [Bool.and_eq_true] at hf
      exact hf.2
    obtain ⟨d, hd⟩ : ∃ d, Try.prog.types.size + 1 = d + 1 + 1 := ⟨Try.prog.types.size - 1, by kernel_rfl⟩
    rw [hd] at h
    cases key <;> simp [Value.formed, Try.underlying31] at hf2
    rename_i cs
    rw [cellsOfV] at hf2
    obtain ⟨a, b, rfl⟩ : ∃ a b, cs = #[a, b] := by
      obtain ⟨l⟩ := cs
      match l, hf2 with
      | [a, b], _ => exact ⟨a, b, rfl⟩
    have hl : Try.prog.keyLits (d + 1 + 1) 31 [a, b] = (Try.prog.keyLits (d + 1) 29 [a]).bind (fun x => (Try.prog.keyLits (d + 1) 2 [b]).map (fun y => x ++ y)) := by
      conv => lhs; unfold Program.keyLits
      rw [Try.underlying31]
      simp [cellsOfV, cellsOfK, cellsOfN]
      cases Try.prog.keyLits (d + 1) 29 [a] <;> cases Try.prog.keyLits (d + 1) 2 [b] <;> simp
    rw [show (Value.agg #[a, b]).cells.toList = [a, b] from rfl, hl] at h
    cases hx : Try.prog.keyLits (d + 1) 29 [a] with
    | none => rw [hx] at h; cases h
    | some x =>
      cases hy : Try.prog.keyLits (d + 1) 2 [b] with
      | none => rw [hx, hy] at h; cases h
      | some y =>
        obtain ⟨n, rfl, w1, rfl⟩ := kl_int Try.underlying29 hx
        obtain ⟨m, rfl, w2, rfl⟩ := kl_int Try.underlying2 hy
        rw [hx, hy] at h
        have h1 := bounds_u8 w1
        have h2 := bounds_i64 w2
        refine ⟨⟨n.toNat, m⟩, ⟨by dsimp only; omega, h2⟩, ?_, ?_⟩
        · unfold Vl.val Vl.cells
          dsimp only
          rw [Int.toNat_of_nonneg h1.1]
        · unfold kV
          dsimp only
          rw [Int.toNat_of_nonneg h1.1]
          exact (Option.some.inj h).symm
  · cases h
/-- Block r goes through the map at block b, which holds f: left tells what is still to come. -/
def VRng (et : TypeId) (w : World) (b r N : Nat) (f : Vl → Option Int) (left : Vl → Bool) (cnt : Nat) : Prop := ∃ (D : DataW Unit) (lf : Lit → Bool),
  w.ranges Try.prog 31 (plainElem Try.prog et) b r N D lf cnt ∧ (∀ v : Vl, v.In → Maps.has D (kV v) = (f v).isSome ∧ D.atKey (kV v) (.lit (.int .i64 0)) = .lit (.int .i64 ((f v).getD 0))) ∧ ∀ v : Vl, v.In → lf (kV v) = left v
section
variable {mt et : TypeId} {M : Obj} {N sz cnt b r : Nat} {f : Vl → Option Int} {left : Vl → Bool} {w w' : World}
theorem VRng.kept {row : Option Nat} (h : VRng et w b r N f left cnt) (hg : w.grownBy w' row) (hb : some b ≠ row) (hr : some r ≠ row) : VRng et w' b r N f left cnt := by
  obtain ⟨D, lf, h1, h2, h3⟩ := h
  exact ⟨D, lf, h1.kept hg hb hr, h2, h3⟩
variable {o : Oper} {a : Act} {ops : Array Oper} {Q : Exit → Act → World → Prop} {rest : List Oper}
theorem wpList_range_v (T : Ty mt et) (hg : o.guard = none) (m : Operand) (hop : o.op = Op.range mt m) (hm : a.eval m = .map (some b)) (h : VMapIs et M N sz f) (hb : w.heap[b]? = some M)
    (hK : ∀ w', VRng et w' b w.heap.size N f (fun s => (f s).isSome) sz → w.grownBy w' none → w'.heap.size = w.heap.size + 1 → wpList Try.prog ops Q rest (a.put o.dst (.pointer (some ⟨w.heap.size, 0, none⟩))) w') : wpList Try.prog ops Q (o :: rest) a w := by
  obtain ⟨D, hs, ho, hf⟩ := h
  refine wpList_range_own w hg m mt hop 31 et keyedV T.map (plainElem Try.prog et) b N D hm (ho w b hb) (fun w' h1 h2 h3 => hK w' ⟨D, Maps.has D, hs ▸ h1, hf, fun s hs => (hf s hs).1⟩ h2 h3)
set_option maxRecDepth 100000 in
theorem wpList_next_v (T : Ty mt et) (hg : o.guard = none) (it : Operand) (hop : o.op = Op.next it false) (hit : a.eval it = .pointer (some ⟨r, 0, none⟩)) (h : VRng et w b r N f left cnt)
    (hDone : cnt = 0 → (∀ v : Vl, v.In → left v = false) → wpList Try.prog ops Q rest (a.put o.dst (.tuple #[.bool false])) w)
    (hMore : ∀ (v : Vl) (n : Int) (w' : World) (cnt' : Nat), v.In → left v = true → f v = some n → VRng et w' b r N f (fun j => left j && !decide (j = v)) cnt' → cnt' < cnt → w.grownBy w' (some r) → w'.heap.size = w.heap.size →
      (Instr.entry (.pointer (some ⟨r, 0, none⟩))).run Try.prog w' = .ok (.tuple #[v.val, .int .i64 n]) w' → wpList Try.prog ops Q rest (a.put o.dst (.tuple #[.bool true, v.val, .int .i64 n])) w') : wpList Try.prog ops Q (o :: rest) a w := by
  obtain ⟨D, lf, hr, hf, hl⟩ := h
  refine wpList_next_ranges w hg it hop 31 keyedV (plainElem Try.prog et) Vl.val (Value.int .i64) (fun key kl hk => ?_) (fun v y hv => ?_) b r N D lf cnt hit hr (fun h0 h1 => hDone h0 (fun s hs => (hl s hs).symm.trans (h1 _))) ?_
  · obtain ⟨s, _, rfl, _⟩ := value_of_key hk
    exact ⟨s, rfl⟩
  · obtain ⟨u, rfl, _⟩ := plainElem_int_inv T.elem hv
    exact ⟨u, rfl⟩
  · intro s u kl y w' cnt' hkey hlk hv hat hr' hlt hg' hs' hen
    obtain ⟨s', hs, e1, rfl⟩ := value_of_key hkey
    obtain rfl := val_inj' e1
    obtain ⟨u', e2, rfl, _⟩ := plainElem_int_inv T.elem hv
    obtain rfl : u = u' := by injection e2
    obtain ⟨f1, f2⟩ := hf s hs
    have hsome : (f s).isSome = true := f1.symm.trans (has_true_of_atKey hat)
    have h4 := f2.symm.trans (hat _)
    have he : (f s).getD 0 = u := by
      injection h4 with h4
      injection h4
    have hfu : f s = some u := by
      cases hx : f s with
      | none => rw [hx] at hsome; cases hsome
      | some x => rw [hx] at he; exact congrArg some he
    refine hMore s u w' cnt' hs ((hl s hs).symm.trans hlk) hfu ⟨D, _, hr', hf, fun j hj => ?_⟩ hlt hg' hs' hen
    dsimp only
    rw [hl j hj]
    by_cases e : j = s
    · subst e
      rw [decide_eq_true rfl, WideAt.sameKey_self (kV_key j)]
    · rw [decide_eq_false e, sameKey_ne (kV_ne hj hs e)]
end
end Go.Proofs.Ythejclgihhfenaa.Vm
