/-
  Layer 5: the copies of lists that the laws make; a place's number; a pick.
-/
import Derived.Test.YtmddffacjkkeiaaNdReads
import Derived.Test.YtmddffacjkkeiaaNdMove
import Derived.Deep.AppendSrc
import Derived.Deep.Upon
import Derived.WalkKit
import Derived.WalkSpells
import Derived.WalkLawsBesides
import Derived.Lib.Hide
import Derived.IntWalk
namespace Go.Proofs.Ytmddffacjkkeiaa.Nd
open Go Go.RowKit Go.ChangeShapes Go.WideShapes

theorem wpList_append_lst {P : Program} {w : World} {ops : Array Oper} {rest : List Oper} {o : Oper} {a : Act} {Q : Exit → Act → World → Prop} (hgd : o.guard = none) (s x : Operand) (t : TypeId)
    (ho : o.op = .call { callee := .builtin .append, args := #[s, x], argTypes := #[t, t] })
    (e : TypeId) (z : Value) (bytes : Nat) (ht : P.underlying t = some (.slice e)) (hi : (P.info? e).map (fun i => (i.zero, i.size, i.bytes)) = some (some z, 1, bytes)) (hzs : z.cells.size = 1)
    (hs : a.eval s = .slice none 0 0) (xv : Value) (vs : List Value) (hx : a.eval x = xv) (hL : Lst w xv vs) (h1 : ∀ u ∈ vs, u.oneCell' = true) (h63 : vs.length ≤ maxLen) (hbytes : vs.length * bytes ≤ 140737488355328)
    (h : ∀ v' w', w'.ownsRow w.heap.size e 1 v' vs.length vs → Below w.heap.size w w' → wpList P ops Q rest (a.put o.dst v') w') : wpList P ops Q (o :: rest) a w := by
  obtain ⟨i, hi, hz, hsize, hby⟩ := info_parts hi
  obtain ⟨ao, cap, rfl, hl, hc⟩ := hL
  by_cases hne : vs = []
  · subst hne
    have hsrc : Src P i.size t (.slice ao 0 cap) 0 [] w := by
      cases ao with
      | none => exact Src.ofNil w ht cap
      | some ad => exact Src.ofSlice w ht ad 0 cap [] (by simp) (fun j u hj => by simp at hj) (fun u hu => by cases hu)
    have hrun := run_append_nothing w t t o.type e i ht hi none 0 0 (Nat.le_refl _) _ hsrc
    refine wpList_plain hgd fun K hK' => ?_
    unfold Oper.wp
    simp [execOp, ho, resolve, invoke, builtin, hs, hx, hrun, Result.andThen]
    exact hK' _ _ (h _ _ (World.ownsRow_nil w _ e 1) (Below.refl _ _))
  · obtain ⟨g, off, hg, rfl, hcell⟩ := hc hne
    refine wpList_append_own (w := w) hgd s x t ho w.heap.size e i z 1 bytes ht hi hz hsize hby hzs (by decide) (.slice none 0 0) 0 [] hs (World.ownsRow_nil w _ e 1) ⟨g, off, none⟩ vs.length cap vs hx (by omega) (fun j u hj => ?_) h1 (by omega) (by rw [Nat.zero_add]; exact hbytes) (Nat.le_refl _) (fun v' w' h2 h3 _ => h v' w' ?_ ?_)
    · obtain ⟨hjl, hje⟩ := List.getElem?_eq_some_iff.1 hj
      rw [add_plain, hcell j hjl, hje]
    · rw [Nat.zero_add, List.nil_append] at h2; exact h2
    · exact (Below.refl _ _).grown h3 (Nat.le_refl _) (fun k hk => by simp [Value.ownBlock] at hk)

theorem infoInt : (Try.prog.info? 3).map (fun i => (i.zero, i.size, i.bytes)) = some (some (.int .i64 0), 1, 8) := by kernel_rfl
theorem infoText : (Try.prog.info? 9).map (fun i => (i.zero, i.size, i.bytes)) = some (some (.string ByteArray.empty), 1, 16) := by kernel_rfl

theorem copy_ints (v : Value) (zs : List Int) (w : World) (hL : Lst w v (zs.map (.int .i64))) (hl : zs.length * 8 ≤ 140737488351232) :
    Calls Try.prog 30 #[v] w fun e w' => ∃ v', e = .returned v' ∧ w'.ownsRow w.heap.size 3 1 v' zs.length (zs.map (.int .i64)) ∧ Below w.heap.size w w' := by
  have HL := Lib.hid hL
  obtain ⟨ao, cap, rfl, _, _⟩ := hL
  rw [List.length_map] at *
  have HX := Lib.hid hl
  clear hl
  go_enter Try.func30, Try.ntmps30
  go_wp2_with (at_builtin; refine wpList_append_lst rfl (.tmp 4) (.tmp 5) 28 rfl 3 (.int .i64 0) 8 Try.underlying28 infoInt rfl rfl (.slice ao zs.length cap) (zs.map (.int .i64)) rfl HL.out ?g1 ?g2 ?g3 ?_)
  case g1 => intro u hu; obtain ⟨c, _, rfl⟩ := List.mem_map.1 hu; rfl
  case g2 => have := HX.out; rw [List.length_map]; unfold maxLen; omega
  case g3 => have := HX.out; rw [List.length_map]; omega
  intro v' w' ho hb
  have HO := Lib.hid ho
  have HB := Lib.hid hb
  clear ho hb
  go_wp2_with fail
  go_ret
  exact ⟨_, rfl, HO.out, HB.out⟩

theorem copy_texts (v : Value) (zs : List ByteArray) (w : World) (hL : Lst w v (zs.map .string)) (hl : zs.length * 16 ≤ 140737488351232) :
    Calls Try.prog 48 #[v] w fun e w' => ∃ v', e = .returned v' ∧ w'.ownsRow w.heap.size 9 1 v' zs.length (zs.map .string) ∧ Below w.heap.size w w' := by
  have HL := Lib.hid hL
  obtain ⟨ao, cap, rfl, _, _⟩ := hL
  rw [List.length_map] at *
  have HX := Lib.hid hl
  clear hl
  go_enter Try.func48, Try.ntmps48
  go_wp2_with (at_builtin; refine wpList_append_lst rfl (.tmp 4) (.tmp 5) 27 rfl 9 (.string ByteArray.empty) 16 Try.underlying27 infoText rfl rfl (.slice ao zs.length cap) (zs.map .string) rfl HL.out ?g1 ?g2 ?g3 ?_)
  case g1 => intro u hu; obtain ⟨c, _, rfl⟩ := List.mem_map.1 hu; rfl
  case g2 => have := HX.out; rw [List.length_map]; unfold maxLen; omega
  case g3 => have := HX.out; rw [List.length_map]; omega
  intro v' w' ho hb
  have HO := Lib.hid ho
  have HB := Lib.hid hb
  clear ho hb
  go_wp2_with fail
  go_ret
  exact ⟨_, rfl, HO.out, HB.out⟩

def pickZ (x n : Int) : Int := if n < 1 then 0 else x % n

theorem law_pick (x n : Int) (w : World) (hx : In64 x) (hn : In64 n) : Calls Try.prog 13 #[.int .i64 x, .int .i64 n] w fun e w' => e = .returned (.int .i64 (pickZ x n)) ∧ w = w' := by
  obtain ⟨hx1, hx2⟩ := hx
  obtain ⟨hn1, hn2⟩ := hn
  by_cases h : n < 1
  · have e : pickZ x n = 0 := by unfold pickZ; rw [if_pos h]
    rw [e]
    go_enter Try.func13, Try.ntmps13
    go_wp2_with fail
    go_ret
    exact ⟨rfl, rfl⟩
  · have e : pickZ x n = x % n := by unfold pickZ; rw [if_neg h]
    rw [e]
    have hne : (n == 0) = false := by rw [beq_eq_false_iff_ne]; omega
    have hq := Int.emod_nonneg x (show n ≠ 0 by omega)
    have hq2 := Int.emod_lt_of_pos x (show 0 < n by omega)
    by_cases h0 : x.tmod n < 0
    · have ha : x.tmod n + n = x % n := by
        have := Int.tmod_eq_emod (a := x) (b := n)
        split at this <;> omega
      have hw : IntKind.i64.wrap (x.tmod n + n) = x % n := by rw [ha]; exact IntWalk.i64_in _ (by omega)
      have hw0 := IntWalk.i64_in (x.tmod n) (by omega)
      generalize x % n = q at *
      obtain ⟨r, hr⟩ : ∃ r, x.tmod n = r := ⟨_, rfl⟩
      rw [hr] at h0 hw hw0 ha
      go_enter Try.func13, Try.ntmps13
      go_wp2_with fail
      go_ret
      exact ⟨by go_num, rfl⟩
    · have ha : x.tmod n = x % n := by
        have := Int.tmod_eq_emod (a := x) (b := n)
        split at this <;> omega
      have hw0 := IntWalk.i64_in (x.tmod n) (by omega)
      obtain ⟨r, hr⟩ : ∃ r, x.tmod n = r := ⟨_, rfl⟩
      rw [hr] at h0 hw0 ha
      rw [← ha]
      go_enter Try.func13, Try.ntmps13
      go_wp2_with fail
      go_ret
      exact ⟨by go_num, rfl⟩

theorem law_place (a : Int) (k : Nat) (w : World) (hk : (k : Int) ≤ 9223372036854775806) : Calls Try.prog 29 #[.int .i64 a, .int .i64 (k : Int)] w fun e w' => e = .returned (.int .i64 (placeZ k a)) ∧ w = w' := by
  have hk0 : (0 : Int) ≤ k := Int.natCast_nonneg k
  unfold placeZ
  generalize (k : Int) = z at *
  by_cases h1 : a = z
  · rw [if_pos h1]
    go_enter Try.func29, Try.ntmps29
    go_wp2_with fail
    go_ret
    exact ⟨rfl, rfl⟩
  · rw [if_neg h1]
    by_cases h2 : 0 ≤ a
    · by_cases h3 : a < z
      · rw [if_pos ⟨h2, h3⟩]
        have e := IntWalk.i64_in (a + 1) (by omega)
        go_enter Try.func29, Try.ntmps29
        go_wp2_with fail
        go_ret
        exact ⟨by go_num, rfl⟩
      · rw [if_neg (fun h => h3 h.2)]
        go_enter Try.func29, Try.ntmps29
        go_wp2_with fail
        go_ret
        exact ⟨rfl, rfl⟩
    · rw [if_neg (fun h => h2 h.1)]
      go_enter Try.func29, Try.ntmps29
      go_wp2_with fail
      go_ret
      exact ⟨rfl, rfl⟩

end Go.Proofs.Ytmddffacjkkeiaa.Nd
