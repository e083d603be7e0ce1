/-
  Layer 13: the developers' table: all that its calls must say.
-/
import Derived.Test.YtlpbciclkagnbaaTdSet
namespace Go.Proofs.Ytlpbciclkagnbaa.Td
open Go Go.RowKit Go.Proofs.Ytlpbciclkagnbaa.Pl Go.Proofs.Ytlpbciclkagnbaa.Tb

section
variable {w : World} {b : Nat} {t : Tbl} {F : List Nat}
theorem next_says (k : Vl) (h : TA w b t F) (hk : k.In) : Calls Try.prog 7 #[.pointer (some ⟨b, 0, none⟩), k.val] w (fun e w' => e = .returned (.tuple #[(nextT t k).1.val, (nextT t k).2.1.val, .int .i64 (nextT t k).2.2]) ∧ Below w.heap.size w w') := by
  obtain ⟨mb, l, vf, fd, lv, ln, hT, hF, hI, rfl, rfl⟩ := h
  by_cases h0 : k.kind = 0
  · obtain ⟨kk, kn⟩ := k
    dsimp only at h0
    subst h0
    have e : nextT (tblOf l) ⟨0, kn⟩ = ((firstT (tblOf l)).1, (firstT (tblOf l)).2, 0) := by unfold nextT; rw [if_pos rfl]
    rw [e]
    exact next_nil hT kn
  · rcases find_cases l k with ⟨f1, f2, _, _⟩ | ⟨p, hp1, hpk, f1, f2, _⟩
    · have e : nextT (tblOf l) k = (nilV, nilV, 2) := by unfold nextT; rw [if_neg h0, f2, if_neg (by decide)]
      rw [e]
      exact next_none hT k hk h0 f1
    · obtain ⟨l1, l2, rfl⟩ := List.append_of_mem hp1
      have e : nextT (tblOf (l1 ++ p :: l2)) k = ((firstT (tblOf l2)).1, (firstT (tblOf l2)).2, 0) := by
        unfold nextT
        rw [if_neg h0, f2, if_pos rfl, ← hpk, behind_is l1 p l2 hT.keys]
      rw [e, ← hpk]
      exact next_some hT (by rw [hpk]; exact h0)
theorem table_says : TableSays TA where
  mem h := h.mem
  keep h ht hn := h.keep ht hn
  ok h := h.ok
  new w := (new_fn' w).mono fun e w' ⟨b, mb, he, h1, h2, hT, h9, hb⟩ => by
    refine ⟨b, mb :: tableG b (.slice none 0 0) [], he, ⟨mb, [], .slice none 0 0, [], 0, 0, hT, ⟨h9, World.ownsRow_nil _ _ _ _⟩, ⟨rfl, ⟨0, rfl, fun i hi => absurd hi (Nat.not_lt_zero _), rfl⟩, ⟨List.nodup_nil, fun _ h => absurd h List.not_mem_nil, fun _ h => absurd h List.not_mem_nil, fun _ h => absurd h List.not_mem_nil⟩⟩, rfl, rfl⟩, fun k hk => ?_, hb⟩
    rcases in_table.1 hk with e | e | e | ⟨q, hq, _⟩
    · rw [e]; exact h2
    · rw [e]; exact h1
    · cases e
    · cases hq
  set k v h hk hv hl := set_fn' k v h hk hv hl
  get k h hk := by
    obtain ⟨mb, l, vf, fd, lv, ln, hT, hF, hI, rfl, rfl⟩ := h
    exact get_fn' hT k hk
  len h := by
    obtain ⟨mb, l, vf, fd, lv, ln, hT, hF, hI, rfl, rfl⟩ := h
    obtain ⟨n, hn, hb⟩ := hI.len
    exact (len_fn' hT).mono fun e w' ⟨he, hw⟩ => ⟨n, by rw [he, hn], hb, by rw [hw]; exact Below.refl _ _⟩
  next k h hk := next_says k h hk
  count h := by
    obtain ⟨mb, l, vf, fd, lv, ln, hT, hF, hI, rfl, rfl⟩ := h
    exact (count_fn' hT).mono fun e w' ⟨he, hw⟩ => ⟨by rw [he, hI.live], by rw [hw]; exact Below.refl _ _⟩
end
end Go.Proofs.Ytlpbciclkagnbaa.Td
