/-
  Layer 5: the great examples: a chain to the left, a table of many items; and the small ones, reckoned out.
-/
import Derived.Test.YtmddffacjkkeiaaDvReturned
import Derived.Test.YtmddffacjkkeiaaDvChk
import Derived.Test.YtmddffacjkkeiaaNdPost
namespace Go.Proofs.Ytmddffacjkkeiaa.Nd

def nBin (op : Int) (a b : Int) : Nd := ⟨31, op, ⟨#[]⟩, [], [a, b], 1⟩
def nParen (a : Int) : Nd := ⟨38, 0, ⟨#[]⟩, [], [a], 1⟩
def nUn (op : Int) (a : Int) : Nd := ⟨34, op, ⟨#[]⟩, [], [a], 1⟩
def nItem (a : Int) : Nd := ⟨36, 0, ⟨#[]⟩, [], [a], 1⟩
def nTable (ks : List Int) : Nd := ⟨35, 0, ⟨#[]⟩, [], ks, 1⟩

theorem n_bare : rightB (rowD nmD) (ret [leafN, leafN, nBin 1 0 1, leafN, nBin 3 2 3]) 7 = false := by kernel_rfl
theorem n_paren : rightB (rowD nmD) (ret [leafN, leafN, nBin 1 0 1, nParen 2, leafN, nBin 3 3 4]) 8 = true := by kernel_rfl
theorem n_tight : rightB (rowD nmD) (ret [leafN, leafN, leafN, nBin 3 1 2, nBin 1 0 3]) 7 = true := by kernel_rfl
theorem n_right : rightB (rowD nmD) (ret [leafN, leafN, leafN, nBin 11 1 2, nBin 11 0 3]) 7 = true := by kernel_rfl
theorem n_left : rightB (rowD nmD) (ret [leafN, leafN, nBin 11 0 1, leafN, nBin 11 2 3]) 7 = false := by kernel_rfl
theorem n_same : rightB (rowD nmD) (ret [leafN, leafN, leafN, nBin 2 1 2, nBin 1 0 3]) 7 = false := by kernel_rfl
theorem n_not : rightB (rowD nmD) (ret [leafN, leafN, nBin 12 0 1, nUn 19 2]) 6 = false := by kernel_rfl
theorem n_neg : rightB (rowD nmD) (ret [leafN, nUn 18 0, leafN, nBin 3 1 2]) 6 = true := by kernel_rfl
theorem n_shift : rightB (rowD nmD) (ret [leafN, leafN, leafN, nBin 1 1 2, nBin 9 0 3]) 7 = true := by kernel_rfl

/-- Parentheses, n of them. -/
def parens : Nat → List Nd
  | 0 => [leafN]
  | n + 1 => parens n ++ [nParen (n : Int)]
theorem parens_len : ∀ n, (parens n).length = n + 1
  | 0 => rfl
  | n + 1 => by unfold parens; rw [List.length_append, parens_len n]; rfl
theorem parens_97 : rightB (rowD nmD) (ret (parens 97)) 100 = true := by kernel_rfl
theorem parens_98 : rightB (rowD nmD) (ret (parens 98)) 101 = true := by kernel_rfl
theorem parens_99 : rightB (rowD nmD) (ret (parens 99)) 102 = false := by kernel_rfl
theorem parens_100 : rightB (rowD nmD) (ret (parens 100)) 103 = false := by kernel_rfl

/-- A chain to the left: n sums. -/
def chain : Nat → List Nd
  | 0 => [leafN]
  | n + 1 => chain n ++ [leafN, nBin 1 (2 * n : Nat) (2 * n + 1 : Nat)]
theorem chain_len : ∀ n, (chain n).length = 2 * n + 1
  | 0 => rfl
  | n + 1 => by unfold chain; rw [List.length_append, chain_len n]; rfl
/-- The first items of a table. -/
def big : Nat → List Nd
  | 0 => []
  | n + 1 => big n ++ [leafN, nItem (2 * n : Nat)]
theorem big_len : ∀ n, (big n).length = 2 * n
  | 0 => rfl
  | n + 1 => by unfold big; rw [List.length_append, big_len n]; rfl
def itemsS : Nat → List (Int × Nat)
  | 0 => []
  | n + 1 => itemsS n ++ [(((2 * n + 1 : Nat) : Int), 1)]
def items (n : Nat) : List Int := (itemsS n).map (·.1)

theorem leaf_push {l : List Nd} {S : List (Int × Nat)} (h : Nat) (hP : Post (rowD nmD) l S) : Post (rowD nmD) (l ++ [leafN]) (S ++ [((l.length : Int), h)]) :=
  Post.push (K := []) (by rw [List.append_nil]; exact hP) rfl (fun p x hx => by cases hx) (by kernel_rfl)

theorem chain_post : ∀ n, Post (rowD nmD) (chain n) [(((2 * n : Nat) : Int), 1)] ∧ ((at' (chain n) ((2 * n : Nat) : Int)).k, (at' (chain n) ((2 * n : Nat) : Int)).n) = if n = 0 then (23, 5) else (31, 1)
  | 0 => ⟨leaf_push 1 .nil, rfl⟩
  | n + 1 => by
    obtain ⟨h1, h2⟩ := chain_post n
    have h3 := leaf_push 0 h1
    rw [chain_len] at h3
    have ein : inR (chain n) ((2 * n : Nat) : Int) := ⟨Int.natCast_nonneg _, by rw [chain_len]; omega⟩
    have e : chain (n + 1) = (chain n ++ [leafN]) ++ [nBin 1 (2 * n : Nat) (2 * n + 1 : Nat)] := by
      show chain n ++ _ = _
      rw [List.append_assoc]; rfl
    have hl : (chain n ++ [leafN]).length = 2 * (n + 1) := by rw [List.length_append, chain_len]; rfl
    have hk : kinds (chain n ++ [leafN]) (nBin 1 (2 * n : Nat) (2 * n + 1 : Nat)) = [if n = 0 then (23, 5) else (31, 1), (23, 5)] := by
      show [((at' _ ((2 * n : Nat) : Int)).k, (at' _ ((2 * n : Nat) : Int)).n), ((at' _ ((2 * n + 1 : Nat) : Int)).k, (at' _ ((2 * n + 1 : Nat) : Int)).n)] = _
      rw [at_old ein, h2, show ((2 * n + 1 : Nat) : Int) = ((chain n).length : Int) by rw [chain_len], at_new]
    have h4 := Post.push (S := []) (K := [(((2 * n : Nat) : Int), 1), (((2 * n + 1 : Nat) : Int), 0)]) (nd := nBin 1 (2 * n : Nat) (2 * n + 1 : Nat)) (h := 1) h3 rfl (fun p x hx => by
      match p, hx with
      | 0, hx => cases hx; exact Nat.le_refl _
      | 1, hx => cases hx; exact Nat.le_refl _
      | p + 2, hx => cases hx) (by
      rw [hk]
      by_cases h0 : n = 0
      · rw [if_pos h0]
        show rowD nmD ⟨31, 1, ⟨#[]⟩, [], [], 1⟩ [(23, 5), (23, 5)] = true
        kernel_rfl
      · rw [if_neg h0]
        show rowD nmD ⟨31, 1, ⟨#[]⟩, [], [], 1⟩ [(31, 1), (23, 5)] = true
        kernel_rfl)
    rw [hl] at h4
    rw [e]
    refine ⟨h4, ?_⟩
    rw [← hl, at_new, if_neg (by omega)]
    rfl

/-- What is returned is right, if it stands alone and is an expression. -/
theorem ret_right {l : List Nd} {r : Int} {h : Nat} {k : Nat} {n : Int} (hP : Post (rowD nmD) l [(r, h)]) (hk : ((at' l r).k, (at' l r).n) = (k, n)) (hr : rowD nmD ⟨12, 0, ⟨#[]⟩, [], [], 1⟩ [(k, n)] = true) (hl : l.length + 3 ≤ 4096) (hh : h + 2 ≤ 100) :
    RightP (rowD nmD) (ret l) ((l.length : Int) + 2) := by
  have s1 := Post.push (S := []) (K := [(r, h)]) (nd := ⟨12, 0, ⟨#[]⟩, [], [r], 1⟩) (h := h + 1) hP rfl (fun p x hx => by
    match p, hx with
    | 0, hx => cases hx; exact Nat.le_refl _
    | p + 1, hx => cases hx) (by
    show rowD nmD _ [((at' l r).k, (at' l r).n)] = true
    rw [hk]
    exact hr)
  have hroot := hP.root
  rw [hroot] at s1
  have s2 := Post.push (S := []) (K := [((l.length : Int), h + 1)]) (nd := ⟨1, 0, ⟨#[]⟩, [], [(l.length : Int)], 1⟩) (h := h + 1) s1 rfl (fun p x hx => by
    match p, hx with
    | 0, hx => cases hx; exact Nat.le_refl _
    | p + 1, hx => cases hx) (by
    show rowD nmD _ [((at' _ ((l.length : Nat) : Int)).k, (at' _ ((l.length : Nat) : Int)).n)] = true
    rw [at_new]
    show rowD nmD ⟨1, 0, ⟨#[]⟩, [], [], 1⟩ [(12, 0)] = true
    kernel_rfl)
  rw [List.length_append, List.length_singleton] at s2
  obtain ⟨l1, hl1⟩ : ∃ l1, l ++ [(⟨12, 0, ⟨#[]⟩, [], [(l.length : Int) - 1], 1⟩ : Nd)] = l1 := ⟨_, rfl⟩
  have hn1 : l1.length = l.length + 1 := by rw [← hl1, List.length_append]; rfl
  rw [hl1] at s2
  have s3 := Post.push (S := []) (K := [(((l.length + 1 : Nat) : Int), h + 1)]) (nd := ⟨26, 1, ⟨#[]⟩, [], [(l.length : Int) + 1], 1⟩) (h := h + 2) s2 (by simp) (fun p x hx => by
    match p, hx with
    | 0, hx => cases hx; exact Nat.le_refl _
    | p + 1, hx => cases hx) (by
    show rowD nmD _ [((at' _ ((l.length : Int) + 1)).k, (at' _ ((l.length : Int) + 1)).n)] = true
    rw [show (l.length : Int) + 1 = (l1.length : Int) by rw [hn1]; omega, at_new]
    show rowD nmD ⟨26, 1, ⟨#[]⟩, [], [], 1⟩ [(1, 0)] = true
    kernel_rfl)
  have e : ret l = l1 ++ [⟨1, 0, ⟨#[]⟩, [], [(l.length : Int)], 1⟩] ++ [⟨26, 1, ⟨#[]⟩, [], [(l.length : Int) + 1], 1⟩] := by
    rw [← hl1]
    unfold ret
    simp
  have e2 : (l.length : Int) + 2 = ((l1 ++ [(⟨1, 0, ⟨#[]⟩, [], [(l.length : Int)], 1⟩ : Nd)]).length : Int) := by rw [List.length_append, hn1]; simp; omega
  rw [e, e2]
  refine s3.right ?_ (by omega) (by rw [at_new]; exact ⟨rfl, rfl, rfl⟩)
  rw [List.length_append, List.length_append, hn1]
  simp
  omega

theorem chain_right : RightP (rowD nmD) (ret (chain 600)) 1203 := by
  obtain ⟨h1, h2⟩ := chain_post 600
  have := ret_right h1 (h2.trans (if_neg (by decide))) (by kernel_rfl) (by rw [chain_len]; decide) (by decide)
  rw [chain_len] at this
  exact this

theorem items_at {l : List Nd} {n : Nat} (h : ∀ i, i < n → (at' l ((2 * i + 1 : Nat) : Int)).k = 36 ∧ (at' l ((2 * i + 1 : Nat) : Int)).n = 0) : (items n).map (fun c => ((at' l c).k, (at' l c).n)) = List.replicate n (36, 0) := by
  induction n with
  | zero => rfl
  | succ n ih =>
    unfold items itemsS
    rw [List.map_append, List.map_append, List.replicate_succ']
    have := ih (fun i hi => h i (by omega))
    unfold items at this
    rw [this]
    obtain ⟨a, b⟩ := h n (by omega)
    show _ ++ [((at' l ((2 * n + 1 : Nat) : Int)).k, (at' l ((2 * n + 1 : Nat) : Int)).n)] = _
    rw [a, b]
theorem itemsS_len : ∀ n, (itemsS n).length = n
  | 0 => rfl
  | n + 1 => by unfold itemsS; rw [List.length_append, itemsS_len n]; rfl
theorem itemsS_one : ∀ (n : Nat) (x : Int × Nat), x ∈ itemsS n → x.2 = 1
  | 0, x, h => by cases h
  | n + 1, x, h => by
    unfold itemsS at h
    rcases List.mem_append.1 h with h | h
    · exact itemsS_one n x h
    · rw [List.mem_singleton] at h; subst h; rfl
theorem big_post : ∀ n, Post (rowD nmD) (big n) (itemsS n) ∧ ∀ i, i < n → (at' (big n) ((2 * i + 1 : Nat) : Int)).k = 36 ∧ (at' (big n) ((2 * i + 1 : Nat) : Int)).n = 0
  | 0 => ⟨.nil, fun i h => absurd h (Nat.not_lt_zero i)⟩
  | n + 1 => by
    obtain ⟨h1, h2⟩ := big_post n
    have h3 := leaf_push 0 h1
    rw [big_len] at h3
    have e : big (n + 1) = (big n ++ [leafN]) ++ [nItem (2 * n : Nat)] := by
      show big n ++ _ = _
      rw [List.append_assoc]; rfl
    have hl : (big n ++ [leafN]).length = 2 * n + 1 := by rw [List.length_append, big_len]; rfl
    have h4 := Post.push (S := itemsS n) (K := [(((2 * n : Nat) : Int), 0)]) (nd := nItem (2 * n : Nat)) (h := 1) h3 rfl (fun p x hx => by
      match p, hx with
      | 0, hx => cases hx; exact Nat.le_refl _
      | p + 1, hx => cases hx) (by
      show rowD nmD _ [((at' _ ((2 * n : Nat) : Int)).k, (at' _ ((2 * n : Nat) : Int)).n)] = true
      rw [show ((2 * n : Nat) : Int) = ((big n).length : Int) by rw [big_len], at_new]
      show rowD nmD ⟨36, 0, ⟨#[]⟩, [], [], 1⟩ [(23, 5)] = true
      kernel_rfl)
    rw [hl] at h4
    rw [e]
    refine ⟨h4, fun i hi => ?_⟩
    by_cases hin : i = n
    · subst hin
      rw [← hl, at_new]
      exact ⟨rfl, rfl⟩
    · have ein : inR (big n) ((2 * i + 1 : Nat) : Int) := ⟨Int.natCast_nonneg _, by rw [big_len]; omega⟩
      rw [at_old (inR_more ein), at_old ein]
      exact h2 i (by omega)

theorem all_36 (n : Nat) : (List.replicate n (36 : Nat)).all (isB [36, 37]) = true := by
  rw [List.all_eq_true]
  intro x hx
  rw [List.mem_replicate] at hx
  rw [hx.2]
  rfl
theorem row_table (n : Nat) : rowD nmD ⟨35, 0, ⟨#[]⟩, [], [], 1⟩ (List.replicate n (36, 0)) = true := by
  have e : (List.replicate n ((36 : Nat), (0 : Int))).map (·.1) = List.replicate n 36 := by rw [List.map_replicate]
  unfold rowD
  rw [e]
  have hk : kidsB 35 0 (List.replicate n 36) = true := by
    show areB (List.replicate n 36) 0 ((List.replicate n 36).length : Int) (isB [36, 37]) = true
    unfold areB
    rw [List.length_replicate, Int.toNat_natCast, Int.toNat_zero, List.drop_zero, Nat.sub_zero, List.take_of_length_le (by simp), all_36, Bool.and_true, decide_eq_true_iff]
    omega
  show (_ && kidsB 35 0 (List.replicate n 36) && fitsD ⟨35, 0, ⟨#[]⟩, [], [], 1⟩ _) = true
  rw [hk, Bool.and_true]
  have e1 : (decide (1 ≤ (1 : Int)) && ownB nmD ⟨35, 0, ⟨#[]⟩, [], [], 1⟩) = true := by kernel_rfl
  have e2 : ∀ ks, fitsD ⟨35, 0, ⟨#[]⟩, [], [], 1⟩ ks = true := fun ks => rfl
  rw [e2, Bool.and_true]
  exact e1
def full : List Nd := big 2046 ++ [nTable (items 2046)]
theorem full_len : full.length = 4093 := by unfold full; rw [List.length_append, big_len]; rfl
theorem table_right (n : Nat) (hn : 2 * n + 4 ≤ 4096) : RightP (rowD nmD) (ret (big n ++ [nTable (items n)])) (((2 * n + 1 : Nat) : Int) + 2) := by
  obtain ⟨h1, h2⟩ := big_post n
  have h3 := Post.push (S := []) (K := itemsS n) (nd := nTable (items n)) (h := 1) h1 rfl (fun p x hx => by
    have := itemsS_one _ x (List.mem_of_getElem? hx)
    rw [this]
    exact Nat.le_refl _) (by
    show rowD nmD ⟨35, 0, ⟨#[]⟩, [], [], 1⟩ ((items n).map _) = true
    rw [items_at h2]
    exact row_table _)
  have hl : (big n ++ [nTable (items n)]).length = 2 * n + 1 := by rw [List.length_append, big_len]; rfl
  have := ret_right (k := 35) (n := 0) h3 (by rw [at_new]; rfl) (by kernel_rfl) (by rw [hl]; omega) (by decide)
  rw [hl] at this
  exact this
theorem full_right : RightP (rowD nmD) (ret full) 4095 := table_right 2046 (by decide)
def over : List Nd := big 2047 ++ [nTable (items 2047)]
theorem over_len : over.length = 4095 := by unfold over; rw [List.length_append, big_len]; rfl
theorem over_wrong (root : Int) : ¬ RightC (rowD nmD) (ret over) root := fun H => by
  have := H.few
  rw [ret_len, over_len] at this
  omega

end Go.Proofs.Ytmddffacjkkeiaa.Nd
