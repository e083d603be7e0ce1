/-
  Layer 5: what the examples' syntaxes are in memory, and what Right tells of them.
-/
import Derived.Test.YtmddffacjkkeiaaDvFam
import Derived.Test.YtmddffacjkkeiaaDvAwake
namespace Go.Proofs.Ytmddffacjkkeiaa.Nd
open Go Go.RowKit Go.ChangeShapes Go.WideShapes Go.Shelf
open Go.Proofs.Ytmddffacjkkeiaa.Rf

theorem fine_leafN : Fine leafN := of_decide_eq_true (by kernel_rfl)
theorem in_small {z : Int} (h : 0 ≤ z) (h2 : z ≤ 100000) : In64 z := by constructor <;> omega
theorem fine_plain {k : Nat} {n line : Int} {ks : List Int} (hk : k < 256) (hn : 0 ≤ n ∧ n ≤ 100000) (hl : 0 ≤ line ∧ line ≤ 100000) (hks : ∀ c ∈ ks, 0 ≤ c ∧ c ≤ 100000) (hlen : ks.length ≤ 100000) : Fine ⟨k, n, ⟨#[]⟩, [], ks, line⟩ := by
  refine ⟨hk, in_small hn.1 hn.2, in_small hl.1 hl.2, fun c hc => in_small (hks c hc).1 (hks c hc).2, Nat.zero_le _, Nat.zero_le _, ?_, fun s hs => by cases hs⟩
  show ks.length * 8 ≤ _
  omega
theorem parens_fine : ∀ (n : Nat), n ≤ 50000 → ∀ x ∈ parens n, Fine x
  | 0, _, x, hx => by
    rw [List.mem_singleton.1 hx]; exact fine_leafN
  | n + 1, h, x, hx => by
    rcases List.mem_append.1 (show x ∈ parens n ++ [nParen (n : Int)] from hx) with h1 | h1
    · exact parens_fine n (by omega) x h1
    · rw [List.mem_singleton.1 h1]
      exact fine_plain (by decide) (by decide) (by decide) (fun c hc => by rw [List.mem_singleton.1 hc]; omega) (by simp)
theorem chain_fine : ∀ (n : Nat), n ≤ 40000 → ∀ x ∈ chain n, Fine x
  | 0, _, x, hx => by
    rw [List.mem_singleton.1 hx]; exact fine_leafN
  | n + 1, h, x, hx => by
    rcases List.mem_append.1 (show x ∈ chain n ++ [leafN, nBin 1 (2 * n : Nat) (2 * n + 1 : Nat)] from hx) with h1 | h1
    · exact chain_fine n (by omega) x h1
    · simp only [List.mem_cons, List.not_mem_nil, or_false] at h1
      rcases h1 with rfl | rfl
      · exact fine_leafN
      · exact fine_plain (by decide) (by decide) (by decide) (fun c hc => by
          simp only [List.mem_cons, List.not_mem_nil, or_false] at hc
          rcases hc with rfl | rfl <;> omega) (by simp)
theorem big_fine : ∀ (n : Nat), n ≤ 40000 → ∀ x ∈ big n, Fine x
  | 0, _, x, hx => by cases hx
  | n + 1, h, x, hx => by
    rcases List.mem_append.1 (show x ∈ big n ++ [leafN, nItem (2 * n : Nat)] from hx) with h1 | h1
    · exact big_fine n (by omega) x h1
    · simp only [List.mem_cons, List.not_mem_nil, or_false] at h1
      rcases h1 with rfl | rfl
      · exact fine_leafN
      · exact fine_plain (by decide) (by decide) (by decide) (fun c hc => by rw [List.mem_singleton.1 hc]; omega) (by simp)
theorem items_len (n : Nat) : (items n).length = n := by unfold items; rw [List.length_map, itemsS_len]
theorem items_small : ∀ (n : Nat), n ≤ 40000 → ∀ c ∈ items n, 0 ≤ c ∧ c ≤ 100000
  | 0, _, c, hc => by cases hc
  | n + 1, h, c, hc => by
    unfold items itemsS at hc
    rw [List.map_append] at hc
    rcases List.mem_append.1 hc with h1 | h1
    · exact items_small n (by omega) c h1
    · rw [show c = ((2 * n + 1 : Nat) : Int) from List.mem_singleton.1 h1]; omega
theorem table_fine (n : Nat) (h : n ≤ 40000) : ∀ x ∈ big n ++ [nTable (items n)], Fine x := fun x hx => by
  rcases List.mem_append.1 hx with h1 | h1
  · exact big_fine n h x h1
  · rw [List.mem_singleton.1 h1]
    exact fine_plain (by decide) (by decide) (by decide) (items_small n h) (by rw [items_len]; omega)
theorem ret_fine {l : List Nd} (h : ∀ x ∈ l, Fine x) (h1 : 1 ≤ l.length) (h2 : l.length ≤ 50000) : ∀ x ∈ ret l, Fine x := fun x hx => by
  rcases List.mem_append.1 hx with h3 | h3
  · exact h x h3
  · simp only [List.mem_cons, List.not_mem_nil, or_false] at h3
    rcases h3 with rfl | rfl | rfl
    all_goals exact fine_plain (by decide) (by decide) (by decide) (fun c hc => by rw [List.mem_singleton.1 hc]; omega) (by simp)
theorem rightB_of {l : List Nd} {r : Int} (h : RightP (rowD nmD) l r) : rightB (rowD nmD) l r = true := rightB_iff.2 ((right_iff _ _ _).2 h)
theorem chain_b : rightB (rowD nmD) (ret (chain 600)) 1203 = true := rightB_of chain_right
theorem full_b : rightB (rowD nmD) (ret full) 4095 = true := rightB_of full_right
theorem over_b (r : Int) : rightB (rowD nmD) (ret over) r = false := by
  cases h : rightB (rowD nmD) (ret over) r with
  | false => rfl
  | true => exact absurd (rightB_iff.1 h) (over_wrong r)
theorem nil_b : rightB (rowD nmD) [] 0 = false := by kernel_rfl
theorem parens_b (k : Nat) (h : k < 4) : rightB (rowD nmD) (ret (parens (97 + k))) ((97 + k : Nat) + 1 + 2 : Int) = decide (97 + k ≤ 98) :=
  match k, h with
  | 0, _ => parens_97
  | 1, _ => parens_98
  | 2, _ => parens_99
  | 3, _ => parens_100

/-- A box that holds a syntax. -/
def BoxAt (w : World) (v : Value) (L : List Nd) (root : Int) : Prop := ∃ B g c, v = .pointer (some ⟨B, 0, none⟩) ∧ w.heap[B]? = some (.cells #[.slice (some ⟨g, 0, none⟩) L.length c, .int .i64 root] 24 (0, 0)) ∧ OwnSyn w (.slice (some ⟨g, 0, none⟩) L.length c) L
theorem BoxAt.below {w w' : World} {v : Value} {L : List Nd} {root : Int} (h : BoxAt w v L root) (hb : Below w.heap.size w w') : BoxAt w' v L root := by
  obtain ⟨B, g, c, e, h1, h2⟩ := h
  exact ⟨B, g, c, e, (hb.block _ (lt_of_heap h1)).trans h1, h2.below hb⟩
/-- What Right tells of a syntax, anywhere behind. -/
theorem OwnSyn.says {w : World} {g n c : Nat} {L : List Nd} {root : Int} (b : Bool) (h : OwnSyn w (.slice (some ⟨g, 0, none⟩) n c) L) (hb : rightB (rowD nmD) L root = b) (hf : ∀ n ∈ L, Fine n) (hl : L.length ≤ 100000) (hr : 0 ≤ root ∧ root ≤ 100000) :
    ∀ W, Below w.heap.size w W → Calls Try.prog 8 #[.agg #[.slice (some ⟨g, 0, none⟩) n c, .int .i64 root]] W fun e w' => e = .returned (.bool b) ∧ Below W.heap.size W w' :=
  fun W hB => right_is b ((h.below hB).syn hf root (in_small hr.1 hr.2) (by omega)) (by omega) hf hb
theorem BoxAt.says {w : World} {v : Value} {L : List Nd} {root : Int} (b : Bool) (h : BoxAt w v L root) (hb : rightB (rowD nmD) L root = b) (hf : ∀ n ∈ L, Fine n) (hl : L.length ≤ 100000) (hr : 0 ≤ root ∧ root ≤ 100000) :
    ∃ B g n c, v = .pointer (some ⟨B, 0, none⟩) ∧ ∀ W, Below w.heap.size w W → W.cell? ⟨B, 0, none⟩ = some (.slice (some ⟨g, 0, none⟩) n c) ∧ W.cell? ⟨B, 1, none⟩ = some (.int .i64 root) ∧
      Calls Try.prog 8 #[.agg #[.slice (some ⟨g, 0, none⟩) n c, .int .i64 root]] W fun e w' => e = .returned (.bool b) ∧ Below W.heap.size W w' := by
  obtain ⟨B, g, c, e, h1, h2⟩ := h
  exact ⟨B, g, _, c, e, fun W hB => ⟨cellS hB (cell_of h1 0 _ rfl), cellS hB (cell_of h1 1 _ rfl), h2.says b hb hf hl hr W hB⟩⟩

/-- 'returned' of a list that is known. -/
theorem ret_lit {g c m : Nat} (rs : List R3) (L : List Nd) (r : Int) (w : World) (hO : OwnNd w 0 (.slice (some ⟨g, 0, none⟩) m c) rs) (hL : rs.map (·.1) = L) (hn : L.length = m) (h0 : 0 < m) (h9 : m ≤ 5000) (hr : (m : Int) + 2 = r) :
    Calls Try.prog 5 #[.slice (some ⟨g, 0, none⟩) m c] w fun e w' => ∃ g' n' c', e = .returned (.agg #[.slice (some ⟨g', 0, none⟩) n' c', .int .i64 r]) ∧ n' = (ret L).length ∧ OwnSyn w' (.slice (some ⟨g', 0, none⟩) n' c') (ret L) ∧ Below w.heap.size w w' := by
  have hm : rs.length = m := by rw [← hn, ← hL, List.length_map]
  refine (returned_fn g c m rs w hO hm h0 h9).mono fun e w' ⟨g', c', he, h1, h2⟩ => ?_
  rw [hL] at h1
  have hl : (ret L).length = m + 3 := by rw [ret_len, hn]
  rw [hr] at he
  exact ⟨g', m + 3, c', he, hl.symm, h1, h2⟩
theorem box_new {w : World} {g n c : Nat} {L : List Nd} {r : Int} (hn : n = L.length) (h : OwnSyn w (.slice (some ⟨g, 0, none⟩) n c) L) : BoxAt (w.alloc (.cells #[.slice (some ⟨g, 0, none⟩) n c, .int .i64 r] 24)) (.pointer (some ⟨w.heap.size, 0, none⟩)) L r := by
  subst hn
  exact ⟨w.heap.size, g, c, rfl, hit rfl, h.below ((Below.refl _ _).alloc (Nat.le_refl _) _)⟩
theorem grow1 (w : World) (o : Obj) : Below w.heap.size w (w.alloc o) := (Below.refl _ _).alloc (Nat.le_refl _) _

end Go.Proofs.Ytmddffacjkkeiaa.Nd
