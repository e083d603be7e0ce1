/-
  Layer 5: rows: nodes that have what they may have, or not.
-/
import Derived.Test.YtmddffacjkkeiaaDvStats
import Derived.Test.YtmddffacjkkeiaaRfFacts
import Derived.Test.YtmddffacjkkeiaaDvChk
namespace Go.Proofs.Ytmddffacjkkeiaa.Nd
open Go Go.RowKit Go.ChangeShapes Go.WideShapes Go.Shelf
open Go.Proofs.Ytmddffacjkkeiaa.Rf

def fIs (v : Value) : Fact := ⟨fun x _ => x = v, fun _ _ _ h _ => h⟩
def fInts (zs : List Int) : Fact := ⟨fun x w => ∃ g, x = .slice (some ⟨g, 0, none⟩) zs.length zs.length ∧ w.ownsRow 0 3 1 x zs.length (zs.map (.int .i64)), fun _ _ _ ⟨g, e, h⟩ hb => ⟨g, e, own_below5 h hb⟩⟩
def fNode (nd : Nd) : Fact := ⟨fun x w => OwnV w x nd, fun _ _ _ h hb => h.below hb⟩
def fNodes (l : List Nd) : Fact := ⟨fun x w => ∃ g, x = .slice (some ⟨g, 0, none⟩) l.length l.length ∧ OwnSyn w x l, fun _ _ _ ⟨g, e, h⟩ hb => ⟨g, e, h.below hb⟩⟩
def SynV (w : World) (x : Value) (l : List Nd) (r : Int) : Prop := ∃ g c, x = .agg #[.slice (some ⟨g, 0, none⟩) l.length c, .int .i64 r] ∧ OwnSyn w (.slice (some ⟨g, 0, none⟩) l.length c) l
theorem SynV.below {w w' : World} {x : Value} {l : List Nd} {r : Int} (h : SynV w x l r) (hb : Below w.heap.size w w') : SynV w' x l r := by
  obtain ⟨g, c, e, h⟩ := h
  exact ⟨g, c, e, h.below hb⟩
def fSyn (l : List Nd) (r : Int) : Fact := ⟨fun x w => SynV w x l r, fun _ _ _ h hb => h.below hb⟩
/-- A list of syntaxes: each one's two cells. -/
def SynsV (w : World) (x : Value) (L : List (List Nd × Int)) : Prop := ∃ g, x = .slice (some ⟨g, 0, none⟩) L.length L.length ∧ ∀ (k : Nat) (p : List Nd × Int), L[k]? = some p → ∃ u, w.cell? ⟨g, k * 2, none⟩ = some u ∧ w.cell? ⟨g, k * 2 + 1, none⟩ = some (.int .i64 p.2) ∧ SynV w (.agg #[u, .int .i64 p.2]) p.1 p.2
theorem SynsV.below {w w' : World} {x : Value} {L : List (List Nd × Int)} (h : SynsV w x L) (hb : Below w.heap.size w w') : SynsV w' x L := by
  obtain ⟨g, e, h⟩ := h
  refine ⟨g, e, fun k p hp => ?_⟩
  obtain ⟨u, h1, h2, h3⟩ := h k p hp
  exact ⟨u, cellS hb h1, cellS hb h2, h3.below hb⟩
def fSyns (L : List (List Nd × Int)) : Fact := ⟨fun x w => SynsV w x L, fun _ _ _ h hb => h.below hb⟩

abbrev blockC : Array Value := #[.int .u8 1, .int .i64 0, .string ⟨#[]⟩, .slice none 0 0, .slice none 0 0, .int .i64 0]
def nName (s : ByteArray) : Nd := ⟨27, 0, s, [], [], 0⟩
def nBlock : Nd := ⟨1, 0, ⟨#[]⟩, [], [], 0⟩
def nOf (k : Nat) (ks : List Int) : Nd := ⟨k, 0, ⟨#[]⟩, [], ks, 0⟩
def nAssign (n : Int) (ks : List Int) : Nd := ⟨3, n, ⟨#[]⟩, [], ks, 0⟩
def nLoop (ks : List Int) : Nd := ⟨9, 0, ⟨#[]⟩, [⟨#[105]⟩], ks, 0⟩

theorem arr_lit (t : Array Value) (n : Nat) (h : t.size = n) : t = ((List.range n).map fun i => t.getD i undef).toArray := by
  subst h
  apply Array.ext
  · simp
  · intro i h1 h2
    simp [Array.getD_eq_getD_getElem?, h1]
theorem notDstL {ops : List Oper} {t : Tmp} (h : (ops.all fun o => o.dst != some t) = true) : ∀ (i : Nat) (o : Oper), ops[i]? = some o → o.dst ≠ some t := fun i o ho => notDst h i o (by simpa using ho)
theorem stats_is (k g n d : Nat) (l : List Nd) (r : Int) (w : World) (hO : OwnSyn w (.slice (some ⟨g, 0, none⟩) n n) l) (hn : l.length = n) (hk : d + k = n) (hk0 : 0 < k) (hn9 : n ≤ 1000) (hr : (n : Int) + 1 = r) :
    Calls Try.prog 24 #[.int .i64 (k : Int), .slice (some ⟨g, 0, none⟩) n n] w fun e w' => ∃ v, e = .returned v ∧ SynV w' v ((statRaw d k l).map line1) r ∧ Below w.heap.size w w' := by
  obtain ⟨rs, ho, hm⟩ := hO
  refine (stats_fn k g n n d rs w ho (by rw [← hn, ← hm, List.length_map]) hk hk0 hn9).mono fun e w' ⟨g', c', he, h1, h2⟩ => ?_
  rw [hm] at h1
  have hl : ((statRaw d k l).map line1).length = n + 2 := by unfold statRaw; rw [List.length_map, List.length_append, hn]; rfl
  refine ⟨_, he, ⟨g', c', by rw [hl, hr], by rw [hl]; exact h1⟩, h2⟩

/-- What is asked of a list of syntaxes: that Right tells b of each. -/
def allB (b : Bool) (L : List (List Nd × Int)) : Bool := L.all fun p => (rightB (rowD nmD) p.1 p.2 == b) && decide (∀ n ∈ p.1, Fine n) && decide (p.1.length ≤ 1000000) && (decide (0 ≤ p.2) && decide (p.2 ≤ 1000000))
theorem allB_at {b : Bool} {L : List (List Nd × Int)} (h : allB b L = true) {k : Nat} {p : List Nd × Int} (hp : L[k]? = some p) : rightB (rowD nmD) p.1 p.2 = b ∧ (∀ n ∈ p.1, Fine n) ∧ p.1.length ≤ 1000000 ∧ In64 p.2 := by
  unfold allB at h
  rw [List.all_eq_true] at h
  have h1 := h p (List.mem_of_getElem? hp)
  simp only [Bool.and_eq_true, decide_eq_true_iff, beq_iff_eq] at h1
  obtain ⟨⟨⟨h1, h2⟩, h3⟩, h4, h5⟩ := h1
  exact ⟨h1, h2, h3, by constructor <;> omega⟩
theorem syns_ok {w : World} {v : Value} {L : List (List Nd × Int)} {b : Bool} (h : SynsV w v L) (hL : allB b L = true) : ∃ g, v = .slice (some ⟨g, 0, none⟩) L.length L.length ∧ ∀ k, k < L.length → ∃ (gu nu cu : Nat) (r : Int), ∀ W, Below w.heap.size w W → W.cell? ⟨g, k * 2, none⟩ = some (.slice (some ⟨gu, 0, none⟩) nu cu) ∧ W.cell? ⟨g, k * 2 + 1, none⟩ = some (.int .i64 r) ∧ Calls Try.prog 8 #[.agg #[.slice (some ⟨gu, 0, none⟩) nu cu, .int .i64 r]] W fun e w' => e = .returned (.bool b) ∧ Below W.heap.size W w' := by
  obtain ⟨g, e, h⟩ := h
  refine ⟨g, e, fun k hk => ?_⟩
  obtain ⟨u, h1, h2, h3⟩ := h k L[k] (List.getElem?_eq_getElem hk)
  obtain ⟨o1, o2, o3, o4⟩ := allB_at hL (List.getElem?_eq_getElem hk)
  obtain ⟨g1, c1, e1, h5⟩ := h3
  cases e1
  refine ⟨g1, _, c1, L[k].2, fun W hb => ⟨cellS hb h1, cellS hb h2, ?_⟩⟩
  exact right_is b ((h5.below hb).syn o2 _ o4 o3) o3 o2 o1
theorem rows_yes : allB true [((statRaw 2 1 [nName ⟨#[120]⟩, leafN, nAssign 1 [0, 1]]).map line1, 4), ((statRaw 3 1 [leafN, leafN, nBlock, nLoop [0, 1, 2]]).map line1, 5), ((statRaw 2 1 [leafN, nBlock, nOf 8 [0, 1]]).map line1, 4), ((statRaw 2 1 [nName ⟨#[102]⟩, nOf 29 [0], nOf 4 [1]]).map line1, 4), ((statRaw 0 2 [nOf 13 [], nOf 12 []]).map line1, 3), ((statRaw 3 1 [nName ⟨#[120]⟩, nName ⟨#[121]⟩, leafN, nAssign 2 [0, 1, 2]]).map line1, 5)] = true := by kernel_rfl
theorem rows_no : allB false [((statRaw 2 1 [nName ⟨#[49, 120]⟩, leafN, nAssign 1 [0, 1]]).map line1, 4), ((statRaw 2 1 [nName ⟨#[101, 110, 100]⟩, leafN, nAssign 1 [0, 1]]).map line1, 4), ((statRaw 1 1 [nName ⟨#[120]⟩, nAssign 1 [0]]).map line1, 3), ((statRaw 2 1 [nName ⟨#[120]⟩, leafN, nAssign 1 [0, 1, 1]]).map line1, 4), ((statRaw 3 1 [nName ⟨#[102]⟩, nOf 29 [0], leafN, nAssign 1 [1, 2]]).map line1, 5), ((statRaw 5 1 [leafN, leafN, leafN, leafN, nBlock, nLoop [0, 1, 2, 3, 4]]).map line1, 7), ((statRaw 2 1 [leafN, nBlock, nLoop [0, 1]]).map line1, 4), ((statRaw 1 1 [nBlock, nOf 8 [0]]).map line1, 3), ((statRaw 2 1 [leafN, nOf 29 [0], nOf 4 [1]]).map line1, 4), ((statRaw 1 1 [nName ⟨#[102]⟩, nOf 4 [0]]).map line1, 3), ((statRaw 0 2 [nOf 12 [], nOf 13 []]).map line1, 3), ((statRaw 2 1 [leafN, (⟨34, 17, ⟨#[]⟩, [], [0], 0⟩ : Nd), nOf 12 [1]]).map line1, 4)] = true := by kernel_rfl
def nLocal (s : ByteArray) : Nd := ⟨2, 0, ⟨#[]⟩, [s], [], 0⟩
def lA : List Nd := (statRaw 0 1 [nLocal ⟨#[97]⟩]).map line1
def lB : List Nd := (statRaw 0 1 [nLocal ⟨#[98]⟩]).map line1
theorem a_right : rightB (rowD nmD) lA 2 = true := by kernel_rfl
theorem b_right : rightB (rowD nmD) lB 2 = true := by kernel_rfl
theorem a_fine : ∀ n ∈ lA, Fine n := fine_list (by kernel_rfl)
theorem b_fine : ∀ n ∈ lB, Fine n := fine_list (by kernel_rfl)
theorem ab_other : ¬ SameC (rowD nmD) lA 2 lB 2 := fun H => by
  have h := (H.like 2 (0, 1) (0, 1) rfl rfl).2.2.2.1
  have h2 : (([⟨#[97]⟩] : List ByteArray)) = [⟨#[98]⟩] := h
  exact absurd (congrArg (fun l : List ByteArray => l.map (·.data)) h2) (by decide)
theorem one_local (s : ByteArray) (w W : World) (hW : (w.alloc (.cells #[.string s] 9)).alloc (.cells #[.int .u8 2, .int .i64 0, .string ⟨#[]⟩, .slice (some ⟨w.heap.size, 0, none⟩) 1 1, .slice none 0 0, .int .i64 0] 30) = W) :
    OwnSyn W (.slice (some ⟨w.heap.size + 1, 0, none⟩) 1 1) [nLocal s] ∧ Below w.heap.size w W := by
  subst hW
  have one : 1 ≤ maxLen := by unfold maxLen; omega
  refine ⟨⟨[(nLocal s, .slice (some ⟨w.heap.size, 0, none⟩) 1 1, .slice none 0 0)], ⟨own_lit (Nat.zero_le _) (hit (by simp)) rfl one, fun r hr => ?_⟩, rfl⟩, ((Below.refl _ _).alloc (Nat.le_refl _) _).alloc (by simp) _⟩
  rw [List.mem_singleton] at hr
  subst hr
  exact ⟨own_lit (Nat.zero_le _) (miss (hit rfl)) rfl one, nilRow⟩

set_option maxRecDepth 100000 in
set_option maxHeartbeats 4000000 in
theorem rows_fn (w : World) : Calls Try.prog 9 #[] w fun e w' => e = .returned (.bool true) ∧ Below w.heap.size w w' := by
  go_enter Try.func9, Try.ntmps9
  go_upto_region 6 with fail
  have hmx : Try.prog.follows .mixedOrders = true := by kernel_rfl
  obtain ⟨W, hW⟩ : ∃ W, w.alloc (.cells blockC 30) = W := ⟨_, rfl⟩
  have hb : Below w.heap.size w W := by rw [← hW]; exact (Below.refl _ _).alloc (Nat.le_refl _) _
  have hx : W.heap[w.heap.size]? = some (.cells blockC 30 (0, 0)) := by rw [← hW]; exact hit rfl
  obtain ⟨B, hB⟩ : ∃ B, w.heap.size = B := ⟨_, rfl⟩
  rw [hB] at hx
  rw [hW, hB]
  go_cut [62, 63, 64] (fun vL vN vZ wx => SynsV wx vL [((statRaw 2 1 [nName ⟨#[120]⟩, leafN, nAssign 1 [0, 1]]).map line1, 4), ((statRaw 3 1 [leafN, leafN, nBlock, nLoop [0, 1, 2]]).map line1, 5), ((statRaw 2 1 [leafN, nBlock, nOf 8 [0, 1]]).map line1, 4), ((statRaw 2 1 [nName ⟨#[102]⟩, nOf 29 [0], nOf 4 [1]]).map line1, 4), ((statRaw 0 2 [nOf 13 [], nOf 12 []]).map line1, 3), ((statRaw 3 1 [nName ⟨#[120]⟩, nName ⟨#[121]⟩, leafN, nAssign 2 [0, 1, 2]]).map line1, 5)] ∧ vN = .int .i64 6 ∧ vZ = .int .i64 0 ∧ wx.heap[B]? = some (.cells blockC 30 (0, 0)) ∧ Below w.heap.size w wx)
  case first =>
    refine region_facts_old (fun i => ([fIs (.func (.func 20) #[] #[]), fNode (nName ⟨#[120]⟩), fNode leafN, fIs (.func (.func 22) #[] #[]), fInts [0, 1], fNode (nAssign 1 [0, 1]), fNodes [nName ⟨#[120]⟩, leafN, nAssign 1 [0, 1]], fSyn ((statRaw 2 1 [nName ⟨#[120]⟩, leafN, nAssign 1 [0, 1]]).map line1) 4, fNode leafN, fNode leafN, fNode nBlock, fIs (.func (.func 23) #[] #[]), fInts [0, 1, 2], fNode (nLoop [0, 1, 2]), fNodes [leafN, leafN, nBlock, nLoop [0, 1, 2]], fSyn ((statRaw 3 1 [leafN, leafN, nBlock, nLoop [0, 1, 2]]).map line1) 5, fNode leafN, fNode nBlock, fIs (.func (.func 21) #[] #[]), fInts [0, 1], fNode (nOf 8 [0, 1]), fNodes [leafN, nBlock, nOf 8 [0, 1]], fSyn ((statRaw 2 1 [leafN, nBlock, nOf 8 [0, 1]]).map line1) 4, fIs (.func (.func 20) #[] #[]), fNode (nName ⟨#[102]⟩), fIs (.func (.func 21) #[] #[]), fInts [0], fNode (nOf 29 [0]), fIs (.func (.func 21) #[] #[]), fInts [1], fNode (nOf 4 [1]), fNodes [nName ⟨#[102]⟩, nOf 29 [0], nOf 4 [1]], fSyn ((statRaw 2 1 [nName ⟨#[102]⟩, nOf 29 [0], nOf 4 [1]]).map line1) 4, fIs (.func (.func 21) #[] #[]), fNode (nOf 13 []), fIs (.func (.func 21) #[] #[]), fNode (nOf 12 []), fNodes [nOf 13 [], nOf 12 []], fSyn ((statRaw 0 2 [nOf 13 [], nOf 12 []]).map line1) 3, fIs (.func (.func 20) #[] #[]), fNode (nName ⟨#[120]⟩), fIs (.func (.func 20) #[] #[]), fNode (nName ⟨#[121]⟩), fNode leafN, fIs (.func (.func 22) #[] #[]), fInts [0, 1, 2], fNode (nAssign 2 [0, 1, 2]), fNodes [nName ⟨#[120]⟩, nName ⟨#[121]⟩, leafN, nAssign 2 [0, 1, 2]], fSyn ((statRaw 3 1 [nName ⟨#[120]⟩, nName ⟨#[121]⟩, leafN, nAssign 2 [0, 1, 2]]).map line1) 5, fSyns [((statRaw 2 1 [nName ⟨#[120]⟩, leafN, nAssign 1 [0, 1]]).map line1, 4), ((statRaw 3 1 [leafN, leafN, nBlock, nLoop [0, 1, 2]]).map line1, 5), ((statRaw 2 1 [leafN, nBlock, nOf 8 [0, 1]]).map line1, 4), ((statRaw 2 1 [nName ⟨#[102]⟩, nOf 29 [0], nOf 4 [1]]).map line1, 4), ((statRaw 0 2 [nOf 13 [], nOf 12 []]).map line1, 3), ((statRaw 3 1 [nName ⟨#[120]⟩, nName ⟨#[121]⟩, leafN, nAssign 2 [0, 1, 2]]).map line1, 5)], fIs (.int .i64 6), fIs (.int .i64 0)] : List Fact).getD i (fIs undef)) (fun w' => w'.heap[B]? = some (.cells blockC 30 (0, 0)) ∧ Below w.heap.size w w')
      (fun a => a.tmps.getD 1 undef = .func (.func 20) #[] #[] ∧ a.tmps.getD 2 undef = .pointer (some ⟨B, 0, none⟩) ∧ a.tmps.getD 3 undef = .func (.func 21) #[] #[] ∧ a.tmps.getD 4 undef = .func (.func 22) #[] #[] ∧ a.tmps.getD 5 undef = .func (.func 23) #[] #[])
      hmx (by kernel_rfl) (by kernel_rfl) (by kernel_rfl) (fun w1 w2 h1 h2 => ⟨(h2.block _ (lt_of_heap h1.1)).trans h1.1, h1.2.trans (h2.mono h1.2.size)⟩) ⟨hx, hb.drew⟩
      (fun a ha => ⟨ha 1 (notDst (by kernel_rfl)), ha 2 (notDst (by kernel_rfl)), ha 3 (notDst (by kernel_rfl)), ha 4 (notDst (by kernel_rfl)), ha 5 (notDst (by kernel_rfl))⟩) ?steps ?done
    case done =>
      intro a w9 hf hdef hsz hold hG9 hb9
      obtain ⟨t, ds⟩ := a
      dsimp only at hf hdef hsz hold
      subst hdef
      have hsz2 : t.size = 201 := hsz
      have fL : SynsV w9 (t.getD 62 undef) [((statRaw 2 1 [nName ⟨#[120]⟩, leafN, nAssign 1 [0, 1]]).map line1, 4), ((statRaw 3 1 [leafN, leafN, nBlock, nLoop [0, 1, 2]]).map line1, 5), ((statRaw 2 1 [leafN, nBlock, nOf 8 [0, 1]]).map line1, 4), ((statRaw 2 1 [nName ⟨#[102]⟩, nOf 29 [0], nOf 4 [1]]).map line1, 4), ((statRaw 0 2 [nOf 13 [], nOf 12 []]).map line1, 3), ((statRaw 3 1 [nName ⟨#[120]⟩, nName ⟨#[121]⟩, leafN, nAssign 2 [0, 1, 2]]).map line1, 5)] := hf 49 _ 62 rfl rfl
      have fN : t.getD 63 undef = .int .i64 6 := hf 50 _ 63 rfl rfl
      have fZ : t.getD 64 undef = .int .i64 0 := hf 51 _ 64 rfl rfl
      have q0 : t.getD 0 undef = .bool false := hold 0 (notDstL (by kernel_rfl))
      have q1 : t.getD 1 undef = .func (.func 20) #[] #[] := hold 1 (notDstL (by kernel_rfl))
      have q2 : t.getD 2 undef = .pointer (some ⟨B, 0, none⟩) := hold 2 (notDstL (by kernel_rfl))
      have q3 : t.getD 3 undef = .func (.func 21) #[] #[] := hold 3 (notDstL (by kernel_rfl))
      have q4 : t.getD 4 undef = .func (.func 22) #[] #[] := hold 4 (notDstL (by kernel_rfl))
      have q5 : t.getD 5 undef = .func (.func 23) #[] #[] := hold 5 (notDstL (by kernel_rfl))
      have q6 : t.getD 6 undef = undef := hold 6 (notDstL (by kernel_rfl))
      have q7 : t.getD 7 undef = undef := hold 7 (notDstL (by kernel_rfl))
      have q8 : t.getD 8 undef = undef := hold 8 (notDstL (by kernel_rfl))
      have q9 : t.getD 9 undef = undef := hold 9 (notDstL (by kernel_rfl))
      have q10 : t.getD 10 undef = undef := hold 10 (notDstL (by kernel_rfl))
      have q11 : t.getD 11 undef = undef := hold 11 (notDstL (by kernel_rfl))
      have q12 : t.getD 12 undef = .agg blockC := hold 12 (notDstL (by kernel_rfl))
      have q65 : t.getD 65 undef = undef := hold 65 (notDstL (by kernel_rfl))
      have q66 : t.getD 66 undef = undef := hold 66 (notDstL (by kernel_rfl))
      have q67 : t.getD 67 undef = undef := hold 67 (notDstL (by kernel_rfl))
      have q68 : t.getD 68 undef = undef := hold 68 (notDstL (by kernel_rfl))
      have q69 : t.getD 69 undef = undef := hold 69 (notDstL (by kernel_rfl))
      have q70 : t.getD 70 undef = undef := hold 70 (notDstL (by kernel_rfl))
      have q71 : t.getD 71 undef = undef := hold 71 (notDstL (by kernel_rfl))
      have q72 : t.getD 72 undef = undef := hold 72 (notDstL (by kernel_rfl))
      have q73 : t.getD 73 undef = undef := hold 73 (notDstL (by kernel_rfl))
      have q74 : t.getD 74 undef = undef := hold 74 (notDstL (by kernel_rfl))
      have q75 : t.getD 75 undef = undef := hold 75 (notDstL (by kernel_rfl))
      have q76 : t.getD 76 undef = undef := hold 76 (notDstL (by kernel_rfl))
      have q77 : t.getD 77 undef = undef := hold 77 (notDstL (by kernel_rfl))
      have q78 : t.getD 78 undef = undef := hold 78 (notDstL (by kernel_rfl))
      have q79 : t.getD 79 undef = undef := hold 79 (notDstL (by kernel_rfl))
      have q80 : t.getD 80 undef = undef := hold 80 (notDstL (by kernel_rfl))
      have q81 : t.getD 81 undef = undef := hold 81 (notDstL (by kernel_rfl))
      have q82 : t.getD 82 undef = undef := hold 82 (notDstL (by kernel_rfl))
      have q83 : t.getD 83 undef = undef := hold 83 (notDstL (by kernel_rfl))
      have q84 : t.getD 84 undef = undef := hold 84 (notDstL (by kernel_rfl))
      have q85 : t.getD 85 undef = undef := hold 85 (notDstL (by kernel_rfl))
      have q86 : t.getD 86 undef = undef := hold 86 (notDstL (by kernel_rfl))
      have q87 : t.getD 87 undef = undef := hold 87 (notDstL (by kernel_rfl))
      have q88 : t.getD 88 undef = undef := hold 88 (notDstL (by kernel_rfl))
      have q89 : t.getD 89 undef = undef := hold 89 (notDstL (by kernel_rfl))
      have q90 : t.getD 90 undef = undef := hold 90 (notDstL (by kernel_rfl))
      have q91 : t.getD 91 undef = undef := hold 91 (notDstL (by kernel_rfl))
      have q92 : t.getD 92 undef = undef := hold 92 (notDstL (by kernel_rfl))
      have q93 : t.getD 93 undef = undef := hold 93 (notDstL (by kernel_rfl))
      have q94 : t.getD 94 undef = undef := hold 94 (notDstL (by kernel_rfl))
      have q95 : t.getD 95 undef = undef := hold 95 (notDstL (by kernel_rfl))
      have q96 : t.getD 96 undef = undef := hold 96 (notDstL (by kernel_rfl))
      have q97 : t.getD 97 undef = undef := hold 97 (notDstL (by kernel_rfl))
      have q98 : t.getD 98 undef = undef := hold 98 (notDstL (by kernel_rfl))
      have q99 : t.getD 99 undef = undef := hold 99 (notDstL (by kernel_rfl))
      have q100 : t.getD 100 undef = undef := hold 100 (notDstL (by kernel_rfl))
      have q101 : t.getD 101 undef = undef := hold 101 (notDstL (by kernel_rfl))
      have q102 : t.getD 102 undef = undef := hold 102 (notDstL (by kernel_rfl))
      have q103 : t.getD 103 undef = undef := hold 103 (notDstL (by kernel_rfl))
      have q104 : t.getD 104 undef = undef := hold 104 (notDstL (by kernel_rfl))
      have q105 : t.getD 105 undef = undef := hold 105 (notDstL (by kernel_rfl))
      have q106 : t.getD 106 undef = undef := hold 106 (notDstL (by kernel_rfl))
      have q107 : t.getD 107 undef = undef := hold 107 (notDstL (by kernel_rfl))
      have q108 : t.getD 108 undef = undef := hold 108 (notDstL (by kernel_rfl))
      have q109 : t.getD 109 undef = undef := hold 109 (notDstL (by kernel_rfl))
      have q110 : t.getD 110 undef = undef := hold 110 (notDstL (by kernel_rfl))
      have q111 : t.getD 111 undef = undef := hold 111 (notDstL (by kernel_rfl))
      have q112 : t.getD 112 undef = undef := hold 112 (notDstL (by kernel_rfl))
      have q113 : t.getD 113 undef = undef := hold 113 (notDstL (by kernel_rfl))
      have q114 : t.getD 114 undef = undef := hold 114 (notDstL (by kernel_rfl))
      have q115 : t.getD 115 undef = undef := hold 115 (notDstL (by kernel_rfl))
      have q116 : t.getD 116 undef = undef := hold 116 (notDstL (by kernel_rfl))
      have q117 : t.getD 117 undef = undef := hold 117 (notDstL (by kernel_rfl))
      have q118 : t.getD 118 undef = undef := hold 118 (notDstL (by kernel_rfl))
      have q119 : t.getD 119 undef = undef := hold 119 (notDstL (by kernel_rfl))
      have q120 : t.getD 120 undef = undef := hold 120 (notDstL (by kernel_rfl))
      have q121 : t.getD 121 undef = undef := hold 121 (notDstL (by kernel_rfl))
      have q122 : t.getD 122 undef = undef := hold 122 (notDstL (by kernel_rfl))
      have q123 : t.getD 123 undef = undef := hold 123 (notDstL (by kernel_rfl))
      have q124 : t.getD 124 undef = undef := hold 124 (notDstL (by kernel_rfl))
      have q125 : t.getD 125 undef = undef := hold 125 (notDstL (by kernel_rfl))
      have q126 : t.getD 126 undef = undef := hold 126 (notDstL (by kernel_rfl))
      have q127 : t.getD 127 undef = undef := hold 127 (notDstL (by kernel_rfl))
      have q128 : t.getD 128 undef = undef := hold 128 (notDstL (by kernel_rfl))
      have q129 : t.getD 129 undef = undef := hold 129 (notDstL (by kernel_rfl))
      have q130 : t.getD 130 undef = undef := hold 130 (notDstL (by kernel_rfl))
      have q131 : t.getD 131 undef = undef := hold 131 (notDstL (by kernel_rfl))
      have q132 : t.getD 132 undef = undef := hold 132 (notDstL (by kernel_rfl))
      have q133 : t.getD 133 undef = undef := hold 133 (notDstL (by kernel_rfl))
      have q134 : t.getD 134 undef = undef := hold 134 (notDstL (by kernel_rfl))
      have q135 : t.getD 135 undef = undef := hold 135 (notDstL (by kernel_rfl))
      have q136 : t.getD 136 undef = undef := hold 136 (notDstL (by kernel_rfl))
      have q137 : t.getD 137 undef = undef := hold 137 (notDstL (by kernel_rfl))
      have q138 : t.getD 138 undef = undef := hold 138 (notDstL (by kernel_rfl))
      have q139 : t.getD 139 undef = undef := hold 139 (notDstL (by kernel_rfl))
      have q140 : t.getD 140 undef = undef := hold 140 (notDstL (by kernel_rfl))
      have q141 : t.getD 141 undef = undef := hold 141 (notDstL (by kernel_rfl))
      have q142 : t.getD 142 undef = undef := hold 142 (notDstL (by kernel_rfl))
      have q143 : t.getD 143 undef = undef := hold 143 (notDstL (by kernel_rfl))
      have q144 : t.getD 144 undef = undef := hold 144 (notDstL (by kernel_rfl))
      have q145 : t.getD 145 undef = undef := hold 145 (notDstL (by kernel_rfl))
      have q146 : t.getD 146 undef = undef := hold 146 (notDstL (by kernel_rfl))
      have q147 : t.getD 147 undef = undef := hold 147 (notDstL (by kernel_rfl))
      have q148 : t.getD 148 undef = undef := hold 148 (notDstL (by kernel_rfl))
      have q149 : t.getD 149 undef = undef := hold 149 (notDstL (by kernel_rfl))
      have q150 : t.getD 150 undef = undef := hold 150 (notDstL (by kernel_rfl))
      have q151 : t.getD 151 undef = undef := hold 151 (notDstL (by kernel_rfl))
      have q152 : t.getD 152 undef = undef := hold 152 (notDstL (by kernel_rfl))
      have q153 : t.getD 153 undef = undef := hold 153 (notDstL (by kernel_rfl))
      have q154 : t.getD 154 undef = undef := hold 154 (notDstL (by kernel_rfl))
      have q155 : t.getD 155 undef = undef := hold 155 (notDstL (by kernel_rfl))
      have q156 : t.getD 156 undef = undef := hold 156 (notDstL (by kernel_rfl))
      have q157 : t.getD 157 undef = undef := hold 157 (notDstL (by kernel_rfl))
      have q158 : t.getD 158 undef = undef := hold 158 (notDstL (by kernel_rfl))
      have q159 : t.getD 159 undef = undef := hold 159 (notDstL (by kernel_rfl))
      have q160 : t.getD 160 undef = undef := hold 160 (notDstL (by kernel_rfl))
      have q161 : t.getD 161 undef = undef := hold 161 (notDstL (by kernel_rfl))
      have q162 : t.getD 162 undef = undef := hold 162 (notDstL (by kernel_rfl))
      have q163 : t.getD 163 undef = undef := hold 163 (notDstL (by kernel_rfl))
      have q164 : t.getD 164 undef = undef := hold 164 (notDstL (by kernel_rfl))
      have q165 : t.getD 165 undef = undef := hold 165 (notDstL (by kernel_rfl))
      have q166 : t.getD 166 undef = undef := hold 166 (notDstL (by kernel_rfl))
      have q167 : t.getD 167 undef = undef := hold 167 (notDstL (by kernel_rfl))
      have q168 : t.getD 168 undef = undef := hold 168 (notDstL (by kernel_rfl))
      have q169 : t.getD 169 undef = undef := hold 169 (notDstL (by kernel_rfl))
      have q170 : t.getD 170 undef = undef := hold 170 (notDstL (by kernel_rfl))
      have q171 : t.getD 171 undef = undef := hold 171 (notDstL (by kernel_rfl))
      have q172 : t.getD 172 undef = undef := hold 172 (notDstL (by kernel_rfl))
      have q173 : t.getD 173 undef = undef := hold 173 (notDstL (by kernel_rfl))
      have q174 : t.getD 174 undef = undef := hold 174 (notDstL (by kernel_rfl))
      have q175 : t.getD 175 undef = undef := hold 175 (notDstL (by kernel_rfl))
      have q176 : t.getD 176 undef = undef := hold 176 (notDstL (by kernel_rfl))
      have q177 : t.getD 177 undef = undef := hold 177 (notDstL (by kernel_rfl))
      have q178 : t.getD 178 undef = undef := hold 178 (notDstL (by kernel_rfl))
      have q179 : t.getD 179 undef = undef := hold 179 (notDstL (by kernel_rfl))
      have q180 : t.getD 180 undef = undef := hold 180 (notDstL (by kernel_rfl))
      have q181 : t.getD 181 undef = undef := hold 181 (notDstL (by kernel_rfl))
      have q182 : t.getD 182 undef = undef := hold 182 (notDstL (by kernel_rfl))
      have q183 : t.getD 183 undef = undef := hold 183 (notDstL (by kernel_rfl))
      have q184 : t.getD 184 undef = undef := hold 184 (notDstL (by kernel_rfl))
      have q185 : t.getD 185 undef = undef := hold 185 (notDstL (by kernel_rfl))
      have q186 : t.getD 186 undef = undef := hold 186 (notDstL (by kernel_rfl))
      have q187 : t.getD 187 undef = undef := hold 187 (notDstL (by kernel_rfl))
      have q188 : t.getD 188 undef = undef := hold 188 (notDstL (by kernel_rfl))
      have q189 : t.getD 189 undef = undef := hold 189 (notDstL (by kernel_rfl))
      have q190 : t.getD 190 undef = undef := hold 190 (notDstL (by kernel_rfl))
      have q191 : t.getD 191 undef = undef := hold 191 (notDstL (by kernel_rfl))
      have q192 : t.getD 192 undef = undef := hold 192 (notDstL (by kernel_rfl))
      have q193 : t.getD 193 undef = undef := hold 193 (notDstL (by kernel_rfl))
      have q194 : t.getD 194 undef = undef := hold 194 (notDstL (by kernel_rfl))
      have q195 : t.getD 195 undef = undef := hold 195 (notDstL (by kernel_rfl))
      have q196 : t.getD 196 undef = undef := hold 196 (notDstL (by kernel_rfl))
      have q197 : t.getD 197 undef = undef := hold 197 (notDstL (by kernel_rfl))
      have q198 : t.getD 198 undef = undef := hold 198 (notDstL (by kernel_rfl))
      have q199 : t.getD 199 undef = undef := hold 199 (notDstL (by kernel_rfl))
      have q200 : t.getD 200 undef = undef := hold 200 (notDstL (by kernel_rfl))
      have e : t = #[t.getD 0 undef, t.getD 1 undef, t.getD 2 undef, t.getD 3 undef, t.getD 4 undef, t.getD 5 undef, t.getD 6 undef, t.getD 7 undef, t.getD 8 undef, t.getD 9 undef, t.getD 10 undef, t.getD 11 undef, t.getD 12 undef, t.getD 13 undef, t.getD 14 undef, t.getD 15 undef, t.getD 16 undef, t.getD 17 undef, t.getD 18 undef, t.getD 19 undef, t.getD 20 undef, t.getD 21 undef, t.getD 22 undef, t.getD 23 undef, t.getD 24 undef, t.getD 25 undef, t.getD 26 undef, t.getD 27 undef, t.getD 28 undef, t.getD 29 undef, t.getD 30 undef, t.getD 31 undef, t.getD 32 undef, t.getD 33 undef, t.getD 34 undef, t.getD 35 undef, t.getD 36 undef, t.getD 37 undef, t.getD 38 undef, t.getD 39 undef, t.getD 40 undef, t.getD 41 undef, t.getD 42 undef, t.getD 43 undef, t.getD 44 undef, t.getD 45 undef, t.getD 46 undef, t.getD 47 undef, t.getD 48 undef, t.getD 49 undef, t.getD 50 undef, t.getD 51 undef, t.getD 52 undef, t.getD 53 undef, t.getD 54 undef, t.getD 55 undef, t.getD 56 undef, t.getD 57 undef, t.getD 58 undef, t.getD 59 undef, t.getD 60 undef, t.getD 61 undef, t.getD 62 undef, t.getD 63 undef, t.getD 64 undef, t.getD 65 undef, t.getD 66 undef, t.getD 67 undef, t.getD 68 undef, t.getD 69 undef, t.getD 70 undef, t.getD 71 undef, t.getD 72 undef, t.getD 73 undef, t.getD 74 undef, t.getD 75 undef, t.getD 76 undef, t.getD 77 undef, t.getD 78 undef, t.getD 79 undef, t.getD 80 undef, t.getD 81 undef, t.getD 82 undef, t.getD 83 undef, t.getD 84 undef, t.getD 85 undef, t.getD 86 undef, t.getD 87 undef, t.getD 88 undef, t.getD 89 undef, t.getD 90 undef, t.getD 91 undef, t.getD 92 undef, t.getD 93 undef, t.getD 94 undef, t.getD 95 undef, t.getD 96 undef, t.getD 97 undef, t.getD 98 undef, t.getD 99 undef, t.getD 100 undef, t.getD 101 undef, t.getD 102 undef, t.getD 103 undef, t.getD 104 undef, t.getD 105 undef, t.getD 106 undef, t.getD 107 undef, t.getD 108 undef, t.getD 109 undef, t.getD 110 undef, t.getD 111 undef, t.getD 112 undef, t.getD 113 undef, t.getD 114 undef, t.getD 115 undef, t.getD 116 undef, t.getD 117 undef, t.getD 118 undef, t.getD 119 undef, t.getD 120 undef, t.getD 121 undef, t.getD 122 undef, t.getD 123 undef, t.getD 124 undef, t.getD 125 undef, t.getD 126 undef, t.getD 127 undef, t.getD 128 undef, t.getD 129 undef, t.getD 130 undef, t.getD 131 undef, t.getD 132 undef, t.getD 133 undef, t.getD 134 undef, t.getD 135 undef, t.getD 136 undef, t.getD 137 undef, t.getD 138 undef, t.getD 139 undef, t.getD 140 undef, t.getD 141 undef, t.getD 142 undef, t.getD 143 undef, t.getD 144 undef, t.getD 145 undef, t.getD 146 undef, t.getD 147 undef, t.getD 148 undef, t.getD 149 undef, t.getD 150 undef, t.getD 151 undef, t.getD 152 undef, t.getD 153 undef, t.getD 154 undef, t.getD 155 undef, t.getD 156 undef, t.getD 157 undef, t.getD 158 undef, t.getD 159 undef, t.getD 160 undef, t.getD 161 undef, t.getD 162 undef, t.getD 163 undef, t.getD 164 undef, t.getD 165 undef, t.getD 166 undef, t.getD 167 undef, t.getD 168 undef, t.getD 169 undef, t.getD 170 undef, t.getD 171 undef, t.getD 172 undef, t.getD 173 undef, t.getD 174 undef, t.getD 175 undef, t.getD 176 undef, t.getD 177 undef, t.getD 178 undef, t.getD 179 undef, t.getD 180 undef, t.getD 181 undef, t.getD 182 undef, t.getD 183 undef, t.getD 184 undef, t.getD 185 undef, t.getD 186 undef, t.getD 187 undef, t.getD 188 undef, t.getD 189 undef, t.getD 190 undef, t.getD 191 undef, t.getD 192 undef, t.getD 193 undef, t.getD 194 undef, t.getD 195 undef, t.getD 196 undef, t.getD 197 undef, t.getD 198 undef, t.getD 199 undef, t.getD 200 undef] := arr_lit t 201 hsz2
      rw [e]
      simp only [q0, q1, q2, q3, q4, q5, q6, q7, q8, q9, q10, q11, q12, q65, q66, q67, q68, q69, q70, q71, q72, q73, q74, q75, q76, q77, q78, q79, q80, q81, q82, q83, q84, q85, q86, q87, q88, q89, q90, q91, q92, q93, q94, q95, q96, q97, q98, q99, q100, q101, q102, q103, q104, q105, q106, q107, q108, q109, q110, q111, q112, q113, q114, q115, q116, q117, q118, q119, q120, q121, q122, q123, q124, q125, q126, q127, q128, q129, q130, q131, q132, q133, q134, q135, q136, q137, q138, q139, q140, q141, q142, q143, q144, q145, q146, q147, q148, q149, q150, q151, q152, q153, q154, q155, q156, q157, q158, q159, q160, q161, q162, q163, q164, q165, q166, q167, q168, q169, q170, q171, q172, q173, q174, q175, q176, q177, q178, q179, q180, q181, q182, q183, q184, q185, q186, q187, q188, q189, q190, q191, q192, q193, q194, q195, q196, q197, q198, q199, q200, fN, fZ]
      have HFL := Lib.hid fL
      have HG9 := Lib.hid hG9
      clear fL fN fZ hf hold e hG9 hb9 q0 q1 q2 q3 q4 q5 q6 q7 q8 q9 q10 q11 q12 q65 q66 q67 q68 q69 q70 q71 q72 q73 q74 q75 q76 q77 q78 q79 q80 q81 q82 q83 q84 q85 q86 q87 q88 q89 q90 q91 q92 q93 q94 q95 q96 q97 q98 q99 q100 q101 q102 q103 q104 q105 q106 q107 q108 q109 q110 q111 q112 q113 q114 q115 q116 q117 q118 q119 q120 q121 q122 q123 q124 q125 q126 q127 q128 q129 q130 q131 q132 q133 q134 q135 q136 q137 q138 q139 q140 q141 q142 q143 q144 q145 q146 q147 q148 q149 q150 q151 q152 q153 q154 q155 q156 q157 q158 q159 q160 q161 q162 q163 q164 q165 q166 q167 q168 q169 q170 q171 q172 q173 q174 q175 q176 q177 q178 q179 q180 q181 q182 q183 q184 q185 q186 q187 q188 q189 q190 q191 q192 q193 q194 q195 q196 q197 q198 q199 q200 hsz hsz2
      go_wp2_with fail
      go_meet
      exact ⟨HFL.out, rfl, rfl, HG9.out⟩
    case steps =>
      refine ⟨?_, ?_, ?_, ?_, ?_, ?_, ?_, ?_, ?_, ?_, ?_, ?_, ?_, ?_, ?_, ?_, ?_, ?_, ?_, ?_, ?_, ?_, ?_, ?_, ?_, ?_, ?_, ?_, ?_, ?_, ?_, ?_, ?_, ?_, ?_, ?_, ?_, ?_, ?_, ?_, ?_, ?_, ?_, ?_, ?_, ?_, ?_, ?_, ?_, ?_, ?_, ?_, trivial⟩
      · intro a w hd ho hg K Q hK
        obtain ⟨o1, o2, o3, o4, o5⟩ := ho
        go_simp
        exact hK _ _ rfl (Below.refl _ _)
      · intro a w hd ho hg K Q hK
        have f0 : (a.tmps.getD 13 undef) = .func (.func 20) #[] #[] := hd ⟨0, .data⟩ (by simp) rfl 13 rfl
        go_simp
        refine (name_fn ⟨#[120]⟩ _).mono ?_
        rintro e w' ⟨v, rfl, hv, hb⟩
        exact hK v w' hv hb
      · intro a w hd ho hg K Q hK
        go_simp
        refine (leaf_fn _).mono ?_
        rintro e w' ⟨v, rfl, hv, hb⟩
        exact hK v w' hv hb
      · intro a w hd ho hg K Q hK
        obtain ⟨o1, o2, o3, o4, o5⟩ := ho
        go_simp
        exact hK _ _ rfl (Below.refl _ _)
      · intro a w hd ho hg K Q hK
        go_simp
        exact hK _ _ ⟨_, rfl, own_lit (Nat.zero_le _) (hit rfl) rfl (show 2 ≤ maxLen from by unfold maxLen; omega)⟩ ((Below.refl _ _).alloc (Nat.le_refl _) _)
      · intro a w hd ho hg K Q hK
        have f0 : (a.tmps.getD 16 undef) = .func (.func 22) #[] #[] := hd ⟨3, .data⟩ (by simp) rfl 16 rfl
        have f1 : ∃ g, (a.tmps.getD 17 undef) = .slice (some ⟨g, 0, none⟩) 2 2 ∧ w.ownsRow 0 3 1 (a.tmps.getD 17 undef) 2 ([0, 1].map (.int .i64)) := hd ⟨4, .data⟩ (by simp) rfl 17 rfl
        obtain ⟨g1, e1, h1⟩ := f1
        rw [e1] at h1
        go_simp
        refine (assign_fn 1 (some ⟨g1, 0, none⟩) 2 [0, 1] _ h1).mono ?_
        rintro e w' ⟨v, rfl, hv, hb⟩
        exact hK v w' hv hb
      · intro a w hd ho hg K Q hK
        have f0 : OwnV w (a.tmps.getD 14 undef) (nName ⟨#[120]⟩) := hd ⟨1, .data⟩ (by simp) rfl 14 rfl
        obtain ⟨an0, cn0, ak0, ck0, e0, h0⟩ := f0
        have f1 : OwnV w (a.tmps.getD 15 undef) (leafN) := hd ⟨2, .data⟩ (by simp) rfl 15 rfl
        obtain ⟨an1, cn1, ak1, ck1, e1, h1⟩ := f1
        have f2 : OwnV w (a.tmps.getD 18 undef) (nAssign 1 [0, 1]) := hd ⟨5, .data⟩ (by simp) rfl 18 rfl
        obtain ⟨an2, cn2, ak2, ck2, e2, h2⟩ := f2
        have hal : ∀ o, Below w.heap.size w (w.alloc o) := fun o => (Below.refl _ _).alloc (Nat.le_refl _) _
        have HAL := Lib.hid hal
        have H0 := Lib.hid h0
        have H1 := Lib.hid h1
        have H2 := Lib.hid h2
        clear hal h0 h1 h2
        rw [Array.getD_eq_getD_getElem?] at e0
        rw [Array.getD_eq_getD_getElem?] at e1
        rw [Array.getD_eq_getD_getElem?] at e2
        go_simp
        refine hK _ _ ?_ (HAL.out _)
        refine ⟨w.heap.size, rfl, [((nName ⟨#[120]⟩ : Nd), Value.slice an0 (nName ⟨#[120]⟩).names.length cn0, Value.slice ak0 (nName ⟨#[120]⟩).kids.length ck0), ((leafN : Nd), Value.slice an1 (leafN).names.length cn1, Value.slice ak1 (leafN).kids.length ck1), ((nAssign 1 [0, 1] : Nd), Value.slice an2 (nAssign 1 [0, 1]).names.length cn2, Value.slice ak2 (nAssign 1 [0, 1]).kids.length ck2)], ⟨own_lit (Nat.zero_le _) (hit rfl) rfl (show 3 ≤ maxLen from by unfold maxLen; omega), fun r hr => ?_⟩, rfl⟩
        simp only [List.mem_cons, List.not_mem_nil, or_false] at hr
        rcases hr with rfl | rfl | rfl
        · exact H0.out.below (HAL.out _)
        · exact H1.out.below (HAL.out _)
        · exact H2.out.below (HAL.out _)
      · intro a w hd ho hg K Q hK
        have f0 : ∃ g, (a.tmps.getD 19 undef) = .slice (some ⟨g, 0, none⟩) 3 3 ∧ OwnSyn w (a.tmps.getD 19 undef) [nName ⟨#[120]⟩, leafN, nAssign 1 [0, 1]] := hd ⟨6, .data⟩ (by simp) rfl 19 rfl
        obtain ⟨g0, e0, h0⟩ := f0
        rw [e0] at h0
        go_simp
        refine (stats_is 1 g0 3 2 [nName ⟨#[120]⟩, leafN, nAssign 1 [0, 1]] 4 _ h0 rfl rfl (by decide) (by decide) rfl).mono ?_
        rintro e w' ⟨v, rfl, hv, hb⟩
        exact hK v w' hv hb
      · intro a w hd ho hg K Q hK
        go_simp
        refine (leaf_fn _).mono ?_
        rintro e w' ⟨v, rfl, hv, hb⟩
        exact hK v w' hv hb
      · intro a w hd ho hg K Q hK
        go_simp
        refine (leaf_fn _).mono ?_
        rintro e w' ⟨v, rfl, hv, hb⟩
        exact hK v w' hv hb
      · intro a w hd ho hg K Q hK
        obtain ⟨o1, o2, o3, o4, o5⟩ := ho
        have x0 := cell_of hg.1 0 _ rfl
        have x1 := cell_of hg.1 1 _ rfl
        have x2 := cell_of hg.1 2 _ rfl
        have x3 := cell_of hg.1 3 _ rfl
        have x4 := cell_of hg.1 4 _ rfl
        have x5 := cell_of hg.1 5 _ rfl
        go_simp
        exact hK _ _ ⟨none, 0, none, 0, rfl, nilRow, nilRow⟩ (Below.refl _ _)
      · intro a w hd ho hg K Q hK
        obtain ⟨o1, o2, o3, o4, o5⟩ := ho
        go_simp
        exact hK _ _ rfl (Below.refl _ _)
      · intro a w hd ho hg K Q hK
        go_simp
        exact hK _ _ ⟨_, rfl, own_lit (Nat.zero_le _) (hit rfl) rfl (show 3 ≤ maxLen from by unfold maxLen; omega)⟩ ((Below.refl _ _).alloc (Nat.le_refl _) _)
      · intro a w hd ho hg K Q hK
        have f0 : (a.tmps.getD 24 undef) = .func (.func 23) #[] #[] := hd ⟨11, .data⟩ (by simp) rfl 24 rfl
        have f1 : ∃ g, (a.tmps.getD 25 undef) = .slice (some ⟨g, 0, none⟩) 3 3 ∧ w.ownsRow 0 3 1 (a.tmps.getD 25 undef) 3 ([0, 1, 2].map (.int .i64)) := hd ⟨12, .data⟩ (by simp) rfl 25 rfl
        obtain ⟨g1, e1, h1⟩ := f1
        rw [e1] at h1
        go_simp
        refine (loop_fn (some ⟨g1, 0, none⟩) 3 [0, 1, 2] _ h1).mono ?_
        rintro e w' ⟨v, rfl, hv, hb⟩
        exact hK v w' hv hb
      · intro a w hd ho hg K Q hK
        have f0 : OwnV w (a.tmps.getD 21 undef) (leafN) := hd ⟨8, .data⟩ (by simp) rfl 21 rfl
        obtain ⟨an0, cn0, ak0, ck0, e0, h0⟩ := f0
        have f1 : OwnV w (a.tmps.getD 22 undef) (leafN) := hd ⟨9, .data⟩ (by simp) rfl 22 rfl
        obtain ⟨an1, cn1, ak1, ck1, e1, h1⟩ := f1
        have f2 : OwnV w (a.tmps.getD 23 undef) (nBlock) := hd ⟨10, .data⟩ (by simp) rfl 23 rfl
        obtain ⟨an2, cn2, ak2, ck2, e2, h2⟩ := f2
        have f3 : OwnV w (a.tmps.getD 26 undef) (nLoop [0, 1, 2]) := hd ⟨13, .data⟩ (by simp) rfl 26 rfl
        obtain ⟨an3, cn3, ak3, ck3, e3, h3⟩ := f3
        have hal : ∀ o, Below w.heap.size w (w.alloc o) := fun o => (Below.refl _ _).alloc (Nat.le_refl _) _
        have HAL := Lib.hid hal
        have H0 := Lib.hid h0
        have H1 := Lib.hid h1
        have H2 := Lib.hid h2
        have H3 := Lib.hid h3
        clear hal h0 h1 h2 h3
        rw [Array.getD_eq_getD_getElem?] at e0
        rw [Array.getD_eq_getD_getElem?] at e1
        rw [Array.getD_eq_getD_getElem?] at e2
        rw [Array.getD_eq_getD_getElem?] at e3
        go_simp
        refine hK _ _ ?_ (HAL.out _)
        refine ⟨w.heap.size, rfl, [((leafN : Nd), Value.slice an0 (leafN).names.length cn0, Value.slice ak0 (leafN).kids.length ck0), ((leafN : Nd), Value.slice an1 (leafN).names.length cn1, Value.slice ak1 (leafN).kids.length ck1), ((nBlock : Nd), Value.slice an2 (nBlock).names.length cn2, Value.slice ak2 (nBlock).kids.length ck2), ((nLoop [0, 1, 2] : Nd), Value.slice an3 (nLoop [0, 1, 2]).names.length cn3, Value.slice ak3 (nLoop [0, 1, 2]).kids.length ck3)], ⟨own_lit (Nat.zero_le _) (hit rfl) rfl (show 4 ≤ maxLen from by unfold maxLen; omega), fun r hr => ?_⟩, rfl⟩
        simp only [List.mem_cons, List.not_mem_nil, or_false] at hr
        rcases hr with rfl | rfl | rfl | rfl
        · exact H0.out.below (HAL.out _)
        · exact H1.out.below (HAL.out _)
        · exact H2.out.below (HAL.out _)
        · exact H3.out.below (HAL.out _)
      · intro a w hd ho hg K Q hK
        have f0 : ∃ g, (a.tmps.getD 27 undef) = .slice (some ⟨g, 0, none⟩) 4 4 ∧ OwnSyn w (a.tmps.getD 27 undef) [leafN, leafN, nBlock, nLoop [0, 1, 2]] := hd ⟨14, .data⟩ (by simp) rfl 27 rfl
        obtain ⟨g0, e0, h0⟩ := f0
        rw [e0] at h0
        go_simp
        refine (stats_is 1 g0 4 3 [leafN, leafN, nBlock, nLoop [0, 1, 2]] 5 _ h0 rfl rfl (by decide) (by decide) rfl).mono ?_
        rintro e w' ⟨v, rfl, hv, hb⟩
        exact hK v w' hv hb
      · intro a w hd ho hg K Q hK
        go_simp
        refine (leaf_fn _).mono ?_
        rintro e w' ⟨v, rfl, hv, hb⟩
        exact hK v w' hv hb
      · intro a w hd ho hg K Q hK
        obtain ⟨o1, o2, o3, o4, o5⟩ := ho
        have x0 := cell_of hg.1 0 _ rfl
        have x1 := cell_of hg.1 1 _ rfl
        have x2 := cell_of hg.1 2 _ rfl
        have x3 := cell_of hg.1 3 _ rfl
        have x4 := cell_of hg.1 4 _ rfl
        have x5 := cell_of hg.1 5 _ rfl
        go_simp
        exact hK _ _ ⟨none, 0, none, 0, rfl, nilRow, nilRow⟩ (Below.refl _ _)
      · intro a w hd ho hg K Q hK
        obtain ⟨o1, o2, o3, o4, o5⟩ := ho
        go_simp
        exact hK _ _ rfl (Below.refl _ _)
      · intro a w hd ho hg K Q hK
        go_simp
        exact hK _ _ ⟨_, rfl, own_lit (Nat.zero_le _) (hit rfl) rfl (show 2 ≤ maxLen from by unfold maxLen; omega)⟩ ((Below.refl _ _).alloc (Nat.le_refl _) _)
      · intro a w hd ho hg K Q hK
        have f0 : (a.tmps.getD 31 undef) = .func (.func 21) #[] #[] := hd ⟨18, .data⟩ (by simp) rfl 31 rfl
        have f1 : ∃ g, (a.tmps.getD 32 undef) = .slice (some ⟨g, 0, none⟩) 2 2 ∧ w.ownsRow 0 3 1 (a.tmps.getD 32 undef) 2 ([0, 1].map (.int .i64)) := hd ⟨19, .data⟩ (by simp) rfl 32 rfl
        obtain ⟨g1, e1, h1⟩ := f1
        rw [e1] at h1
        go_simp
        refine (of_fn 8 (some ⟨g1, 0, none⟩) 2 [0, 1] _ h1).mono ?_
        rintro e w' ⟨v, rfl, hv, hb⟩
        exact hK v w' hv hb
      · intro a w hd ho hg K Q hK
        have f0 : OwnV w (a.tmps.getD 29 undef) (leafN) := hd ⟨16, .data⟩ (by simp) rfl 29 rfl
        obtain ⟨an0, cn0, ak0, ck0, e0, h0⟩ := f0
        have f1 : OwnV w (a.tmps.getD 30 undef) (nBlock) := hd ⟨17, .data⟩ (by simp) rfl 30 rfl
        obtain ⟨an1, cn1, ak1, ck1, e1, h1⟩ := f1
        have f2 : OwnV w (a.tmps.getD 33 undef) (nOf 8 [0, 1]) := hd ⟨20, .data⟩ (by simp) rfl 33 rfl
        obtain ⟨an2, cn2, ak2, ck2, e2, h2⟩ := f2
        have hal : ∀ o, Below w.heap.size w (w.alloc o) := fun o => (Below.refl _ _).alloc (Nat.le_refl _) _
        have HAL := Lib.hid hal
        have H0 := Lib.hid h0
        have H1 := Lib.hid h1
        have H2 := Lib.hid h2
        clear hal h0 h1 h2
        rw [Array.getD_eq_getD_getElem?] at e0
        rw [Array.getD_eq_getD_getElem?] at e1
        rw [Array.getD_eq_getD_getElem?] at e2
        go_simp
        refine hK _ _ ?_ (HAL.out _)
        refine ⟨w.heap.size, rfl, [((leafN : Nd), Value.slice an0 (leafN).names.length cn0, Value.slice ak0 (leafN).kids.length ck0), ((nBlock : Nd), Value.slice an1 (nBlock).names.length cn1, Value.slice ak1 (nBlock).kids.length ck1), ((nOf 8 [0, 1] : Nd), Value.slice an2 (nOf 8 [0, 1]).names.length cn2, Value.slice ak2 (nOf 8 [0, 1]).kids.length ck2)], ⟨own_lit (Nat.zero_le _) (hit rfl) rfl (show 3 ≤ maxLen from by unfold maxLen; omega), fun r hr => ?_⟩, rfl⟩
        simp only [List.mem_cons, List.not_mem_nil, or_false] at hr
        rcases hr with rfl | rfl | rfl
        · exact H0.out.below (HAL.out _)
        · exact H1.out.below (HAL.out _)
        · exact H2.out.below (HAL.out _)
      · intro a w hd ho hg K Q hK
        have f0 : ∃ g, (a.tmps.getD 34 undef) = .slice (some ⟨g, 0, none⟩) 3 3 ∧ OwnSyn w (a.tmps.getD 34 undef) [leafN, nBlock, nOf 8 [0, 1]] := hd ⟨21, .data⟩ (by simp) rfl 34 rfl
        obtain ⟨g0, e0, h0⟩ := f0
        rw [e0] at h0
        go_simp
        refine (stats_is 1 g0 3 2 [leafN, nBlock, nOf 8 [0, 1]] 4 _ h0 rfl rfl (by decide) (by decide) rfl).mono ?_
        rintro e w' ⟨v, rfl, hv, hb⟩
        exact hK v w' hv hb
      · intro a w hd ho hg K Q hK
        obtain ⟨o1, o2, o3, o4, o5⟩ := ho
        go_simp
        exact hK _ _ rfl (Below.refl _ _)
      · intro a w hd ho hg K Q hK
        have f0 : (a.tmps.getD 36 undef) = .func (.func 20) #[] #[] := hd ⟨23, .data⟩ (by simp) rfl 36 rfl
        go_simp
        refine (name_fn ⟨#[102]⟩ _).mono ?_
        rintro e w' ⟨v, rfl, hv, hb⟩
        exact hK v w' hv hb
      · intro a w hd ho hg K Q hK
        obtain ⟨o1, o2, o3, o4, o5⟩ := ho
        go_simp
        exact hK _ _ rfl (Below.refl _ _)
      · intro a w hd ho hg K Q hK
        go_simp
        exact hK _ _ ⟨_, rfl, own_lit (Nat.zero_le _) (hit rfl) rfl (show 1 ≤ maxLen from by unfold maxLen; omega)⟩ ((Below.refl _ _).alloc (Nat.le_refl _) _)
      · intro a w hd ho hg K Q hK
        have f0 : (a.tmps.getD 38 undef) = .func (.func 21) #[] #[] := hd ⟨25, .data⟩ (by simp) rfl 38 rfl
        have f1 : ∃ g, (a.tmps.getD 39 undef) = .slice (some ⟨g, 0, none⟩) 1 1 ∧ w.ownsRow 0 3 1 (a.tmps.getD 39 undef) 1 ([0].map (.int .i64)) := hd ⟨26, .data⟩ (by simp) rfl 39 rfl
        obtain ⟨g1, e1, h1⟩ := f1
        rw [e1] at h1
        go_simp
        refine (of_fn 29 (some ⟨g1, 0, none⟩) 1 [0] _ h1).mono ?_
        rintro e w' ⟨v, rfl, hv, hb⟩
        exact hK v w' hv hb
      · intro a w hd ho hg K Q hK
        obtain ⟨o1, o2, o3, o4, o5⟩ := ho
        go_simp
        exact hK _ _ rfl (Below.refl _ _)
      · intro a w hd ho hg K Q hK
        go_simp
        exact hK _ _ ⟨_, rfl, own_lit (Nat.zero_le _) (hit rfl) rfl (show 1 ≤ maxLen from by unfold maxLen; omega)⟩ ((Below.refl _ _).alloc (Nat.le_refl _) _)
      · intro a w hd ho hg K Q hK
        have f0 : (a.tmps.getD 41 undef) = .func (.func 21) #[] #[] := hd ⟨28, .data⟩ (by simp) rfl 41 rfl
        have f1 : ∃ g, (a.tmps.getD 42 undef) = .slice (some ⟨g, 0, none⟩) 1 1 ∧ w.ownsRow 0 3 1 (a.tmps.getD 42 undef) 1 ([1].map (.int .i64)) := hd ⟨29, .data⟩ (by simp) rfl 42 rfl
        obtain ⟨g1, e1, h1⟩ := f1
        rw [e1] at h1
        go_simp
        refine (of_fn 4 (some ⟨g1, 0, none⟩) 1 [1] _ h1).mono ?_
        rintro e w' ⟨v, rfl, hv, hb⟩
        exact hK v w' hv hb
      · intro a w hd ho hg K Q hK
        have f0 : OwnV w (a.tmps.getD 37 undef) (nName ⟨#[102]⟩) := hd ⟨24, .data⟩ (by simp) rfl 37 rfl
        obtain ⟨an0, cn0, ak0, ck0, e0, h0⟩ := f0
        have f1 : OwnV w (a.tmps.getD 40 undef) (nOf 29 [0]) := hd ⟨27, .data⟩ (by simp) rfl 40 rfl
        obtain ⟨an1, cn1, ak1, ck1, e1, h1⟩ := f1
        have f2 : OwnV w (a.tmps.getD 43 undef) (nOf 4 [1]) := hd ⟨30, .data⟩ (by simp) rfl 43 rfl
        obtain ⟨an2, cn2, ak2, ck2, e2, h2⟩ := f2
        have hal : ∀ o, Below w.heap.size w (w.alloc o) := fun o => (Below.refl _ _).alloc (Nat.le_refl _) _
        have HAL := Lib.hid hal
        have H0 := Lib.hid h0
        have H1 := Lib.hid h1
        have H2 := Lib.hid h2
        clear hal h0 h1 h2
        rw [Array.getD_eq_getD_getElem?] at e0
        rw [Array.getD_eq_getD_getElem?] at e1
        rw [Array.getD_eq_getD_getElem?] at e2
        go_simp
        refine hK _ _ ?_ (HAL.out _)
        refine ⟨w.heap.size, rfl, [((nName ⟨#[102]⟩ : Nd), Value.slice an0 (nName ⟨#[102]⟩).names.length cn0, Value.slice ak0 (nName ⟨#[102]⟩).kids.length ck0), ((nOf 29 [0] : Nd), Value.slice an1 (nOf 29 [0]).names.length cn1, Value.slice ak1 (nOf 29 [0]).kids.length ck1), ((nOf 4 [1] : Nd), Value.slice an2 (nOf 4 [1]).names.length cn2, Value.slice ak2 (nOf 4 [1]).kids.length ck2)], ⟨own_lit (Nat.zero_le _) (hit rfl) rfl (show 3 ≤ maxLen from by unfold maxLen; omega), fun r hr => ?_⟩, rfl⟩
        simp only [List.mem_cons, List.not_mem_nil, or_false] at hr
        rcases hr with rfl | rfl | rfl
        · exact H0.out.below (HAL.out _)
        · exact H1.out.below (HAL.out _)
        · exact H2.out.below (HAL.out _)
      · intro a w hd ho hg K Q hK
        have f0 : ∃ g, (a.tmps.getD 44 undef) = .slice (some ⟨g, 0, none⟩) 3 3 ∧ OwnSyn w (a.tmps.getD 44 undef) [nName ⟨#[102]⟩, nOf 29 [0], nOf 4 [1]] := hd ⟨31, .data⟩ (by simp) rfl 44 rfl
        obtain ⟨g0, e0, h0⟩ := f0
        rw [e0] at h0
        go_simp
        refine (stats_is 1 g0 3 2 [nName ⟨#[102]⟩, nOf 29 [0], nOf 4 [1]] 4 _ h0 rfl rfl (by decide) (by decide) rfl).mono ?_
        rintro e w' ⟨v, rfl, hv, hb⟩
        exact hK v w' hv hb
      · intro a w hd ho hg K Q hK
        obtain ⟨o1, o2, o3, o4, o5⟩ := ho
        go_simp
        exact hK _ _ rfl (Below.refl _ _)
      · intro a w hd ho hg K Q hK
        have f0 : (a.tmps.getD 46 undef) = .func (.func 21) #[] #[] := hd ⟨33, .data⟩ (by simp) rfl 46 rfl
        go_simp
        refine (of_fn 13 none 0 [] _ nilRow).mono ?_
        rintro e w' ⟨v, rfl, hv, hb⟩
        exact hK v w' hv hb
      · intro a w hd ho hg K Q hK
        obtain ⟨o1, o2, o3, o4, o5⟩ := ho
        go_simp
        exact hK _ _ rfl (Below.refl _ _)
      · intro a w hd ho hg K Q hK
        have f0 : (a.tmps.getD 48 undef) = .func (.func 21) #[] #[] := hd ⟨35, .data⟩ (by simp) rfl 48 rfl
        go_simp
        refine (of_fn 12 none 0 [] _ nilRow).mono ?_
        rintro e w' ⟨v, rfl, hv, hb⟩
        exact hK v w' hv hb
      · intro a w hd ho hg K Q hK
        have f0 : OwnV w (a.tmps.getD 47 undef) (nOf 13 []) := hd ⟨34, .data⟩ (by simp) rfl 47 rfl
        obtain ⟨an0, cn0, ak0, ck0, e0, h0⟩ := f0
        have f1 : OwnV w (a.tmps.getD 49 undef) (nOf 12 []) := hd ⟨36, .data⟩ (by simp) rfl 49 rfl
        obtain ⟨an1, cn1, ak1, ck1, e1, h1⟩ := f1
        have hal : ∀ o, Below w.heap.size w (w.alloc o) := fun o => (Below.refl _ _).alloc (Nat.le_refl _) _
        have HAL := Lib.hid hal
        have H0 := Lib.hid h0
        have H1 := Lib.hid h1
        clear hal h0 h1
        rw [Array.getD_eq_getD_getElem?] at e0
        rw [Array.getD_eq_getD_getElem?] at e1
        go_simp
        refine hK _ _ ?_ (HAL.out _)
        refine ⟨w.heap.size, rfl, [((nOf 13 [] : Nd), Value.slice an0 (nOf 13 []).names.length cn0, Value.slice ak0 (nOf 13 []).kids.length ck0), ((nOf 12 [] : Nd), Value.slice an1 (nOf 12 []).names.length cn1, Value.slice ak1 (nOf 12 []).kids.length ck1)], ⟨own_lit (Nat.zero_le _) (hit rfl) rfl (show 2 ≤ maxLen from by unfold maxLen; omega), fun r hr => ?_⟩, rfl⟩
        simp only [List.mem_cons, List.not_mem_nil, or_false] at hr
        rcases hr with rfl | rfl
        · exact H0.out.below (HAL.out _)
        · exact H1.out.below (HAL.out _)
      · intro a w hd ho hg K Q hK
        have f0 : ∃ g, (a.tmps.getD 50 undef) = .slice (some ⟨g, 0, none⟩) 2 2 ∧ OwnSyn w (a.tmps.getD 50 undef) [nOf 13 [], nOf 12 []] := hd ⟨37, .data⟩ (by simp) rfl 50 rfl
        obtain ⟨g0, e0, h0⟩ := f0
        rw [e0] at h0
        go_simp
        refine (stats_is 2 g0 2 0 [nOf 13 [], nOf 12 []] 3 _ h0 rfl rfl (by decide) (by decide) rfl).mono ?_
        rintro e w' ⟨v, rfl, hv, hb⟩
        exact hK v w' hv hb
      · intro a w hd ho hg K Q hK
        obtain ⟨o1, o2, o3, o4, o5⟩ := ho
        go_simp
        exact hK _ _ rfl (Below.refl _ _)
      · intro a w hd ho hg K Q hK
        have f0 : (a.tmps.getD 52 undef) = .func (.func 20) #[] #[] := hd ⟨39, .data⟩ (by simp) rfl 52 rfl
        go_simp
        refine (name_fn ⟨#[120]⟩ _).mono ?_
        rintro e w' ⟨v, rfl, hv, hb⟩
        exact hK v w' hv hb
      · intro a w hd ho hg K Q hK
        obtain ⟨o1, o2, o3, o4, o5⟩ := ho
        go_simp
        exact hK _ _ rfl (Below.refl _ _)
      · intro a w hd ho hg K Q hK
        have f0 : (a.tmps.getD 54 undef) = .func (.func 20) #[] #[] := hd ⟨41, .data⟩ (by simp) rfl 54 rfl
        go_simp
        refine (name_fn ⟨#[121]⟩ _).mono ?_
        rintro e w' ⟨v, rfl, hv, hb⟩
        exact hK v w' hv hb
      · intro a w hd ho hg K Q hK
        go_simp
        refine (leaf_fn _).mono ?_
        rintro e w' ⟨v, rfl, hv, hb⟩
        exact hK v w' hv hb
      · intro a w hd ho hg K Q hK
        obtain ⟨o1, o2, o3, o4, o5⟩ := ho
        go_simp
        exact hK _ _ rfl (Below.refl _ _)
      · intro a w hd ho hg K Q hK
        go_simp
        exact hK _ _ ⟨_, rfl, own_lit (Nat.zero_le _) (hit rfl) rfl (show 3 ≤ maxLen from by unfold maxLen; omega)⟩ ((Below.refl _ _).alloc (Nat.le_refl _) _)
      · intro a w hd ho hg K Q hK
        have f0 : (a.tmps.getD 57 undef) = .func (.func 22) #[] #[] := hd ⟨44, .data⟩ (by simp) rfl 57 rfl
        have f1 : ∃ g, (a.tmps.getD 58 undef) = .slice (some ⟨g, 0, none⟩) 3 3 ∧ w.ownsRow 0 3 1 (a.tmps.getD 58 undef) 3 ([0, 1, 2].map (.int .i64)) := hd ⟨45, .data⟩ (by simp) rfl 58 rfl
        obtain ⟨g1, e1, h1⟩ := f1
        rw [e1] at h1
        go_simp
        refine (assign_fn 2 (some ⟨g1, 0, none⟩) 3 [0, 1, 2] _ h1).mono ?_
        rintro e w' ⟨v, rfl, hv, hb⟩
        exact hK v w' hv hb
      · intro a w hd ho hg K Q hK
        have f0 : OwnV w (a.tmps.getD 53 undef) (nName ⟨#[120]⟩) := hd ⟨40, .data⟩ (by simp) rfl 53 rfl
        obtain ⟨an0, cn0, ak0, ck0, e0, h0⟩ := f0
        have f1 : OwnV w (a.tmps.getD 55 undef) (nName ⟨#[121]⟩) := hd ⟨42, .data⟩ (by simp) rfl 55 rfl
        obtain ⟨an1, cn1, ak1, ck1, e1, h1⟩ := f1
        have f2 : OwnV w (a.tmps.getD 56 undef) (leafN) := hd ⟨43, .data⟩ (by simp) rfl 56 rfl
        obtain ⟨an2, cn2, ak2, ck2, e2, h2⟩ := f2
        have f3 : OwnV w (a.tmps.getD 59 undef) (nAssign 2 [0, 1, 2]) := hd ⟨46, .data⟩ (by simp) rfl 59 rfl
        obtain ⟨an3, cn3, ak3, ck3, e3, h3⟩ := f3
        have hal : ∀ o, Below w.heap.size w (w.alloc o) := fun o => (Below.refl _ _).alloc (Nat.le_refl _) _
        have HAL := Lib.hid hal
        have H0 := Lib.hid h0
        have H1 := Lib.hid h1
        have H2 := Lib.hid h2
        have H3 := Lib.hid h3
        clear hal h0 h1 h2 h3
        rw [Array.getD_eq_getD_getElem?] at e0
        rw [Array.getD_eq_getD_getElem?] at e1
        rw [Array.getD_eq_getD_getElem?] at e2
        rw [Array.getD_eq_getD_getElem?] at e3
        go_simp
        refine hK _ _ ?_ (HAL.out _)
        refine ⟨w.heap.size, rfl, [((nName ⟨#[120]⟩ : Nd), Value.slice an0 (nName ⟨#[120]⟩).names.length cn0, Value.slice ak0 (nName ⟨#[120]⟩).kids.length ck0), ((nName ⟨#[121]⟩ : Nd), Value.slice an1 (nName ⟨#[121]⟩).names.length cn1, Value.slice ak1 (nName ⟨#[121]⟩).kids.length ck1), ((leafN : Nd), Value.slice an2 (leafN).names.length cn2, Value.slice ak2 (leafN).kids.length ck2), ((nAssign 2 [0, 1, 2] : Nd), Value.slice an3 (nAssign 2 [0, 1, 2]).names.length cn3, Value.slice ak3 (nAssign 2 [0, 1, 2]).kids.length ck3)], ⟨own_lit (Nat.zero_le _) (hit rfl) rfl (show 4 ≤ maxLen from by unfold maxLen; omega), fun r hr => ?_⟩, rfl⟩
        simp only [List.mem_cons, List.not_mem_nil, or_false] at hr
        rcases hr with rfl | rfl | rfl | rfl
        · exact H0.out.below (HAL.out _)
        · exact H1.out.below (HAL.out _)
        · exact H2.out.below (HAL.out _)
        · exact H3.out.below (HAL.out _)
      · intro a w hd ho hg K Q hK
        have f0 : ∃ g, (a.tmps.getD 60 undef) = .slice (some ⟨g, 0, none⟩) 4 4 ∧ OwnSyn w (a.tmps.getD 60 undef) [nName ⟨#[120]⟩, nName ⟨#[121]⟩, leafN, nAssign 2 [0, 1, 2]] := hd ⟨47, .data⟩ (by simp) rfl 60 rfl
        obtain ⟨g0, e0, h0⟩ := f0
        rw [e0] at h0
        go_simp
        refine (stats_is 1 g0 4 3 [nName ⟨#[120]⟩, nName ⟨#[121]⟩, leafN, nAssign 2 [0, 1, 2]] 5 _ h0 rfl rfl (by decide) (by decide) rfl).mono ?_
        rintro e w' ⟨v, rfl, hv, hb⟩
        exact hK v w' hv hb
      · intro a w hd ho hg K Q hK
        have f0 : SynV w (a.tmps.getD 20 undef) ((statRaw 2 1 [nName ⟨#[120]⟩, leafN, nAssign 1 [0, 1]]).map line1) (4) := hd ⟨7, .data⟩ (by simp) rfl 20 rfl
        obtain ⟨g0, c0, e0, h0⟩ := f0
        have f1 : SynV w (a.tmps.getD 28 undef) ((statRaw 3 1 [leafN, leafN, nBlock, nLoop [0, 1, 2]]).map line1) (5) := hd ⟨15, .data⟩ (by simp) rfl 28 rfl
        obtain ⟨g1, c1, e1, h1⟩ := f1
        have f2 : SynV w (a.tmps.getD 35 undef) ((statRaw 2 1 [leafN, nBlock, nOf 8 [0, 1]]).map line1) (4) := hd ⟨22, .data⟩ (by simp) rfl 35 rfl
        obtain ⟨g2, c2, e2, h2⟩ := f2
        have f3 : SynV w (a.tmps.getD 45 undef) ((statRaw 2 1 [nName ⟨#[102]⟩, nOf 29 [0], nOf 4 [1]]).map line1) (4) := hd ⟨32, .data⟩ (by simp) rfl 45 rfl
        obtain ⟨g3, c3, e3, h3⟩ := f3
        have f4 : SynV w (a.tmps.getD 51 undef) ((statRaw 0 2 [nOf 13 [], nOf 12 []]).map line1) (3) := hd ⟨38, .data⟩ (by simp) rfl 51 rfl
        obtain ⟨g4, c4, e4, h4⟩ := f4
        have f5 : SynV w (a.tmps.getD 61 undef) ((statRaw 3 1 [nName ⟨#[120]⟩, nName ⟨#[121]⟩, leafN, nAssign 2 [0, 1, 2]]).map line1) (5) := hd ⟨48, .data⟩ (by simp) rfl 61 rfl
        obtain ⟨g5, c5, e5, h5⟩ := f5
        have hal : ∀ o, Below w.heap.size w (w.alloc o) := fun o => (Below.refl _ _).alloc (Nat.le_refl _) _
        have HAL := Lib.hid hal
        have H0 := Lib.hid h0
        have H1 := Lib.hid h1
        have H2 := Lib.hid h2
        have H3 := Lib.hid h3
        have H4 := Lib.hid h4
        have H5 := Lib.hid h5
        clear hal h0 h1 h2 h3 h4 h5
        rw [Array.getD_eq_getD_getElem?] at e0
        rw [Array.getD_eq_getD_getElem?] at e1
        rw [Array.getD_eq_getD_getElem?] at e2
        rw [Array.getD_eq_getD_getElem?] at e3
        rw [Array.getD_eq_getD_getElem?] at e4
        rw [Array.getD_eq_getD_getElem?] at e5
        go_simp
        refine hK _ _ ?_ (HAL.out _)
        refine ⟨w.heap.size, rfl, fun k p hp => ?_⟩
        match k, hp with
        | 0, hp => cases hp; exact ⟨_, cell_of (hit rfl) 0 _ rfl, cell_of (hit rfl) 1 _ rfl, g0, c0, rfl, H0.out.below (HAL.out _)⟩
        | 1, hp => cases hp; exact ⟨_, cell_of (hit rfl) 2 _ rfl, cell_of (hit rfl) 3 _ rfl, g1, c1, rfl, H1.out.below (HAL.out _)⟩
        | 2, hp => cases hp; exact ⟨_, cell_of (hit rfl) 4 _ rfl, cell_of (hit rfl) 5 _ rfl, g2, c2, rfl, H2.out.below (HAL.out _)⟩
        | 3, hp => cases hp; exact ⟨_, cell_of (hit rfl) 6 _ rfl, cell_of (hit rfl) 7 _ rfl, g3, c3, rfl, H3.out.below (HAL.out _)⟩
        | 4, hp => cases hp; exact ⟨_, cell_of (hit rfl) 8 _ rfl, cell_of (hit rfl) 9 _ rfl, g4, c4, rfl, H4.out.below (HAL.out _)⟩
        | 5, hp => cases hp; exact ⟨_, cell_of (hit rfl) 10 _ rfl, cell_of (hit rfl) 11 _ rfl, g5, c5, rfl, H5.out.below (HAL.out _)⟩
        | q + 6, hp => cases hp
      · intro a w hd ho hg K Q hK
        have f0 : SynsV w (a.tmps.getD 62 undef) [((statRaw 2 1 [nName ⟨#[120]⟩, leafN, nAssign 1 [0, 1]]).map line1, 4), ((statRaw 3 1 [leafN, leafN, nBlock, nLoop [0, 1, 2]]).map line1, 5), ((statRaw 2 1 [leafN, nBlock, nOf 8 [0, 1]]).map line1, 4), ((statRaw 2 1 [nName ⟨#[102]⟩, nOf 29 [0], nOf 4 [1]]).map line1, 4), ((statRaw 0 2 [nOf 13 [], nOf 12 []]).map line1, 3), ((statRaw 3 1 [nName ⟨#[120]⟩, nName ⟨#[121]⟩, leafN, nAssign 2 [0, 1, 2]]).map line1, 5)] := hd ⟨49, .data⟩ (by simp) rfl 62 rfl
        obtain ⟨g0, e0, -⟩ := f0
        dsimp only [List.length_cons, List.length_nil] at e0
        go_simp
        exact hK _ _ rfl (Below.refl _ _)
      · intro a w hd ho hg K Q hK
        go_simp
        exact hK _ _ rfl (Below.refl _ _)
  case rest =>
    obtain ⟨hL, rfl, rfl, hG1, hG2⟩ := hcut
    have hL1 := rows_yes
    have hL2 : ([((statRaw 2 1 [nName ⟨#[120]⟩, leafN, nAssign 1 [0, 1]]).map line1, 4), ((statRaw 3 1 [leafN, leafN, nBlock, nLoop [0, 1, 2]]).map line1, 5), ((statRaw 2 1 [leafN, nBlock, nOf 8 [0, 1]]).map line1, 4), ((statRaw 2 1 [nName ⟨#[102]⟩, nOf 29 [0], nOf 4 [1]]).map line1, 4), ((statRaw 0 2 [nOf 13 [], nOf 12 []]).map line1, 3), ((statRaw 3 1 [nName ⟨#[120]⟩, nName ⟨#[121]⟩, leafN, nAssign 2 [0, 1, 2]]).map line1, 5)] : List (List Nd × Int)).length = 6 := rfl
    revert hL hL1 hL2
    generalize ([((statRaw 2 1 [nName ⟨#[120]⟩, leafN, nAssign 1 [0, 1]]).map line1, 4), ((statRaw 3 1 [leafN, leafN, nBlock, nLoop [0, 1, 2]]).map line1, 5), ((statRaw 2 1 [leafN, nBlock, nOf 8 [0, 1]]).map line1, 4), ((statRaw 2 1 [nName ⟨#[102]⟩, nOf 29 [0], nOf 4 [1]]).map line1, 4), ((statRaw 0 2 [nOf 13 [], nOf 12 []]).map line1, 3), ((statRaw 3 1 [nName ⟨#[120]⟩, nName ⟨#[121]⟩, leafN, nAssign 2 [0, 1, 2]]).map line1, 5)] : List (List Nd × Int)) = L1
    intro hL hL1 hL2
    obtain ⟨gL, eL, hOK⟩ := syns_ok hL hL1
    rw [hL2] at eL hOK
    subst eL
    have HOK := Lib.hid hOK
    have HG := Lib.hid (show wc.heap[B]? = some (.cells blockC 30 (0, 0)) ∧ Below w.heap.size w wc from ⟨hG1, hG2⟩)
    clear hOK hG1 hG2 hL1 hL2 hW hb hx hB
    go_wp2_with fail
    go_loopg [64] 6 (fun r i wr => ∃ k : Nat, r = 6 - k ∧ i = .int .i64 (k : Int) ∧ k ≤ 6 ∧ Below wc.heap.size wc wr)
    case atStart => exact ⟨0, rfl, rfl, Nat.zero_le _, Below.refl _ _⟩
    case round =>
      obtain ⟨k, rfl, rfl, hk, hb⟩ := hrel
      by_cases hlt : k < 6
      · have hlt' : (k : Int) < 6 := by omega
        obtain ⟨gu, nu, cu, r1, hx⟩ := HOK.out k hlt
        have hbal : ∀ o, Below wc.heap.size wc (wr.alloc o) := fun o => hb.trans (((Below.refl _ _).alloc (Nat.le_refl _) _).mono hb.size)
        obtain ⟨x0, x1, -⟩ := hx wr hb
        have c := fun o => (hx (wr.alloc o) (hbal o)).2.2
        have HC := Lib.hid c
        have HBA := Lib.hid hbal
        clear c hbal hx hb
        go_wp2_with fail
        refine (HC.out _).mono ?_
        rintro e w3 ⟨rfl, b3⟩
        have HB3 := Lib.hid ((HBA.out _).trans (b3.mono (HBA.out _).size))
        clear b3
        go_wp2_with fail
        go_roundg (6 - (k + 1))
        case measure => omega
        case rel => exact ⟨k + 1, rfl, by go_num, by omega, HB3.out⟩
      · obtain rfl : k = 6 := by omega
        have hlt' : ¬ ((6 : Nat) : Int) < 6 := by omega
        have HB := Lib.hid hb
        clear hb
        have hG2 : wr.heap[B]? = some (.cells blockC 30 (0, 0)) ∧ Below w.heap.size w wr := ⟨(HB.out.block _ (lt_of_heap HG.out.1)).trans HG.out.1, HG.out.2.trans (HB.out.mono HG.out.2.size)⟩
        have HG2 := Lib.hid hG2
        clear hG2 HB HG hL HOK hlt hlt' hk
        go_upto_region 12 with fail
        go_cut [167, 168, 169] (fun vL vN vZ wx => SynsV wx vL [((statRaw 2 1 [nName ⟨#[49, 120]⟩, leafN, nAssign 1 [0, 1]]).map line1, 4), ((statRaw 2 1 [nName ⟨#[101, 110, 100]⟩, leafN, nAssign 1 [0, 1]]).map line1, 4), ((statRaw 1 1 [nName ⟨#[120]⟩, nAssign 1 [0]]).map line1, 3), ((statRaw 2 1 [nName ⟨#[120]⟩, leafN, nAssign 1 [0, 1, 1]]).map line1, 4), ((statRaw 3 1 [nName ⟨#[102]⟩, nOf 29 [0], leafN, nAssign 1 [1, 2]]).map line1, 5), ((statRaw 5 1 [leafN, leafN, leafN, leafN, nBlock, nLoop [0, 1, 2, 3, 4]]).map line1, 7), ((statRaw 2 1 [leafN, nBlock, nLoop [0, 1]]).map line1, 4), ((statRaw 1 1 [nBlock, nOf 8 [0]]).map line1, 3), ((statRaw 2 1 [leafN, nOf 29 [0], nOf 4 [1]]).map line1, 4), ((statRaw 1 1 [nName ⟨#[102]⟩, nOf 4 [0]]).map line1, 3), ((statRaw 0 2 [nOf 12 [], nOf 13 []]).map line1, 3), ((statRaw 2 1 [leafN, (⟨34, 17, ⟨#[]⟩, [], [0], 0⟩ : Nd), nOf 12 [1]]).map line1, 4)] ∧ vN = .int .i64 12 ∧ vZ = .int .i64 0 ∧ wx.heap[B]? = some (.cells blockC 30 (0, 0)) ∧ Below w.heap.size w wx)
        case first =>
          refine region_facts_old (fun i => ([fIs (.func (.func 20) #[] #[]), fNode (nName ⟨#[49, 120]⟩), fNode leafN, fIs (.func (.func 22) #[] #[]), fInts [0, 1], fNode (nAssign 1 [0, 1]), fNodes [nName ⟨#[49, 120]⟩, leafN, nAssign 1 [0, 1]], fSyn ((statRaw 2 1 [nName ⟨#[49, 120]⟩, leafN, nAssign 1 [0, 1]]).map line1) 4, fIs (.func (.func 20) #[] #[]), fNode (nName ⟨#[101, 110, 100]⟩), fNode leafN, fIs (.func (.func 22) #[] #[]), fInts [0, 1], fNode (nAssign 1 [0, 1]), fNodes [nName ⟨#[101, 110, 100]⟩, leafN, nAssign 1 [0, 1]], fSyn ((statRaw 2 1 [nName ⟨#[101, 110, 100]⟩, leafN, nAssign 1 [0, 1]]).map line1) 4, fIs (.func (.func 20) #[] #[]), fNode (nName ⟨#[120]⟩), fIs (.func (.func 22) #[] #[]), fInts [0], fNode (nAssign 1 [0]), fNodes [nName ⟨#[120]⟩, nAssign 1 [0]], fSyn ((statRaw 1 1 [nName ⟨#[120]⟩, nAssign 1 [0]]).map line1) 3, fIs (.func (.func 20) #[] #[]), fNode (nName ⟨#[120]⟩), fNode leafN, fIs (.func (.func 22) #[] #[]), fInts [0, 1, 1], fNode (nAssign 1 [0, 1, 1]), fNodes [nName ⟨#[120]⟩, leafN, nAssign 1 [0, 1, 1]], fSyn ((statRaw 2 1 [nName ⟨#[120]⟩, leafN, nAssign 1 [0, 1, 1]]).map line1) 4, fIs (.func (.func 20) #[] #[]), fNode (nName ⟨#[102]⟩), fIs (.func (.func 21) #[] #[]), fInts [0], fNode (nOf 29 [0]), fNode leafN, fIs (.func (.func 22) #[] #[]), fInts [1, 2], fNode (nAssign 1 [1, 2]), fNodes [nName ⟨#[102]⟩, nOf 29 [0], leafN, nAssign 1 [1, 2]], fSyn ((statRaw 3 1 [nName ⟨#[102]⟩, nOf 29 [0], leafN, nAssign 1 [1, 2]]).map line1) 5, fNode leafN, fNode leafN, fNode leafN, fNode leafN, fNode nBlock, fIs (.func (.func 23) #[] #[]), fInts [0, 1, 2, 3, 4], fNode (nLoop [0, 1, 2, 3, 4]), fNodes [leafN, leafN, leafN, leafN, nBlock, nLoop [0, 1, 2, 3, 4]], fSyn ((statRaw 5 1 [leafN, leafN, leafN, leafN, nBlock, nLoop [0, 1, 2, 3, 4]]).map line1) 7, fNode leafN, fNode nBlock, fIs (.func (.func 23) #[] #[]), fInts [0, 1], fNode (nLoop [0, 1]), fNodes [leafN, nBlock, nLoop [0, 1]], fSyn ((statRaw 2 1 [leafN, nBlock, nLoop [0, 1]]).map line1) 4, fNode nBlock, fIs (.func (.func 21) #[] #[]), fInts [0], fNode (nOf 8 [0]), fNodes [nBlock, nOf 8 [0]], fSyn ((statRaw 1 1 [nBlock, nOf 8 [0]]).map line1) 3, fNode leafN, fIs (.func (.func 21) #[] #[]), fInts [0], fNode (nOf 29 [0]), fIs (.func (.func 21) #[] #[]), fInts [1], fNode (nOf 4 [1]), fNodes [leafN, nOf 29 [0], nOf 4 [1]], fSyn ((statRaw 2 1 [leafN, nOf 29 [0], nOf 4 [1]]).map line1) 4, fIs (.func (.func 20) #[] #[]), fNode (nName ⟨#[102]⟩), fIs (.func (.func 21) #[] #[]), fInts [0], fNode (nOf 4 [0]), fNodes [nName ⟨#[102]⟩, nOf 4 [0]], fSyn ((statRaw 1 1 [nName ⟨#[102]⟩, nOf 4 [0]]).map line1) 3, fIs (.func (.func 21) #[] #[]), fNode (nOf 12 []), fIs (.func (.func 21) #[] #[]), fNode (nOf 13 []), fNodes [nOf 12 [], nOf 13 []], fSyn ((statRaw 0 2 [nOf 12 [], nOf 13 []]).map line1) 3, fNode leafN, fInts [0], fNode (⟨34, 17, ⟨#[]⟩, [], [0], 0⟩ : Nd), fIs (.func (.func 21) #[] #[]), fInts [1], fNode (nOf 12 [1]), fNodes [leafN, (⟨34, 17, ⟨#[]⟩, [], [0], 0⟩ : Nd), nOf 12 [1]], fSyn ((statRaw 2 1 [leafN, (⟨34, 17, ⟨#[]⟩, [], [0], 0⟩ : Nd), nOf 12 [1]]).map line1) 4, fSyns [((statRaw 2 1 [nName ⟨#[49, 120]⟩, leafN, nAssign 1 [0, 1]]).map line1, 4), ((statRaw 2 1 [nName ⟨#[101, 110, 100]⟩, leafN, nAssign 1 [0, 1]]).map line1, 4), ((statRaw 1 1 [nName ⟨#[120]⟩, nAssign 1 [0]]).map line1, 3), ((statRaw 2 1 [nName ⟨#[120]⟩, leafN, nAssign 1 [0, 1, 1]]).map line1, 4), ((statRaw 3 1 [nName ⟨#[102]⟩, nOf 29 [0], leafN, nAssign 1 [1, 2]]).map line1, 5), ((statRaw 5 1 [leafN, leafN, leafN, leafN, nBlock, nLoop [0, 1, 2, 3, 4]]).map line1, 7), ((statRaw 2 1 [leafN, nBlock, nLoop [0, 1]]).map line1, 4), ((statRaw 1 1 [nBlock, nOf 8 [0]]).map line1, 3), ((statRaw 2 1 [leafN, nOf 29 [0], nOf 4 [1]]).map line1, 4), ((statRaw 1 1 [nName ⟨#[102]⟩, nOf 4 [0]]).map line1, 3), ((statRaw 0 2 [nOf 12 [], nOf 13 []]).map line1, 3), ((statRaw 2 1 [leafN, (⟨34, 17, ⟨#[]⟩, [], [0], 0⟩ : Nd), nOf 12 [1]]).map line1, 4)], fIs (.int .i64 12), fIs (.int .i64 0)] : List Fact).getD i (fIs undef)) (fun w' => w'.heap[B]? = some (.cells blockC 30 (0, 0)) ∧ Below w.heap.size w w')
            (fun a => a.tmps.getD 1 undef = .func (.func 20) #[] #[] ∧ a.tmps.getD 2 undef = .pointer (some ⟨B, 0, none⟩) ∧ a.tmps.getD 3 undef = .func (.func 21) #[] #[] ∧ a.tmps.getD 4 undef = .func (.func 22) #[] #[] ∧ a.tmps.getD 5 undef = .func (.func 23) #[] #[])
            hmx (by kernel_rfl) (by kernel_rfl) (by kernel_rfl) (fun w1 w2 h1 h2 => ⟨(h2.block _ (lt_of_heap h1.1)).trans h1.1, h1.2.trans (h2.mono h1.2.size)⟩) ⟨HG2.out.1, HG2.out.2.drew⟩
            (fun a ha => ⟨ha 1 (notDst (by kernel_rfl)), ha 2 (notDst (by kernel_rfl)), ha 3 (notDst (by kernel_rfl)), ha 4 (notDst (by kernel_rfl)), ha 5 (notDst (by kernel_rfl))⟩) ?steps ?done
          case done =>
            intro a w9 hf hdef hsz hold hG9 hb9
            obtain ⟨t, ds⟩ := a
            dsimp only at hf hdef hsz hold
            subst hdef
            have hsz2 : t.size = 201 := hsz
            have fL : SynsV w9 (t.getD 167 undef) [((statRaw 2 1 [nName ⟨#[49, 120]⟩, leafN, nAssign 1 [0, 1]]).map line1, 4), ((statRaw 2 1 [nName ⟨#[101, 110, 100]⟩, leafN, nAssign 1 [0, 1]]).map line1, 4), ((statRaw 1 1 [nName ⟨#[120]⟩, nAssign 1 [0]]).map line1, 3), ((statRaw 2 1 [nName ⟨#[120]⟩, leafN, nAssign 1 [0, 1, 1]]).map line1, 4), ((statRaw 3 1 [nName ⟨#[102]⟩, nOf 29 [0], leafN, nAssign 1 [1, 2]]).map line1, 5), ((statRaw 5 1 [leafN, leafN, leafN, leafN, nBlock, nLoop [0, 1, 2, 3, 4]]).map line1, 7), ((statRaw 2 1 [leafN, nBlock, nLoop [0, 1]]).map line1, 4), ((statRaw 1 1 [nBlock, nOf 8 [0]]).map line1, 3), ((statRaw 2 1 [leafN, nOf 29 [0], nOf 4 [1]]).map line1, 4), ((statRaw 1 1 [nName ⟨#[102]⟩, nOf 4 [0]]).map line1, 3), ((statRaw 0 2 [nOf 12 [], nOf 13 []]).map line1, 3), ((statRaw 2 1 [leafN, (⟨34, 17, ⟨#[]⟩, [], [0], 0⟩ : Nd), nOf 12 [1]]).map line1, 4)] := hf 95 _ 167 rfl rfl
            have fN : t.getD 168 undef = .int .i64 12 := hf 96 _ 168 rfl rfl
            have fZ : t.getD 169 undef = .int .i64 0 := hf 97 _ 169 rfl rfl
            have q0 := hold 0 (notDstL (by kernel_rfl))
            conv at q0 => rhs; simp only [Array.getD_eq_getD_getElem?, List.getElem?_toArray, List.getElem?_cons_succ, List.getElem?_cons_zero, Option.getD_some]
            have q1 := hold 1 (notDstL (by kernel_rfl))
            conv at q1 => rhs; simp only [Array.getD_eq_getD_getElem?, List.getElem?_toArray, List.getElem?_cons_succ, List.getElem?_cons_zero, Option.getD_some]
            have q2 := hold 2 (notDstL (by kernel_rfl))
            conv at q2 => rhs; simp only [Array.getD_eq_getD_getElem?, List.getElem?_toArray, List.getElem?_cons_succ, List.getElem?_cons_zero, Option.getD_some]
            have q3 := hold 3 (notDstL (by kernel_rfl))
            conv at q3 => rhs; simp only [Array.getD_eq_getD_getElem?, List.getElem?_toArray, List.getElem?_cons_succ, List.getElem?_cons_zero, Option.getD_some]
            have q4 := hold 4 (notDstL (by kernel_rfl))
            conv at q4 => rhs; simp only [Array.getD_eq_getD_getElem?, List.getElem?_toArray, List.getElem?_cons_succ, List.getElem?_cons_zero, Option.getD_some]
            have q5 := hold 5 (notDstL (by kernel_rfl))
            conv at q5 => rhs; simp only [Array.getD_eq_getD_getElem?, List.getElem?_toArray, List.getElem?_cons_succ, List.getElem?_cons_zero, Option.getD_some]
            have q6 := hold 6 (notDstL (by kernel_rfl))
            conv at q6 => rhs; simp only [Array.getD_eq_getD_getElem?, List.getElem?_toArray, List.getElem?_cons_succ, List.getElem?_cons_zero, Option.getD_some]
            have q7 := hold 7 (notDstL (by kernel_rfl))
            conv at q7 => rhs; simp only [Array.getD_eq_getD_getElem?, List.getElem?_toArray, List.getElem?_cons_succ, List.getElem?_cons_zero, Option.getD_some]
            have q8 := hold 8 (notDstL (by kernel_rfl))
            conv at q8 => rhs; simp only [Array.getD_eq_getD_getElem?, List.getElem?_toArray, List.getElem?_cons_succ, List.getElem?_cons_zero, Option.getD_some]
            have q9 := hold 9 (notDstL (by kernel_rfl))
            conv at q9 => rhs; simp only [Array.getD_eq_getD_getElem?, List.getElem?_toArray, List.getElem?_cons_succ, List.getElem?_cons_zero, Option.getD_some]
            have q10 := hold 10 (notDstL (by kernel_rfl))
            conv at q10 => rhs; simp only [Array.getD_eq_getD_getElem?, List.getElem?_toArray, List.getElem?_cons_succ, List.getElem?_cons_zero, Option.getD_some]
            have q11 := hold 11 (notDstL (by kernel_rfl))
            conv at q11 => rhs; simp only [Array.getD_eq_getD_getElem?, List.getElem?_toArray, List.getElem?_cons_succ, List.getElem?_cons_zero, Option.getD_some]
            have q12 := hold 12 (notDstL (by kernel_rfl))
            conv at q12 => rhs; simp only [Array.getD_eq_getD_getElem?, List.getElem?_toArray, List.getElem?_cons_succ, List.getElem?_cons_zero, Option.getD_some]
            have q13 := hold 13 (notDstL (by kernel_rfl))
            conv at q13 => rhs; simp only [Array.getD_eq_getD_getElem?, List.getElem?_toArray, List.getElem?_cons_succ, List.getElem?_cons_zero, Option.getD_some]
            have q14 := hold 14 (notDstL (by kernel_rfl))
            conv at q14 => rhs; simp only [Array.getD_eq_getD_getElem?, List.getElem?_toArray, List.getElem?_cons_succ, List.getElem?_cons_zero, Option.getD_some]
            have q15 := hold 15 (notDstL (by kernel_rfl))
            conv at q15 => rhs; simp only [Array.getD_eq_getD_getElem?, List.getElem?_toArray, List.getElem?_cons_succ, List.getElem?_cons_zero, Option.getD_some]
            have q16 := hold 16 (notDstL (by kernel_rfl))
            conv at q16 => rhs; simp only [Array.getD_eq_getD_getElem?, List.getElem?_toArray, List.getElem?_cons_succ, List.getElem?_cons_zero, Option.getD_some]
            have q17 := hold 17 (notDstL (by kernel_rfl))
            conv at q17 => rhs; simp only [Array.getD_eq_getD_getElem?, List.getElem?_toArray, List.getElem?_cons_succ, List.getElem?_cons_zero, Option.getD_some]
            have q18 := hold 18 (notDstL (by kernel_rfl))
            conv at q18 => rhs; simp only [Array.getD_eq_getD_getElem?, List.getElem?_toArray, List.getElem?_cons_succ, List.getElem?_cons_zero, Option.getD_some]
            have q19 := hold 19 (notDstL (by kernel_rfl))
            conv at q19 => rhs; simp only [Array.getD_eq_getD_getElem?, List.getElem?_toArray, List.getElem?_cons_succ, List.getElem?_cons_zero, Option.getD_some]
            have q20 := hold 20 (notDstL (by kernel_rfl))
            conv at q20 => rhs; simp only [Array.getD_eq_getD_getElem?, List.getElem?_toArray, List.getElem?_cons_succ, List.getElem?_cons_zero, Option.getD_some]
            have q21 := hold 21 (notDstL (by kernel_rfl))
            conv at q21 => rhs; simp only [Array.getD_eq_getD_getElem?, List.getElem?_toArray, List.getElem?_cons_succ, List.getElem?_cons_zero, Option.getD_some]
            have q22 := hold 22 (notDstL (by kernel_rfl))
            conv at q22 => rhs; simp only [Array.getD_eq_getD_getElem?, List.getElem?_toArray, List.getElem?_cons_succ, List.getElem?_cons_zero, Option.getD_some]
            have q23 := hold 23 (notDstL (by kernel_rfl))
            conv at q23 => rhs; simp only [Array.getD_eq_getD_getElem?, List.getElem?_toArray, List.getElem?_cons_succ, List.getElem?_cons_zero, Option.getD_some]
            have q24 := hold 24 (notDstL (by kernel_rfl))
            conv at q24 => rhs; simp only [Array.getD_eq_getD_getElem?, List.getElem?_toArray, List.getElem?_cons_succ, List.getElem?_cons_zero, Option.getD_some]
            have q25 := hold 25 (notDstL (by kernel_rfl))
            conv at q25 => rhs; simp only [Array.getD_eq_getD_getElem?, List.getElem?_toArray, List.getElem?_cons_succ, List.getElem?_cons_zero, Option.getD_some]
            have q26 := hold 26 (notDstL (by kernel_rfl))
            conv at q26 => rhs; simp only [Array.getD_eq_getD_getElem?, List.getElem?_toArray, List.getElem?_cons_succ, List.getElem?_cons_zero, Option.getD_some]
            have q27 := hold 27 (notDstL (by kernel_rfl))
            conv at q27 => rhs; simp only [Array.getD_eq_getD_getElem?, List.getElem?_toArray, List.getElem?_cons_succ, List.getElem?_cons_zero, Option.getD_some]
            have q28 := hold 28 (notDstL (by kernel_rfl))
            conv at q28 => rhs; simp only [Array.getD_eq_getD_getElem?, List.getElem?_toArray, List.getElem?_cons_succ, List.getElem?_cons_zero, Option.getD_some]
            have q29 := hold 29 (notDstL (by kernel_rfl))
            conv at q29 => rhs; simp only [Array.getD_eq_getD_getElem?, List.getElem?_toArray, List.getElem?_cons_succ, List.getElem?_cons_zero, Option.getD_some]
            have q30 := hold 30 (notDstL (by kernel_rfl))
            conv at q30 => rhs; simp only [Array.getD_eq_getD_getElem?, List.getElem?_toArray, List.getElem?_cons_succ, List.getElem?_cons_zero, Option.getD_some]
            have q31 := hold 31 (notDstL (by kernel_rfl))
            conv at q31 => rhs; simp only [Array.getD_eq_getD_getElem?, List.getElem?_toArray, List.getElem?_cons_succ, List.getElem?_cons_zero, Option.getD_some]
            have q32 := hold 32 (notDstL (by kernel_rfl))
            conv at q32 => rhs; simp only [Array.getD_eq_getD_getElem?, List.getElem?_toArray, List.getElem?_cons_succ, List.getElem?_cons_zero, Option.getD_some]
            have q33 := hold 33 (notDstL (by kernel_rfl))
            conv at q33 => rhs; simp only [Array.getD_eq_getD_getElem?, List.getElem?_toArray, List.getElem?_cons_succ, List.getElem?_cons_zero, Option.getD_some]
            have q34 := hold 34 (notDstL (by kernel_rfl))
            conv at q34 => rhs; simp only [Array.getD_eq_getD_getElem?, List.getElem?_toArray, List.getElem?_cons_succ, List.getElem?_cons_zero, Option.getD_some]
            have q35 := hold 35 (notDstL (by kernel_rfl))
            conv at q35 => rhs; simp only [Array.getD_eq_getD_getElem?, List.getElem?_toArray, List.getElem?_cons_succ, List.getElem?_cons_zero, Option.getD_some]
            have q36 := hold 36 (notDstL (by kernel_rfl))
            conv at q36 => rhs; simp only [Array.getD_eq_getD_getElem?, List.getElem?_toArray, List.getElem?_cons_succ, List.getElem?_cons_zero, Option.getD_some]
            have q37 := hold 37 (notDstL (by kernel_rfl))
            conv at q37 => rhs; simp only [Array.getD_eq_getD_getElem?, List.getElem?_toArray, List.getElem?_cons_succ, List.getElem?_cons_zero, Option.getD_some]
            have q38 := hold 38 (notDstL (by kernel_rfl))
            conv at q38 => rhs; simp only [Array.getD_eq_getD_getElem?, List.getElem?_toArray, List.getElem?_cons_succ, List.getElem?_cons_zero, Option.getD_some]
            have q39 := hold 39 (notDstL (by kernel_rfl))
            conv at q39 => rhs; simp only [Array.getD_eq_getD_getElem?, List.getElem?_toArray, List.getElem?_cons_succ, List.getElem?_cons_zero, Option.getD_some]
            have q40 := hold 40 (notDstL (by kernel_rfl))
            conv at q40 => rhs; simp only [Array.getD_eq_getD_getElem?, List.getElem?_toArray, List.getElem?_cons_succ, List.getElem?_cons_zero, Option.getD_some]
            have q41 := hold 41 (notDstL (by kernel_rfl))
            conv at q41 => rhs; simp only [Array.getD_eq_getD_getElem?, List.getElem?_toArray, List.getElem?_cons_succ, List.getElem?_cons_zero, Option.getD_some]
            have q42 := hold 42 (notDstL (by kernel_rfl))
            conv at q42 => rhs; simp only [Array.getD_eq_getD_getElem?, List.getElem?_toArray, List.getElem?_cons_succ, List.getElem?_cons_zero, Option.getD_some]
            have q43 := hold 43 (notDstL (by kernel_rfl))
            conv at q43 => rhs; simp only [Array.getD_eq_getD_getElem?, List.getElem?_toArray, List.getElem?_cons_succ, List.getElem?_cons_zero, Option.getD_some]
            have q44 := hold 44 (notDstL (by kernel_rfl))
            conv at q44 => rhs; simp only [Array.getD_eq_getD_getElem?, List.getElem?_toArray, List.getElem?_cons_succ, List.getElem?_cons_zero, Option.getD_some]
            have q45 := hold 45 (notDstL (by kernel_rfl))
            conv at q45 => rhs; simp only [Array.getD_eq_getD_getElem?, List.getElem?_toArray, List.getElem?_cons_succ, List.getElem?_cons_zero, Option.getD_some]
            have q46 := hold 46 (notDstL (by kernel_rfl))
            conv at q46 => rhs; simp only [Array.getD_eq_getD_getElem?, List.getElem?_toArray, List.getElem?_cons_succ, List.getElem?_cons_zero, Option.getD_some]
            have q47 := hold 47 (notDstL (by kernel_rfl))
            conv at q47 => rhs; simp only [Array.getD_eq_getD_getElem?, List.getElem?_toArray, List.getElem?_cons_succ, List.getElem?_cons_zero, Option.getD_some]
            have q48 := hold 48 (notDstL (by kernel_rfl))
            conv at q48 => rhs; simp only [Array.getD_eq_getD_getElem?, List.getElem?_toArray, List.getElem?_cons_succ, List.getElem?_cons_zero, Option.getD_some]
            have q49 := hold 49 (notDstL (by kernel_rfl))
            conv at q49 => rhs; simp only [Array.getD_eq_getD_getElem?, List.getElem?_toArray, List.getElem?_cons_succ, List.getElem?_cons_zero, Option.getD_some]
            have q50 := hold 50 (notDstL (by kernel_rfl))
            conv at q50 => rhs; simp only [Array.getD_eq_getD_getElem?, List.getElem?_toArray, List.getElem?_cons_succ, List.getElem?_cons_zero, Option.getD_some]
            have q51 := hold 51 (notDstL (by kernel_rfl))
            conv at q51 => rhs; simp only [Array.getD_eq_getD_getElem?, List.getElem?_toArray, List.getElem?_cons_succ, List.getElem?_cons_zero, Option.getD_some]
            have q52 := hold 52 (notDstL (by kernel_rfl))
            conv at q52 => rhs; simp only [Array.getD_eq_getD_getElem?, List.getElem?_toArray, List.getElem?_cons_succ, List.getElem?_cons_zero, Option.getD_some]
            have q53 := hold 53 (notDstL (by kernel_rfl))
            conv at q53 => rhs; simp only [Array.getD_eq_getD_getElem?, List.getElem?_toArray, List.getElem?_cons_succ, List.getElem?_cons_zero, Option.getD_some]
            have q54 := hold 54 (notDstL (by kernel_rfl))
            conv at q54 => rhs; simp only [Array.getD_eq_getD_getElem?, List.getElem?_toArray, List.getElem?_cons_succ, List.getElem?_cons_zero, Option.getD_some]
            have q55 := hold 55 (notDstL (by kernel_rfl))
            conv at q55 => rhs; simp only [Array.getD_eq_getD_getElem?, List.getElem?_toArray, List.getElem?_cons_succ, List.getElem?_cons_zero, Option.getD_some]
            have q56 := hold 56 (notDstL (by kernel_rfl))
            conv at q56 => rhs; simp only [Array.getD_eq_getD_getElem?, List.getElem?_toArray, List.getElem?_cons_succ, List.getElem?_cons_zero, Option.getD_some]
            have q57 := hold 57 (notDstL (by kernel_rfl))
            conv at q57 => rhs; simp only [Array.getD_eq_getD_getElem?, List.getElem?_toArray, List.getElem?_cons_succ, List.getElem?_cons_zero, Option.getD_some]
            have q58 := hold 58 (notDstL (by kernel_rfl))
            conv at q58 => rhs; simp only [Array.getD_eq_getD_getElem?, List.getElem?_toArray, List.getElem?_cons_succ, List.getElem?_cons_zero, Option.getD_some]
            have q59 := hold 59 (notDstL (by kernel_rfl))
            conv at q59 => rhs; simp only [Array.getD_eq_getD_getElem?, List.getElem?_toArray, List.getElem?_cons_succ, List.getElem?_cons_zero, Option.getD_some]
            have q60 := hold 60 (notDstL (by kernel_rfl))
            conv at q60 => rhs; simp only [Array.getD_eq_getD_getElem?, List.getElem?_toArray, List.getElem?_cons_succ, List.getElem?_cons_zero, Option.getD_some]
            have q61 := hold 61 (notDstL (by kernel_rfl))
            conv at q61 => rhs; simp only [Array.getD_eq_getD_getElem?, List.getElem?_toArray, List.getElem?_cons_succ, List.getElem?_cons_zero, Option.getD_some]
            have q62 := hold 62 (notDstL (by kernel_rfl))
            conv at q62 => rhs; simp only [Array.getD_eq_getD_getElem?, List.getElem?_toArray, List.getElem?_cons_succ, List.getElem?_cons_zero, Option.getD_some]
            have q63 := hold 63 (notDstL (by kernel_rfl))
            conv at q63 => rhs; simp only [Array.getD_eq_getD_getElem?, List.getElem?_toArray, List.getElem?_cons_succ, List.getElem?_cons_zero, Option.getD_some]
            have q64 := hold 64 (notDstL (by kernel_rfl))
            conv at q64 => rhs; simp only [Array.getD_eq_getD_getElem?, List.getElem?_toArray, List.getElem?_cons_succ, List.getElem?_cons_zero, Option.getD_some]
            have q65 := hold 65 (notDstL (by kernel_rfl))
            conv at q65 => rhs; simp only [Array.getD_eq_getD_getElem?, List.getElem?_toArray, List.getElem?_cons_succ, List.getElem?_cons_zero, Option.getD_some]
            have q66 := hold 66 (notDstL (by kernel_rfl))
            conv at q66 => rhs; simp only [Array.getD_eq_getD_getElem?, List.getElem?_toArray, List.getElem?_cons_succ, List.getElem?_cons_zero, Option.getD_some]
            have q67 := hold 67 (notDstL (by kernel_rfl))
            conv at q67 => rhs; simp only [Array.getD_eq_getD_getElem?, List.getElem?_toArray, List.getElem?_cons_succ, List.getElem?_cons_zero, Option.getD_some]
            have q68 := hold 68 (notDstL (by kernel_rfl))
            conv at q68 => rhs; simp only [Array.getD_eq_getD_getElem?, List.getElem?_toArray, List.getElem?_cons_succ, List.getElem?_cons_zero, Option.getD_some]
            have q69 := hold 69 (notDstL (by kernel_rfl))
            conv at q69 => rhs; simp only [Array.getD_eq_getD_getElem?, List.getElem?_toArray, List.getElem?_cons_succ, List.getElem?_cons_zero, Option.getD_some]
            have q70 := hold 70 (notDstL (by kernel_rfl))
            conv at q70 => rhs; simp only [Array.getD_eq_getD_getElem?, List.getElem?_toArray, List.getElem?_cons_succ, List.getElem?_cons_zero, Option.getD_some]
            have q71 := hold 71 (notDstL (by kernel_rfl))
            conv at q71 => rhs; simp only [Array.getD_eq_getD_getElem?, List.getElem?_toArray, List.getElem?_cons_succ, List.getElem?_cons_zero, Option.getD_some]
            have q170 := hold 170 (notDstL (by kernel_rfl))
            conv at q170 => rhs; simp only [Array.getD_eq_getD_getElem?, List.getElem?_toArray, List.getElem?_cons_succ, List.getElem?_cons_zero, Option.getD_some]
            have q171 := hold 171 (notDstL (by kernel_rfl))
            conv at q171 => rhs; simp only [Array.getD_eq_getD_getElem?, List.getElem?_toArray, List.getElem?_cons_succ, List.getElem?_cons_zero, Option.getD_some]
            have q172 := hold 172 (notDstL (by kernel_rfl))
            conv at q172 => rhs; simp only [Array.getD_eq_getD_getElem?, List.getElem?_toArray, List.getElem?_cons_succ, List.getElem?_cons_zero, Option.getD_some]
            have q173 := hold 173 (notDstL (by kernel_rfl))
            conv at q173 => rhs; simp only [Array.getD_eq_getD_getElem?, List.getElem?_toArray, List.getElem?_cons_succ, List.getElem?_cons_zero, Option.getD_some]
            have q174 := hold 174 (notDstL (by kernel_rfl))
            conv at q174 => rhs; simp only [Array.getD_eq_getD_getElem?, List.getElem?_toArray, List.getElem?_cons_succ, List.getElem?_cons_zero, Option.getD_some]
            have q175 := hold 175 (notDstL (by kernel_rfl))
            conv at q175 => rhs; simp only [Array.getD_eq_getD_getElem?, List.getElem?_toArray, List.getElem?_cons_succ, List.getElem?_cons_zero, Option.getD_some]
            have q176 := hold 176 (notDstL (by kernel_rfl))
            conv at q176 => rhs; simp only [Array.getD_eq_getD_getElem?, List.getElem?_toArray, List.getElem?_cons_succ, List.getElem?_cons_zero, Option.getD_some]
            have q177 := hold 177 (notDstL (by kernel_rfl))
            conv at q177 => rhs; simp only [Array.getD_eq_getD_getElem?, List.getElem?_toArray, List.getElem?_cons_succ, List.getElem?_cons_zero, Option.getD_some]
            have q178 := hold 178 (notDstL (by kernel_rfl))
            conv at q178 => rhs; simp only [Array.getD_eq_getD_getElem?, List.getElem?_toArray, List.getElem?_cons_succ, List.getElem?_cons_zero, Option.getD_some]
            have q179 := hold 179 (notDstL (by kernel_rfl))
            conv at q179 => rhs; simp only [Array.getD_eq_getD_getElem?, List.getElem?_toArray, List.getElem?_cons_succ, List.getElem?_cons_zero, Option.getD_some]
            have q180 := hold 180 (notDstL (by kernel_rfl))
            conv at q180 => rhs; simp only [Array.getD_eq_getD_getElem?, List.getElem?_toArray, List.getElem?_cons_succ, List.getElem?_cons_zero, Option.getD_some]
            have q181 := hold 181 (notDstL (by kernel_rfl))
            conv at q181 => rhs; simp only [Array.getD_eq_getD_getElem?, List.getElem?_toArray, List.getElem?_cons_succ, List.getElem?_cons_zero, Option.getD_some]
            have q182 := hold 182 (notDstL (by kernel_rfl))
            conv at q182 => rhs; simp only [Array.getD_eq_getD_getElem?, List.getElem?_toArray, List.getElem?_cons_succ, List.getElem?_cons_zero, Option.getD_some]
            have q183 := hold 183 (notDstL (by kernel_rfl))
            conv at q183 => rhs; simp only [Array.getD_eq_getD_getElem?, List.getElem?_toArray, List.getElem?_cons_succ, List.getElem?_cons_zero, Option.getD_some]
            have q184 := hold 184 (notDstL (by kernel_rfl))
            conv at q184 => rhs; simp only [Array.getD_eq_getD_getElem?, List.getElem?_toArray, List.getElem?_cons_succ, List.getElem?_cons_zero, Option.getD_some]
            have q185 := hold 185 (notDstL (by kernel_rfl))
            conv at q185 => rhs; simp only [Array.getD_eq_getD_getElem?, List.getElem?_toArray, List.getElem?_cons_succ, List.getElem?_cons_zero, Option.getD_some]
            have q186 := hold 186 (notDstL (by kernel_rfl))
            conv at q186 => rhs; simp only [Array.getD_eq_getD_getElem?, List.getElem?_toArray, List.getElem?_cons_succ, List.getElem?_cons_zero, Option.getD_some]
            have q187 := hold 187 (notDstL (by kernel_rfl))
            conv at q187 => rhs; simp only [Array.getD_eq_getD_getElem?, List.getElem?_toArray, List.getElem?_cons_succ, List.getElem?_cons_zero, Option.getD_some]
            have q188 := hold 188 (notDstL (by kernel_rfl))
            conv at q188 => rhs; simp only [Array.getD_eq_getD_getElem?, List.getElem?_toArray, List.getElem?_cons_succ, List.getElem?_cons_zero, Option.getD_some]
            have q189 := hold 189 (notDstL (by kernel_rfl))
            conv at q189 => rhs; simp only [Array.getD_eq_getD_getElem?, List.getElem?_toArray, List.getElem?_cons_succ, List.getElem?_cons_zero, Option.getD_some]
            have q190 := hold 190 (notDstL (by kernel_rfl))
            conv at q190 => rhs; simp only [Array.getD_eq_getD_getElem?, List.getElem?_toArray, List.getElem?_cons_succ, List.getElem?_cons_zero, Option.getD_some]
            have q191 := hold 191 (notDstL (by kernel_rfl))
            conv at q191 => rhs; simp only [Array.getD_eq_getD_getElem?, List.getElem?_toArray, List.getElem?_cons_succ, List.getElem?_cons_zero, Option.getD_some]
            have q192 := hold 192 (notDstL (by kernel_rfl))
            conv at q192 => rhs; simp only [Array.getD_eq_getD_getElem?, List.getElem?_toArray, List.getElem?_cons_succ, List.getElem?_cons_zero, Option.getD_some]
            have q193 := hold 193 (notDstL (by kernel_rfl))
            conv at q193 => rhs; simp only [Array.getD_eq_getD_getElem?, List.getElem?_toArray, List.getElem?_cons_succ, List.getElem?_cons_zero, Option.getD_some]
            have q194 := hold 194 (notDstL (by kernel_rfl))
            conv at q194 => rhs; simp only [Array.getD_eq_getD_getElem?, List.getElem?_toArray, List.getElem?_cons_succ, List.getElem?_cons_zero, Option.getD_some]
            have q195 := hold 195 (notDstL (by kernel_rfl))
            conv at q195 => rhs; simp only [Array.getD_eq_getD_getElem?, List.getElem?_toArray, List.getElem?_cons_succ, List.getElem?_cons_zero, Option.getD_some]
            have q196 := hold 196 (notDstL (by kernel_rfl))
            conv at q196 => rhs; simp only [Array.getD_eq_getD_getElem?, List.getElem?_toArray, List.getElem?_cons_succ, List.getElem?_cons_zero, Option.getD_some]
            have q197 := hold 197 (notDstL (by kernel_rfl))
            conv at q197 => rhs; simp only [Array.getD_eq_getD_getElem?, List.getElem?_toArray, List.getElem?_cons_succ, List.getElem?_cons_zero, Option.getD_some]
            have q198 := hold 198 (notDstL (by kernel_rfl))
            conv at q198 => rhs; simp only [Array.getD_eq_getD_getElem?, List.getElem?_toArray, List.getElem?_cons_succ, List.getElem?_cons_zero, Option.getD_some]
            have q199 := hold 199 (notDstL (by kernel_rfl))
            conv at q199 => rhs; simp only [Array.getD_eq_getD_getElem?, List.getElem?_toArray, List.getElem?_cons_succ, List.getElem?_cons_zero, Option.getD_some]
            have q200 := hold 200 (notDstL (by kernel_rfl))
            conv at q200 => rhs; simp only [Array.getD_eq_getD_getElem?, List.getElem?_toArray, List.getElem?_cons_succ, List.getElem?_cons_zero, Option.getD_some]
            have e : t = #[t.getD 0 undef, t.getD 1 undef, t.getD 2 undef, t.getD 3 undef, t.getD 4 undef, t.getD 5 undef, t.getD 6 undef, t.getD 7 undef, t.getD 8 undef, t.getD 9 undef, t.getD 10 undef, t.getD 11 undef, t.getD 12 undef, t.getD 13 undef, t.getD 14 undef, t.getD 15 undef, t.getD 16 undef, t.getD 17 undef, t.getD 18 undef, t.getD 19 undef, t.getD 20 undef, t.getD 21 undef, t.getD 22 undef, t.getD 23 undef, t.getD 24 undef, t.getD 25 undef, t.getD 26 undef, t.getD 27 undef, t.getD 28 undef, t.getD 29 undef, t.getD 30 undef, t.getD 31 undef, t.getD 32 undef, t.getD 33 undef, t.getD 34 undef, t.getD 35 undef, t.getD 36 undef, t.getD 37 undef, t.getD 38 undef, t.getD 39 undef, t.getD 40 undef, t.getD 41 undef, t.getD 42 undef, t.getD 43 undef, t.getD 44 undef, t.getD 45 undef, t.getD 46 undef, t.getD 47 undef, t.getD 48 undef, t.getD 49 undef, t.getD 50 undef, t.getD 51 undef, t.getD 52 undef, t.getD 53 undef, t.getD 54 undef, t.getD 55 undef, t.getD 56 undef, t.getD 57 undef, t.getD 58 undef, t.getD 59 undef, t.getD 60 undef, t.getD 61 undef, t.getD 62 undef, t.getD 63 undef, t.getD 64 undef, t.getD 65 undef, t.getD 66 undef, t.getD 67 undef, t.getD 68 undef, t.getD 69 undef, t.getD 70 undef, t.getD 71 undef, t.getD 72 undef, t.getD 73 undef, t.getD 74 undef, t.getD 75 undef, t.getD 76 undef, t.getD 77 undef, t.getD 78 undef, t.getD 79 undef, t.getD 80 undef, t.getD 81 undef, t.getD 82 undef, t.getD 83 undef, t.getD 84 undef, t.getD 85 undef, t.getD 86 undef, t.getD 87 undef, t.getD 88 undef, t.getD 89 undef, t.getD 90 undef, t.getD 91 undef, t.getD 92 undef, t.getD 93 undef, t.getD 94 undef, t.getD 95 undef, t.getD 96 undef, t.getD 97 undef, t.getD 98 undef, t.getD 99 undef, t.getD 100 undef, t.getD 101 undef, t.getD 102 undef, t.getD 103 undef, t.getD 104 undef, t.getD 105 undef, t.getD 106 undef, t.getD 107 undef, t.getD 108 undef, t.getD 109 undef, t.getD 110 undef, t.getD 111 undef, t.getD 112 undef, t.getD 113 undef, t.getD 114 undef, t.getD 115 undef, t.getD 116 undef, t.getD 117 undef, t.getD 118 undef, t.getD 119 undef, t.getD 120 undef, t.getD 121 undef, t.getD 122 undef, t.getD 123 undef, t.getD 124 undef, t.getD 125 undef, t.getD 126 undef, t.getD 127 undef, t.getD 128 undef, t.getD 129 undef, t.getD 130 undef, t.getD 131 undef, t.getD 132 undef, t.getD 133 undef, t.getD 134 undef, t.getD 135 undef, t.getD 136 undef, t.getD 137 undef, t.getD 138 undef, t.getD 139 undef, t.getD 140 undef, t.getD 141 undef, t.getD 142 undef, t.getD 143 undef, t.getD 144 undef, t.getD 145 undef, t.getD 146 undef, t.getD 147 undef, t.getD 148 undef, t.getD 149 undef, t.getD 150 undef, t.getD 151 undef, t.getD 152 undef, t.getD 153 undef, t.getD 154 undef, t.getD 155 undef, t.getD 156 undef, t.getD 157 undef, t.getD 158 undef, t.getD 159 undef, t.getD 160 undef, t.getD 161 undef, t.getD 162 undef, t.getD 163 undef, t.getD 164 undef, t.getD 165 undef, t.getD 166 undef, t.getD 167 undef, t.getD 168 undef, t.getD 169 undef, t.getD 170 undef, t.getD 171 undef, t.getD 172 undef, t.getD 173 undef, t.getD 174 undef, t.getD 175 undef, t.getD 176 undef, t.getD 177 undef, t.getD 178 undef, t.getD 179 undef, t.getD 180 undef, t.getD 181 undef, t.getD 182 undef, t.getD 183 undef, t.getD 184 undef, t.getD 185 undef, t.getD 186 undef, t.getD 187 undef, t.getD 188 undef, t.getD 189 undef, t.getD 190 undef, t.getD 191 undef, t.getD 192 undef, t.getD 193 undef, t.getD 194 undef, t.getD 195 undef, t.getD 196 undef, t.getD 197 undef, t.getD 198 undef, t.getD 199 undef, t.getD 200 undef] := arr_lit t 201 hsz2
            rw [e]
            simp only [q0, q1, q2, q3, q4, q5, q6, q7, q8, q9, q10, q11, q12, q13, q14, q15, q16, q17, q18, q19, q20, q21, q22, q23, q24, q25, q26, q27, q28, q29, q30, q31, q32, q33, q34, q35, q36, q37, q38, q39, q40, q41, q42, q43, q44, q45, q46, q47, q48, q49, q50, q51, q52, q53, q54, q55, q56, q57, q58, q59, q60, q61, q62, q63, q64, q65, q66, q67, q68, q69, q70, q71, q170, q171, q172, q173, q174, q175, q176, q177, q178, q179, q180, q181, q182, q183, q184, q185, q186, q187, q188, q189, q190, q191, q192, q193, q194, q195, q196, q197, q198, q199, q200, fN, fZ]
            have HFL := Lib.hid fL
            have HG9 := Lib.hid hG9
            clear fL fN fZ hf hold e hG9 hb9 q0 q1 q2 q3 q4 q5 q6 q7 q8 q9 q10 q11 q12 q13 q14 q15 q16 q17 q18 q19 q20 q21 q22 q23 q24 q25 q26 q27 q28 q29 q30 q31 q32 q33 q34 q35 q36 q37 q38 q39 q40 q41 q42 q43 q44 q45 q46 q47 q48 q49 q50 q51 q52 q53 q54 q55 q56 q57 q58 q59 q60 q61 q62 q63 q64 q65 q66 q67 q68 q69 q70 q71 q170 q171 q172 q173 q174 q175 q176 q177 q178 q179 q180 q181 q182 q183 q184 q185 q186 q187 q188 q189 q190 q191 q192 q193 q194 q195 q196 q197 q198 q199 q200 hsz hsz2
            go_wp2_with fail
            go_meet
            exact ⟨HFL.out, rfl, rfl, HG9.out⟩
          case steps =>
            refine ⟨?_, ?_, ?_, ?_, ?_, ?_, ?_, ?_, ?_, ?_, ?_, ?_, ?_, ?_, ?_, ?_, ?_, ?_, ?_, ?_, ?_, ?_, ?_, ?_, ?_, ?_, ?_, ?_, ?_, ?_, ?_, ?_, ?_, ?_, ?_, ?_, ?_, ?_, ?_, ?_, ?_, ?_, ?_, ?_, ?_, ?_, ?_, ?_, ?_, ?_, ?_, ?_, ?_, ?_, ?_, ?_, ?_, ?_, ?_, ?_, ?_, ?_, ?_, ?_, ?_, ?_, ?_, ?_, ?_, ?_, ?_, ?_, ?_, ?_, ?_, ?_, ?_, ?_, ?_, ?_, ?_, ?_, ?_, ?_, ?_, ?_, ?_, ?_, ?_, ?_, ?_, ?_, ?_, ?_, ?_, ?_, ?_, ?_, trivial⟩
            · intro a w hd ho hg K Q hK
              obtain ⟨o1, o2, o3, o4, o5⟩ := ho
              go_simp
              exact hK _ _ rfl (Below.refl _ _)
            · intro a w hd ho hg K Q hK
              have f0 : (a.tmps.getD 72 undef) = .func (.func 20) #[] #[] := hd ⟨0, .data⟩ (by simp) rfl 72 rfl
              go_simp
              refine (name_fn ⟨#[49, 120]⟩ _).mono ?_
              rintro e w' ⟨v, rfl, hv, hb⟩
              exact hK v w' hv hb
            · intro a w hd ho hg K Q hK
              go_simp
              refine (leaf_fn _).mono ?_
              rintro e w' ⟨v, rfl, hv, hb⟩
              exact hK v w' hv hb
            · intro a w hd ho hg K Q hK
              obtain ⟨o1, o2, o3, o4, o5⟩ := ho
              go_simp
              exact hK _ _ rfl (Below.refl _ _)
            · intro a w hd ho hg K Q hK
              go_simp
              exact hK _ _ ⟨_, rfl, own_lit (Nat.zero_le _) (hit rfl) rfl (show 2 ≤ maxLen from by unfold maxLen; omega)⟩ ((Below.refl _ _).alloc (Nat.le_refl _) _)
            · intro a w hd ho hg K Q hK
              have f0 : (a.tmps.getD 75 undef) = .func (.func 22) #[] #[] := hd ⟨3, .data⟩ (by simp) rfl 75 rfl
              have f1 : ∃ g, (a.tmps.getD 76 undef) = .slice (some ⟨g, 0, none⟩) 2 2 ∧ w.ownsRow 0 3 1 (a.tmps.getD 76 undef) 2 ([0, 1].map (.int .i64)) := hd ⟨4, .data⟩ (by simp) rfl 76 rfl
              obtain ⟨g1, e1, h1⟩ := f1
              rw [e1] at h1
              go_simp
              refine (assign_fn 1 (some ⟨g1, 0, none⟩) 2 [0, 1] _ h1).mono ?_
              rintro e w' ⟨v, rfl, hv, hb⟩
              exact hK v w' hv hb
            · intro a w hd ho hg K Q hK
              have f0 : OwnV w (a.tmps.getD 73 undef) (nName ⟨#[49, 120]⟩) := hd ⟨1, .data⟩ (by simp) rfl 73 rfl
              obtain ⟨an0, cn0, ak0, ck0, e0, h0⟩ := f0
              have f1 : OwnV w (a.tmps.getD 74 undef) (leafN) := hd ⟨2, .data⟩ (by simp) rfl 74 rfl
              obtain ⟨an1, cn1, ak1, ck1, e1, h1⟩ := f1
              have f2 : OwnV w (a.tmps.getD 77 undef) (nAssign 1 [0, 1]) := hd ⟨5, .data⟩ (by simp) rfl 77 rfl
              obtain ⟨an2, cn2, ak2, ck2, e2, h2⟩ := f2
              have hal : ∀ o, Below w.heap.size w (w.alloc o) := fun o => (Below.refl _ _).alloc (Nat.le_refl _) _
              have HAL := Lib.hid hal
              have H0 := Lib.hid h0
              have H1 := Lib.hid h1
              have H2 := Lib.hid h2
              clear hal h0 h1 h2
              rw [Array.getD_eq_getD_getElem?] at e0
              rw [Array.getD_eq_getD_getElem?] at e1
              rw [Array.getD_eq_getD_getElem?] at e2
              go_simp
              refine hK _ _ ?_ (HAL.out _)
              refine ⟨w.heap.size, rfl, [((nName ⟨#[49, 120]⟩ : Nd), Value.slice an0 (nName ⟨#[49, 120]⟩).names.length cn0, Value.slice ak0 (nName ⟨#[49, 120]⟩).kids.length ck0), ((leafN : Nd), Value.slice an1 (leafN).names.length cn1, Value.slice ak1 (leafN).kids.length ck1), ((nAssign 1 [0, 1] : Nd), Value.slice an2 (nAssign 1 [0, 1]).names.length cn2, Value.slice ak2 (nAssign 1 [0, 1]).kids.length ck2)], ⟨own_lit (Nat.zero_le _) (hit rfl) rfl (show 3 ≤ maxLen from by unfold maxLen; omega), fun r hr => ?_⟩, rfl⟩
              simp only [List.mem_cons, List.not_mem_nil, or_false] at hr
              rcases hr with rfl | rfl | rfl
              · exact H0.out.below (HAL.out _)
              · exact H1.out.below (HAL.out _)
              · exact H2.out.below (HAL.out _)
            · intro a w hd ho hg K Q hK
              have f0 : ∃ g, (a.tmps.getD 78 undef) = .slice (some ⟨g, 0, none⟩) 3 3 ∧ OwnSyn w (a.tmps.getD 78 undef) [nName ⟨#[49, 120]⟩, leafN, nAssign 1 [0, 1]] := hd ⟨6, .data⟩ (by simp) rfl 78 rfl
              obtain ⟨g0, e0, h0⟩ := f0
              rw [e0] at h0
              go_simp
              refine (stats_is 1 g0 3 2 [nName ⟨#[49, 120]⟩, leafN, nAssign 1 [0, 1]] 4 _ h0 rfl rfl (by decide) (by decide) rfl).mono ?_
              rintro e w' ⟨v, rfl, hv, hb⟩
              exact hK v w' hv hb
            · intro a w hd ho hg K Q hK
              obtain ⟨o1, o2, o3, o4, o5⟩ := ho
              go_simp
              exact hK _ _ rfl (Below.refl _ _)
            · intro a w hd ho hg K Q hK
              have f0 : (a.tmps.getD 80 undef) = .func (.func 20) #[] #[] := hd ⟨8, .data⟩ (by simp) rfl 80 rfl
              go_simp
              refine (name_fn ⟨#[101, 110, 100]⟩ _).mono ?_
              rintro e w' ⟨v, rfl, hv, hb⟩
              exact hK v w' hv hb
            · intro a w hd ho hg K Q hK
              go_simp
              refine (leaf_fn _).mono ?_
              rintro e w' ⟨v, rfl, hv, hb⟩
              exact hK v w' hv hb
            · intro a w hd ho hg K Q hK
              obtain ⟨o1, o2, o3, o4, o5⟩ := ho
              go_simp
              exact hK _ _ rfl (Below.refl _ _)
            · intro a w hd ho hg K Q hK
              go_simp
              exact hK _ _ ⟨_, rfl, own_lit (Nat.zero_le _) (hit rfl) rfl (show 2 ≤ maxLen from by unfold maxLen; omega)⟩ ((Below.refl _ _).alloc (Nat.le_refl _) _)
            · intro a w hd ho hg K Q hK
              have f0 : (a.tmps.getD 83 undef) = .func (.func 22) #[] #[] := hd ⟨11, .data⟩ (by simp) rfl 83 rfl
              have f1 : ∃ g, (a.tmps.getD 84 undef) = .slice (some ⟨g, 0, none⟩) 2 2 ∧ w.ownsRow 0 3 1 (a.tmps.getD 84 undef) 2 ([0, 1].map (.int .i64)) := hd ⟨12, .data⟩ (by simp) rfl 84 rfl
              obtain ⟨g1, e1, h1⟩ := f1
              rw [e1] at h1
              go_simp
              refine (assign_fn 1 (some ⟨g1, 0, none⟩) 2 [0, 1] _ h1).mono ?_
              rintro e w' ⟨v, rfl, hv, hb⟩
              exact hK v w' hv hb
            · intro a w hd ho hg K Q hK
              have f0 : OwnV w (a.tmps.getD 81 undef) (nName ⟨#[101, 110, 100]⟩) := hd ⟨9, .data⟩ (by simp) rfl 81 rfl
              obtain ⟨an0, cn0, ak0, ck0, e0, h0⟩ := f0
              have f1 : OwnV w (a.tmps.getD 82 undef) (leafN) := hd ⟨10, .data⟩ (by simp) rfl 82 rfl
              obtain ⟨an1, cn1, ak1, ck1, e1, h1⟩ := f1
              have f2 : OwnV w (a.tmps.getD 85 undef) (nAssign 1 [0, 1]) := hd ⟨13, .data⟩ (by simp) rfl 85 rfl
              obtain ⟨an2, cn2, ak2, ck2, e2, h2⟩ := f2
              have hal : ∀ o, Below w.heap.size w (w.alloc o) := fun o => (Below.refl _ _).alloc (Nat.le_refl _) _
              have HAL := Lib.hid hal
              have H0 := Lib.hid h0
              have H1 := Lib.hid h1
              have H2 := Lib.hid h2
              clear hal h0 h1 h2
              rw [Array.getD_eq_getD_getElem?] at e0
              rw [Array.getD_eq_getD_getElem?] at e1
              rw [Array.getD_eq_getD_getElem?] at e2
              go_simp
              refine hK _ _ ?_ (HAL.out _)
              refine ⟨w.heap.size, rfl, [((nName ⟨#[101, 110, 100]⟩ : Nd), Value.slice an0 (nName ⟨#[101, 110, 100]⟩).names.length cn0, Value.slice ak0 (nName ⟨#[101, 110, 100]⟩).kids.length ck0), ((leafN : Nd), Value.slice an1 (leafN).names.length cn1, Value.slice ak1 (leafN).kids.length ck1), ((nAssign 1 [0, 1] : Nd), Value.slice an2 (nAssign 1 [0, 1]).names.length cn2, Value.slice ak2 (nAssign 1 [0, 1]).kids.length ck2)], ⟨own_lit (Nat.zero_le _) (hit rfl) rfl (show 3 ≤ maxLen from by unfold maxLen; omega), fun r hr => ?_⟩, rfl⟩
              simp only [List.mem_cons, List.not_mem_nil, or_false] at hr
              rcases hr with rfl | rfl | rfl
              · exact H0.out.below (HAL.out _)
              · exact H1.out.below (HAL.out _)
              · exact H2.out.below (HAL.out _)
            · intro a w hd ho hg K Q hK
              have f0 : ∃ g, (a.tmps.getD 86 undef) = .slice (some ⟨g, 0, none⟩) 3 3 ∧ OwnSyn w (a.tmps.getD 86 undef) [nName ⟨#[101, 110, 100]⟩, leafN, nAssign 1 [0, 1]] := hd ⟨14, .data⟩ (by simp) rfl 86 rfl
              obtain ⟨g0, e0, h0⟩ := f0
              rw [e0] at h0
              go_simp
              refine (stats_is 1 g0 3 2 [nName ⟨#[101, 110, 100]⟩, leafN, nAssign 1 [0, 1]] 4 _ h0 rfl rfl (by decide) (by decide) rfl).mono ?_
              rintro e w' ⟨v, rfl, hv, hb⟩
              exact hK v w' hv hb
            · intro a w hd ho hg K Q hK
              obtain ⟨o1, o2, o3, o4, o5⟩ := ho
              go_simp
              exact hK _ _ rfl (Below.refl _ _)
            · intro a w hd ho hg K Q hK
              have f0 : (a.tmps.getD 88 undef) = .func (.func 20) #[] #[] := hd ⟨16, .data⟩ (by simp) rfl 88 rfl
              go_simp
              refine (name_fn ⟨#[120]⟩ _).mono ?_
              rintro e w' ⟨v, rfl, hv, hb⟩
              exact hK v w' hv hb
            · intro a w hd ho hg K Q hK
              obtain ⟨o1, o2, o3, o4, o5⟩ := ho
              go_simp
              exact hK _ _ rfl (Below.refl _ _)
            · intro a w hd ho hg K Q hK
              go_simp
              exact hK _ _ ⟨_, rfl, own_lit (Nat.zero_le _) (hit rfl) rfl (show 1 ≤ maxLen from by unfold maxLen; omega)⟩ ((Below.refl _ _).alloc (Nat.le_refl _) _)
            · intro a w hd ho hg K Q hK
              have f0 : (a.tmps.getD 90 undef) = .func (.func 22) #[] #[] := hd ⟨18, .data⟩ (by simp) rfl 90 rfl
              have f1 : ∃ g, (a.tmps.getD 91 undef) = .slice (some ⟨g, 0, none⟩) 1 1 ∧ w.ownsRow 0 3 1 (a.tmps.getD 91 undef) 1 ([0].map (.int .i64)) := hd ⟨19, .data⟩ (by simp) rfl 91 rfl
              obtain ⟨g1, e1, h1⟩ := f1
              rw [e1] at h1
              go_simp
              refine (assign_fn 1 (some ⟨g1, 0, none⟩) 1 [0] _ h1).mono ?_
              rintro e w' ⟨v, rfl, hv, hb⟩
              exact hK v w' hv hb
            · intro a w hd ho hg K Q hK
              have f0 : OwnV w (a.tmps.getD 89 undef) (nName ⟨#[120]⟩) := hd ⟨17, .data⟩ (by simp) rfl 89 rfl
              obtain ⟨an0, cn0, ak0, ck0, e0, h0⟩ := f0
              have f1 : OwnV w (a.tmps.getD 92 undef) (nAssign 1 [0]) := hd ⟨20, .data⟩ (by simp) rfl 92 rfl
              obtain ⟨an1, cn1, ak1, ck1, e1, h1⟩ := f1
              have hal : ∀ o, Below w.heap.size w (w.alloc o) := fun o => (Below.refl _ _).alloc (Nat.le_refl _) _
              have HAL := Lib.hid hal
              have H0 := Lib.hid h0
              have H1 := Lib.hid h1
              clear hal h0 h1
              rw [Array.getD_eq_getD_getElem?] at e0
              rw [Array.getD_eq_getD_getElem?] at e1
              go_simp
              refine hK _ _ ?_ (HAL.out _)
              refine ⟨w.heap.size, rfl, [((nName ⟨#[120]⟩ : Nd), Value.slice an0 (nName ⟨#[120]⟩).names.length cn0, Value.slice ak0 (nName ⟨#[120]⟩).kids.length ck0), ((nAssign 1 [0] : Nd), Value.slice an1 (nAssign 1 [0]).names.length cn1, Value.slice ak1 (nAssign 1 [0]).kids.length ck1)], ⟨own_lit (Nat.zero_le _) (hit rfl) rfl (show 2 ≤ maxLen from by unfold maxLen; omega), fun r hr => ?_⟩, rfl⟩
              simp only [List.mem_cons, List.not_mem_nil, or_false] at hr
              rcases hr with rfl | rfl
              · exact H0.out.below (HAL.out _)
              · exact H1.out.below (HAL.out _)
            · intro a w hd ho hg K Q hK
              have f0 : ∃ g, (a.tmps.getD 93 undef) = .slice (some ⟨g, 0, none⟩) 2 2 ∧ OwnSyn w (a.tmps.getD 93 undef) [nName ⟨#[120]⟩, nAssign 1 [0]] := hd ⟨21, .data⟩ (by simp) rfl 93 rfl
              obtain ⟨g0, e0, h0⟩ := f0
              rw [e0] at h0
              go_simp
              refine (stats_is 1 g0 2 1 [nName ⟨#[120]⟩, nAssign 1 [0]] 3 _ h0 rfl rfl (by decide) (by decide) rfl).mono ?_
              rintro e w' ⟨v, rfl, hv, hb⟩
              exact hK v w' hv hb
            · intro a w hd ho hg K Q hK
              obtain ⟨o1, o2, o3, o4, o5⟩ := ho
              go_simp
              exact hK _ _ rfl (Below.refl _ _)
            · intro a w hd ho hg K Q hK
              have f0 : (a.tmps.getD 95 undef) = .func (.func 20) #[] #[] := hd ⟨23, .data⟩ (by simp) rfl 95 rfl
              go_simp
              refine (name_fn ⟨#[120]⟩ _).mono ?_
              rintro e w' ⟨v, rfl, hv, hb⟩
              exact hK v w' hv hb
            · intro a w hd ho hg K Q hK
              go_simp
              refine (leaf_fn _).mono ?_
              rintro e w' ⟨v, rfl, hv, hb⟩
              exact hK v w' hv hb
            · intro a w hd ho hg K Q hK
              obtain ⟨o1, o2, o3, o4, o5⟩ := ho
              go_simp
              exact hK _ _ rfl (Below.refl _ _)
            · intro a w hd ho hg K Q hK
              go_simp
              exact hK _ _ ⟨_, rfl, own_lit (Nat.zero_le _) (hit rfl) rfl (show 3 ≤ maxLen from by unfold maxLen; omega)⟩ ((Below.refl _ _).alloc (Nat.le_refl _) _)
            · intro a w hd ho hg K Q hK
              have f0 : (a.tmps.getD 98 undef) = .func (.func 22) #[] #[] := hd ⟨26, .data⟩ (by simp) rfl 98 rfl
              have f1 : ∃ g, (a.tmps.getD 99 undef) = .slice (some ⟨g, 0, none⟩) 3 3 ∧ w.ownsRow 0 3 1 (a.tmps.getD 99 undef) 3 ([0, 1, 1].map (.int .i64)) := hd ⟨27, .data⟩ (by simp) rfl 99 rfl
              obtain ⟨g1, e1, h1⟩ := f1
              rw [e1] at h1
              go_simp
              refine (assign_fn 1 (some ⟨g1, 0, none⟩) 3 [0, 1, 1] _ h1).mono ?_
              rintro e w' ⟨v, rfl, hv, hb⟩
              exact hK v w' hv hb
            · intro a w hd ho hg K Q hK
              have f0 : OwnV w (a.tmps.getD 96 undef) (nName ⟨#[120]⟩) := hd ⟨24, .data⟩ (by simp) rfl 96 rfl
              obtain ⟨an0, cn0, ak0, ck0, e0, h0⟩ := f0
              have f1 : OwnV w (a.tmps.getD 97 undef) (leafN) := hd ⟨25, .data⟩ (by simp) rfl 97 rfl
              obtain ⟨an1, cn1, ak1, ck1, e1, h1⟩ := f1
              have f2 : OwnV w (a.tmps.getD 100 undef) (nAssign 1 [0, 1, 1]) := hd ⟨28, .data⟩ (by simp) rfl 100 rfl
              obtain ⟨an2, cn2, ak2, ck2, e2, h2⟩ := f2
              have hal : ∀ o, Below w.heap.size w (w.alloc o) := fun o => (Below.refl _ _).alloc (Nat.le_refl _) _
              have HAL := Lib.hid hal
              have H0 := Lib.hid h0
              have H1 := Lib.hid h1
              have H2 := Lib.hid h2
              clear hal h0 h1 h2
              rw [Array.getD_eq_getD_getElem?] at e0
              rw [Array.getD_eq_getD_getElem?] at e1
              rw [Array.getD_eq_getD_getElem?] at e2
              go_simp
              refine hK _ _ ?_ (HAL.out _)
              refine ⟨w.heap.size, rfl, [((nName ⟨#[120]⟩ : Nd), Value.slice an0 (nName ⟨#[120]⟩).names.length cn0, Value.slice ak0 (nName ⟨#[120]⟩).kids.length ck0), ((leafN : Nd), Value.slice an1 (leafN).names.length cn1, Value.slice ak1 (leafN).kids.length ck1), ((nAssign 1 [0, 1, 1] : Nd), Value.slice an2 (nAssign 1 [0, 1, 1]).names.length cn2, Value.slice ak2 (nAssign 1 [0, 1, 1]).kids.length ck2)], ⟨own_lit (Nat.zero_le _) (hit rfl) rfl (show 3 ≤ maxLen from by unfold maxLen; omega), fun r hr => ?_⟩, rfl⟩
              simp only [List.mem_cons, List.not_mem_nil, or_false] at hr
              rcases hr with rfl | rfl | rfl
              · exact H0.out.below (HAL.out _)
              · exact H1.out.below (HAL.out _)
              · exact H2.out.below (HAL.out _)
            · intro a w hd ho hg K Q hK
              have f0 : ∃ g, (a.tmps.getD 101 undef) = .slice (some ⟨g, 0, none⟩) 3 3 ∧ OwnSyn w (a.tmps.getD 101 undef) [nName ⟨#[120]⟩, leafN, nAssign 1 [0, 1, 1]] := hd ⟨29, .data⟩ (by simp) rfl 101 rfl
              obtain ⟨g0, e0, h0⟩ := f0
              rw [e0] at h0
              go_simp
              refine (stats_is 1 g0 3 2 [nName ⟨#[120]⟩, leafN, nAssign 1 [0, 1, 1]] 4 _ h0 rfl rfl (by decide) (by decide) rfl).mono ?_
              rintro e w' ⟨v, rfl, hv, hb⟩
              exact hK v w' hv hb
            · intro a w hd ho hg K Q hK
              obtain ⟨o1, o2, o3, o4, o5⟩ := ho
              go_simp
              exact hK _ _ rfl (Below.refl _ _)
            · intro a w hd ho hg K Q hK
              have f0 : (a.tmps.getD 103 undef) = .func (.func 20) #[] #[] := hd ⟨31, .data⟩ (by simp) rfl 103 rfl
              go_simp
              refine (name_fn ⟨#[102]⟩ _).mono ?_
              rintro e w' ⟨v, rfl, hv, hb⟩
              exact hK v w' hv hb
            · intro a w hd ho hg K Q hK
              obtain ⟨o1, o2, o3, o4, o5⟩ := ho
              go_simp
              exact hK _ _ rfl (Below.refl _ _)
            · intro a w hd ho hg K Q hK
              go_simp
              exact hK _ _ ⟨_, rfl, own_lit (Nat.zero_le _) (hit rfl) rfl (show 1 ≤ maxLen from by unfold maxLen; omega)⟩ ((Below.refl _ _).alloc (Nat.le_refl _) _)
            · intro a w hd ho hg K Q hK
              have f0 : (a.tmps.getD 105 undef) = .func (.func 21) #[] #[] := hd ⟨33, .data⟩ (by simp) rfl 105 rfl
              have f1 : ∃ g, (a.tmps.getD 106 undef) = .slice (some ⟨g, 0, none⟩) 1 1 ∧ w.ownsRow 0 3 1 (a.tmps.getD 106 undef) 1 ([0].map (.int .i64)) := hd ⟨34, .data⟩ (by simp) rfl 106 rfl
              obtain ⟨g1, e1, h1⟩ := f1
              rw [e1] at h1
              go_simp
              refine (of_fn 29 (some ⟨g1, 0, none⟩) 1 [0] _ h1).mono ?_
              rintro e w' ⟨v, rfl, hv, hb⟩
              exact hK v w' hv hb
            · intro a w hd ho hg K Q hK
              go_simp
              refine (leaf_fn _).mono ?_
              rintro e w' ⟨v, rfl, hv, hb⟩
              exact hK v w' hv hb
            · intro a w hd ho hg K Q hK
              obtain ⟨o1, o2, o3, o4, o5⟩ := ho
              go_simp
              exact hK _ _ rfl (Below.refl _ _)
            · intro a w hd ho hg K Q hK
              go_simp
              exact hK _ _ ⟨_, rfl, own_lit (Nat.zero_le _) (hit rfl) rfl (show 2 ≤ maxLen from by unfold maxLen; omega)⟩ ((Below.refl _ _).alloc (Nat.le_refl _) _)
            · intro a w hd ho hg K Q hK
              have f0 : (a.tmps.getD 109 undef) = .func (.func 22) #[] #[] := hd ⟨37, .data⟩ (by simp) rfl 109 rfl
              have f1 : ∃ g, (a.tmps.getD 110 undef) = .slice (some ⟨g, 0, none⟩) 2 2 ∧ w.ownsRow 0 3 1 (a.tmps.getD 110 undef) 2 ([1, 2].map (.int .i64)) := hd ⟨38, .data⟩ (by simp) rfl 110 rfl
              obtain ⟨g1, e1, h1⟩ := f1
              rw [e1] at h1
              go_simp
              refine (assign_fn 1 (some ⟨g1, 0, none⟩) 2 [1, 2] _ h1).mono ?_
              rintro e w' ⟨v, rfl, hv, hb⟩
              exact hK v w' hv hb
            · intro a w hd ho hg K Q hK
              have f0 : OwnV w (a.tmps.getD 104 undef) (nName ⟨#[102]⟩) := hd ⟨32, .data⟩ (by simp) rfl 104 rfl
              obtain ⟨an0, cn0, ak0, ck0, e0, h0⟩ := f0
              have f1 : OwnV w (a.tmps.getD 107 undef) (nOf 29 [0]) := hd ⟨35, .data⟩ (by simp) rfl 107 rfl
              obtain ⟨an1, cn1, ak1, ck1, e1, h1⟩ := f1
              have f2 : OwnV w (a.tmps.getD 108 undef) (leafN) := hd ⟨36, .data⟩ (by simp) rfl 108 rfl
              obtain ⟨an2, cn2, ak2, ck2, e2, h2⟩ := f2
              have f3 : OwnV w (a.tmps.getD 111 undef) (nAssign 1 [1, 2]) := hd ⟨39, .data⟩ (by simp) rfl 111 rfl
              obtain ⟨an3, cn3, ak3, ck3, e3, h3⟩ := f3
              have hal : ∀ o, Below w.heap.size w (w.alloc o) := fun o => (Below.refl _ _).alloc (Nat.le_refl _) _
              have HAL := Lib.hid hal
              have H0 := Lib.hid h0
              have H1 := Lib.hid h1
              have H2 := Lib.hid h2
              have H3 := Lib.hid h3
              clear hal h0 h1 h2 h3
              rw [Array.getD_eq_getD_getElem?] at e0
              rw [Array.getD_eq_getD_getElem?] at e1
              rw [Array.getD_eq_getD_getElem?] at e2
              rw [Array.getD_eq_getD_getElem?] at e3
              go_simp
              refine hK _ _ ?_ (HAL.out _)
              refine ⟨w.heap.size, rfl, [((nName ⟨#[102]⟩ : Nd), Value.slice an0 (nName ⟨#[102]⟩).names.length cn0, Value.slice ak0 (nName ⟨#[102]⟩).kids.length ck0), ((nOf 29 [0] : Nd), Value.slice an1 (nOf 29 [0]).names.length cn1, Value.slice ak1 (nOf 29 [0]).kids.length ck1), ((leafN : Nd), Value.slice an2 (leafN).names.length cn2, Value.slice ak2 (leafN).kids.length ck2), ((nAssign 1 [1, 2] : Nd), Value.slice an3 (nAssign 1 [1, 2]).names.length cn3, Value.slice ak3 (nAssign 1 [1, 2]).kids.length ck3)], ⟨own_lit (Nat.zero_le _) (hit rfl) rfl (show 4 ≤ maxLen from by unfold maxLen; omega), fun r hr => ?_⟩, rfl⟩
              simp only [List.mem_cons, List.not_mem_nil, or_false] at hr
              rcases hr with rfl | rfl | rfl | rfl
              · exact H0.out.below (HAL.out _)
              · exact H1.out.below (HAL.out _)
              · exact H2.out.below (HAL.out _)
              · exact H3.out.below (HAL.out _)
            · intro a w hd ho hg K Q hK
              have f0 : ∃ g, (a.tmps.getD 112 undef) = .slice (some ⟨g, 0, none⟩) 4 4 ∧ OwnSyn w (a.tmps.getD 112 undef) [nName ⟨#[102]⟩, nOf 29 [0], leafN, nAssign 1 [1, 2]] := hd ⟨40, .data⟩ (by simp) rfl 112 rfl
              obtain ⟨g0, e0, h0⟩ := f0
              rw [e0] at h0
              go_simp
              refine (stats_is 1 g0 4 3 [nName ⟨#[102]⟩, nOf 29 [0], leafN, nAssign 1 [1, 2]] 5 _ h0 rfl rfl (by decide) (by decide) rfl).mono ?_
              rintro e w' ⟨v, rfl, hv, hb⟩
              exact hK v w' hv hb
            · intro a w hd ho hg K Q hK
              go_simp
              refine (leaf_fn _).mono ?_
              rintro e w' ⟨v, rfl, hv, hb⟩
              exact hK v w' hv hb
            · intro a w hd ho hg K Q hK
              go_simp
              refine (leaf_fn _).mono ?_
              rintro e w' ⟨v, rfl, hv, hb⟩
              exact hK v w' hv hb
            · intro a w hd ho hg K Q hK
              go_simp
              refine (leaf_fn _).mono ?_
              rintro e w' ⟨v, rfl, hv, hb⟩
              exact hK v w' hv hb
            · intro a w hd ho hg K Q hK
              go_simp
              refine (leaf_fn _).mono ?_
              rintro e w' ⟨v, rfl, hv, hb⟩
              exact hK v w' hv hb
            · intro a w hd ho hg K Q hK
              obtain ⟨o1, o2, o3, o4, o5⟩ := ho
              have x0 := cell_of hg.1 0 _ rfl
              have x1 := cell_of hg.1 1 _ rfl
              have x2 := cell_of hg.1 2 _ rfl
              have x3 := cell_of hg.1 3 _ rfl
              have x4 := cell_of hg.1 4 _ rfl
              have x5 := cell_of hg.1 5 _ rfl
              go_simp
              exact hK _ _ ⟨none, 0, none, 0, rfl, nilRow, nilRow⟩ (Below.refl _ _)
            · intro a w hd ho hg K Q hK
              obtain ⟨o1, o2, o3, o4, o5⟩ := ho
              go_simp
              exact hK _ _ rfl (Below.refl _ _)
            · intro a w hd ho hg K Q hK
              go_simp
              exact hK _ _ ⟨_, rfl, own_lit (Nat.zero_le _) (hit rfl) rfl (show 5 ≤ maxLen from by unfold maxLen; omega)⟩ ((Below.refl _ _).alloc (Nat.le_refl _) _)
            · intro a w hd ho hg K Q hK
              have f0 : (a.tmps.getD 119 undef) = .func (.func 23) #[] #[] := hd ⟨47, .data⟩ (by simp) rfl 119 rfl
              have f1 : ∃ g, (a.tmps.getD 120 undef) = .slice (some ⟨g, 0, none⟩) 5 5 ∧ w.ownsRow 0 3 1 (a.tmps.getD 120 undef) 5 ([0, 1, 2, 3, 4].map (.int .i64)) := hd ⟨48, .data⟩ (by simp) rfl 120 rfl
              obtain ⟨g1, e1, h1⟩ := f1
              rw [e1] at h1
              go_simp
              refine (loop_fn (some ⟨g1, 0, none⟩) 5 [0, 1, 2, 3, 4] _ h1).mono ?_
              rintro e w' ⟨v, rfl, hv, hb⟩
              exact hK v w' hv hb
            · intro a w hd ho hg K Q hK
              have f0 : OwnV w (a.tmps.getD 114 undef) (leafN) := hd ⟨42, .data⟩ (by simp) rfl 114 rfl
              obtain ⟨an0, cn0, ak0, ck0, e0, h0⟩ := f0
              have f1 : OwnV w (a.tmps.getD 115 undef) (leafN) := hd ⟨43, .data⟩ (by simp) rfl 115 rfl
              obtain ⟨an1, cn1, ak1, ck1, e1, h1⟩ := f1
              have f2 : OwnV w (a.tmps.getD 116 undef) (leafN) := hd ⟨44, .data⟩ (by simp) rfl 116 rfl
              obtain ⟨an2, cn2, ak2, ck2, e2, h2⟩ := f2
              have f3 : OwnV w (a.tmps.getD 117 undef) (leafN) := hd ⟨45, .data⟩ (by simp) rfl 117 rfl
              obtain ⟨an3, cn3, ak3, ck3, e3, h3⟩ := f3
              have f4 : OwnV w (a.tmps.getD 118 undef) (nBlock) := hd ⟨46, .data⟩ (by simp) rfl 118 rfl
              obtain ⟨an4, cn4, ak4, ck4, e4, h4⟩ := f4
              have f5 : OwnV w (a.tmps.getD 121 undef) (nLoop [0, 1, 2, 3, 4]) := hd ⟨49, .data⟩ (by simp) rfl 121 rfl
              obtain ⟨an5, cn5, ak5, ck5, e5, h5⟩ := f5
              have hal : ∀ o, Below w.heap.size w (w.alloc o) := fun o => (Below.refl _ _).alloc (Nat.le_refl _) _
              have HAL := Lib.hid hal
              have H0 := Lib.hid h0
              have H1 := Lib.hid h1
              have H2 := Lib.hid h2
              have H3 := Lib.hid h3
              have H4 := Lib.hid h4
              have H5 := Lib.hid h5
              clear hal h0 h1 h2 h3 h4 h5
              rw [Array.getD_eq_getD_getElem?] at e0
              rw [Array.getD_eq_getD_getElem?] at e1
              rw [Array.getD_eq_getD_getElem?] at e2
              rw [Array.getD_eq_getD_getElem?] at e3
              rw [Array.getD_eq_getD_getElem?] at e4
              rw [Array.getD_eq_getD_getElem?] at e5
              go_simp
              refine hK _ _ ?_ (HAL.out _)
              refine ⟨w.heap.size, rfl, [((leafN : Nd), Value.slice an0 (leafN).names.length cn0, Value.slice ak0 (leafN).kids.length ck0), ((leafN : Nd), Value.slice an1 (leafN).names.length cn1, Value.slice ak1 (leafN).kids.length ck1), ((leafN : Nd), Value.slice an2 (leafN).names.length cn2, Value.slice ak2 (leafN).kids.length ck2), ((leafN : Nd), Value.slice an3 (leafN).names.length cn3, Value.slice ak3 (leafN).kids.length ck3), ((nBlock : Nd), Value.slice an4 (nBlock).names.length cn4, Value.slice ak4 (nBlock).kids.length ck4), ((nLoop [0, 1, 2, 3, 4] : Nd), Value.slice an5 (nLoop [0, 1, 2, 3, 4]).names.length cn5, Value.slice ak5 (nLoop [0, 1, 2, 3, 4]).kids.length ck5)], ⟨own_lit (Nat.zero_le _) (hit rfl) rfl (show 6 ≤ maxLen from by unfold maxLen; omega), fun r hr => ?_⟩, rfl⟩
              simp only [List.mem_cons, List.not_mem_nil, or_false] at hr
              rcases hr with rfl | rfl | rfl | rfl | rfl | rfl
              · exact H0.out.below (HAL.out _)
              · exact H1.out.below (HAL.out _)
              · exact H2.out.below (HAL.out _)
              · exact H3.out.below (HAL.out _)
              · exact H4.out.below (HAL.out _)
              · exact H5.out.below (HAL.out _)
            · intro a w hd ho hg K Q hK
              have f0 : ∃ g, (a.tmps.getD 122 undef) = .slice (some ⟨g, 0, none⟩) 6 6 ∧ OwnSyn w (a.tmps.getD 122 undef) [leafN, leafN, leafN, leafN, nBlock, nLoop [0, 1, 2, 3, 4]] := hd ⟨50, .data⟩ (by simp) rfl 122 rfl
              obtain ⟨g0, e0, h0⟩ := f0
              rw [e0] at h0
              go_simp
              refine (stats_is 1 g0 6 5 [leafN, leafN, leafN, leafN, nBlock, nLoop [0, 1, 2, 3, 4]] 7 _ h0 rfl rfl (by decide) (by decide) rfl).mono ?_
              rintro e w' ⟨v, rfl, hv, hb⟩
              exact hK v w' hv hb
            · intro a w hd ho hg K Q hK
              go_simp
              refine (leaf_fn _).mono ?_
              rintro e w' ⟨v, rfl, hv, hb⟩
              exact hK v w' hv hb
            · intro a w hd ho hg K Q hK
              obtain ⟨o1, o2, o3, o4, o5⟩ := ho
              have x0 := cell_of hg.1 0 _ rfl
              have x1 := cell_of hg.1 1 _ rfl
              have x2 := cell_of hg.1 2 _ rfl
              have x3 := cell_of hg.1 3 _ rfl
              have x4 := cell_of hg.1 4 _ rfl
              have x5 := cell_of hg.1 5 _ rfl
              go_simp
              exact hK _ _ ⟨none, 0, none, 0, rfl, nilRow, nilRow⟩ (Below.refl _ _)
            · intro a w hd ho hg K Q hK
              obtain ⟨o1, o2, o3, o4, o5⟩ := ho
              go_simp
              exact hK _ _ rfl (Below.refl _ _)
            · intro a w hd ho hg K Q hK
              go_simp
              exact hK _ _ ⟨_, rfl, own_lit (Nat.zero_le _) (hit rfl) rfl (show 2 ≤ maxLen from by unfold maxLen; omega)⟩ ((Below.refl _ _).alloc (Nat.le_refl _) _)
            · intro a w hd ho hg K Q hK
              have f0 : (a.tmps.getD 126 undef) = .func (.func 23) #[] #[] := hd ⟨54, .data⟩ (by simp) rfl 126 rfl
              have f1 : ∃ g, (a.tmps.getD 127 undef) = .slice (some ⟨g, 0, none⟩) 2 2 ∧ w.ownsRow 0 3 1 (a.tmps.getD 127 undef) 2 ([0, 1].map (.int .i64)) := hd ⟨55, .data⟩ (by simp) rfl 127 rfl
              obtain ⟨g1, e1, h1⟩ := f1
              rw [e1] at h1
              go_simp
              refine (loop_fn (some ⟨g1, 0, none⟩) 2 [0, 1] _ h1).mono ?_
              rintro e w' ⟨v, rfl, hv, hb⟩
              exact hK v w' hv hb
            · intro a w hd ho hg K Q hK
              have f0 : OwnV w (a.tmps.getD 124 undef) (leafN) := hd ⟨52, .data⟩ (by simp) rfl 124 rfl
              obtain ⟨an0, cn0, ak0, ck0, e0, h0⟩ := f0
              have f1 : OwnV w (a.tmps.getD 125 undef) (nBlock) := hd ⟨53, .data⟩ (by simp) rfl 125 rfl
              obtain ⟨an1, cn1, ak1, ck1, e1, h1⟩ := f1
              have f2 : OwnV w (a.tmps.getD 128 undef) (nLoop [0, 1]) := hd ⟨56, .data⟩ (by simp) rfl 128 rfl
              obtain ⟨an2, cn2, ak2, ck2, e2, h2⟩ := f2
              have hal : ∀ o, Below w.heap.size w (w.alloc o) := fun o => (Below.refl _ _).alloc (Nat.le_refl _) _
              have HAL := Lib.hid hal
              have H0 := Lib.hid h0
              have H1 := Lib.hid h1
              have H2 := Lib.hid h2
              clear hal h0 h1 h2
              rw [Array.getD_eq_getD_getElem?] at e0
              rw [Array.getD_eq_getD_getElem?] at e1
              rw [Array.getD_eq_getD_getElem?] at e2
              go_simp
              refine hK _ _ ?_ (HAL.out _)
              refine ⟨w.heap.size, rfl, [((leafN : Nd), Value.slice an0 (leafN).names.length cn0, Value.slice ak0 (leafN).kids.length ck0), ((nBlock : Nd), Value.slice an1 (nBlock).names.length cn1, Value.slice ak1 (nBlock).kids.length ck1), ((nLoop [0, 1] : Nd), Value.slice an2 (nLoop [0, 1]).names.length cn2, Value.slice ak2 (nLoop [0, 1]).kids.length ck2)], ⟨own_lit (Nat.zero_le _) (hit rfl) rfl (show 3 ≤ maxLen from by unfold maxLen; omega), fun r hr => ?_⟩, rfl⟩
              simp only [List.mem_cons, List.not_mem_nil, or_false] at hr
              rcases hr with rfl | rfl | rfl
              · exact H0.out.below (HAL.out _)
              · exact H1.out.below (HAL.out _)
              · exact H2.out.below (HAL.out _)
            · intro a w hd ho hg K Q hK
              have f0 : ∃ g, (a.tmps.getD 129 undef) = .slice (some ⟨g, 0, none⟩) 3 3 ∧ OwnSyn w (a.tmps.getD 129 undef) [leafN, nBlock, nLoop [0, 1]] := hd ⟨57, .data⟩ (by simp) rfl 129 rfl
              obtain ⟨g0, e0, h0⟩ := f0
              rw [e0] at h0
              go_simp
              refine (stats_is 1 g0 3 2 [leafN, nBlock, nLoop [0, 1]] 4 _ h0 rfl rfl (by decide) (by decide) rfl).mono ?_
              rintro e w' ⟨v, rfl, hv, hb⟩
              exact hK v w' hv hb
            · intro a w hd ho hg K Q hK
              obtain ⟨o1, o2, o3, o4, o5⟩ := ho
              have x0 := cell_of hg.1 0 _ rfl
              have x1 := cell_of hg.1 1 _ rfl
              have x2 := cell_of hg.1 2 _ rfl
              have x3 := cell_of hg.1 3 _ rfl
              have x4 := cell_of hg.1 4 _ rfl
              have x5 := cell_of hg.1 5 _ rfl
              go_simp
              exact hK _ _ ⟨none, 0, none, 0, rfl, nilRow, nilRow⟩ (Below.refl _ _)
            · intro a w hd ho hg K Q hK
              obtain ⟨o1, o2, o3, o4, o5⟩ := ho
              go_simp
              exact hK _ _ rfl (Below.refl _ _)
            · intro a w hd ho hg K Q hK
              go_simp
              exact hK _ _ ⟨_, rfl, own_lit (Nat.zero_le _) (hit rfl) rfl (show 1 ≤ maxLen from by unfold maxLen; omega)⟩ ((Below.refl _ _).alloc (Nat.le_refl _) _)
            · intro a w hd ho hg K Q hK
              have f0 : (a.tmps.getD 132 undef) = .func (.func 21) #[] #[] := hd ⟨60, .data⟩ (by simp) rfl 132 rfl
              have f1 : ∃ g, (a.tmps.getD 133 undef) = .slice (some ⟨g, 0, none⟩) 1 1 ∧ w.ownsRow 0 3 1 (a.tmps.getD 133 undef) 1 ([0].map (.int .i64)) := hd ⟨61, .data⟩ (by simp) rfl 133 rfl
              obtain ⟨g1, e1, h1⟩ := f1
              rw [e1] at h1
              go_simp
              refine (of_fn 8 (some ⟨g1, 0, none⟩) 1 [0] _ h1).mono ?_
              rintro e w' ⟨v, rfl, hv, hb⟩
              exact hK v w' hv hb
            · intro a w hd ho hg K Q hK
              have f0 : OwnV w (a.tmps.getD 131 undef) (nBlock) := hd ⟨59, .data⟩ (by simp) rfl 131 rfl
              obtain ⟨an0, cn0, ak0, ck0, e0, h0⟩ := f0
              have f1 : OwnV w (a.tmps.getD 134 undef) (nOf 8 [0]) := hd ⟨62, .data⟩ (by simp) rfl 134 rfl
              obtain ⟨an1, cn1, ak1, ck1, e1, h1⟩ := f1
              have hal : ∀ o, Below w.heap.size w (w.alloc o) := fun o => (Below.refl _ _).alloc (Nat.le_refl _) _
              have HAL := Lib.hid hal
              have H0 := Lib.hid h0
              have H1 := Lib.hid h1
              clear hal h0 h1
              rw [Array.getD_eq_getD_getElem?] at e0
              rw [Array.getD_eq_getD_getElem?] at e1
              go_simp
              refine hK _ _ ?_ (HAL.out _)
              refine ⟨w.heap.size, rfl, [((nBlock : Nd), Value.slice an0 (nBlock).names.length cn0, Value.slice ak0 (nBlock).kids.length ck0), ((nOf 8 [0] : Nd), Value.slice an1 (nOf 8 [0]).names.length cn1, Value.slice ak1 (nOf 8 [0]).kids.length ck1)], ⟨own_lit (Nat.zero_le _) (hit rfl) rfl (show 2 ≤ maxLen from by unfold maxLen; omega), fun r hr => ?_⟩, rfl⟩
              simp only [List.mem_cons, List.not_mem_nil, or_false] at hr
              rcases hr with rfl | rfl
              · exact H0.out.below (HAL.out _)
              · exact H1.out.below (HAL.out _)
            · intro a w hd ho hg K Q hK
              have f0 : ∃ g, (a.tmps.getD 135 undef) = .slice (some ⟨g, 0, none⟩) 2 2 ∧ OwnSyn w (a.tmps.getD 135 undef) [nBlock, nOf 8 [0]] := hd ⟨63, .data⟩ (by simp) rfl 135 rfl
              obtain ⟨g0, e0, h0⟩ := f0
              rw [e0] at h0
              go_simp
              refine (stats_is 1 g0 2 1 [nBlock, nOf 8 [0]] 3 _ h0 rfl rfl (by decide) (by decide) rfl).mono ?_
              rintro e w' ⟨v, rfl, hv, hb⟩
              exact hK v w' hv hb
            · intro a w hd ho hg K Q hK
              go_simp
              refine (leaf_fn _).mono ?_
              rintro e w' ⟨v, rfl, hv, hb⟩
              exact hK v w' hv hb
            · intro a w hd ho hg K Q hK
              obtain ⟨o1, o2, o3, o4, o5⟩ := ho
              go_simp
              exact hK _ _ rfl (Below.refl _ _)
            · intro a w hd ho hg K Q hK
              go_simp
              exact hK _ _ ⟨_, rfl, own_lit (Nat.zero_le _) (hit rfl) rfl (show 1 ≤ maxLen from by unfold maxLen; omega)⟩ ((Below.refl _ _).alloc (Nat.le_refl _) _)
            · intro a w hd ho hg K Q hK
              have f0 : (a.tmps.getD 138 undef) = .func (.func 21) #[] #[] := hd ⟨66, .data⟩ (by simp) rfl 138 rfl
              have f1 : ∃ g, (a.tmps.getD 139 undef) = .slice (some ⟨g, 0, none⟩) 1 1 ∧ w.ownsRow 0 3 1 (a.tmps.getD 139 undef) 1 ([0].map (.int .i64)) := hd ⟨67, .data⟩ (by simp) rfl 139 rfl
              obtain ⟨g1, e1, h1⟩ := f1
              rw [e1] at h1
              go_simp
              refine (of_fn 29 (some ⟨g1, 0, none⟩) 1 [0] _ h1).mono ?_
              rintro e w' ⟨v, rfl, hv, hb⟩
              exact hK v w' hv hb
            · intro a w hd ho hg K Q hK
              obtain ⟨o1, o2, o3, o4, o5⟩ := ho
              go_simp
              exact hK _ _ rfl (Below.refl _ _)
            · intro a w hd ho hg K Q hK
              go_simp
              exact hK _ _ ⟨_, rfl, own_lit (Nat.zero_le _) (hit rfl) rfl (show 1 ≤ maxLen from by unfold maxLen; omega)⟩ ((Below.refl _ _).alloc (Nat.le_refl _) _)
            · intro a w hd ho hg K Q hK
              have f0 : (a.tmps.getD 141 undef) = .func (.func 21) #[] #[] := hd ⟨69, .data⟩ (by simp) rfl 141 rfl
              have f1 : ∃ g, (a.tmps.getD 142 undef) = .slice (some ⟨g, 0, none⟩) 1 1 ∧ w.ownsRow 0 3 1 (a.tmps.getD 142 undef) 1 ([1].map (.int .i64)) := hd ⟨70, .data⟩ (by simp) rfl 142 rfl
              obtain ⟨g1, e1, h1⟩ := f1
              rw [e1] at h1
              go_simp
              refine (of_fn 4 (some ⟨g1, 0, none⟩) 1 [1] _ h1).mono ?_
              rintro e w' ⟨v, rfl, hv, hb⟩
              exact hK v w' hv hb
            · intro a w hd ho hg K Q hK
              have f0 : OwnV w (a.tmps.getD 137 undef) (leafN) := hd ⟨65, .data⟩ (by simp) rfl 137 rfl
              obtain ⟨an0, cn0, ak0, ck0, e0, h0⟩ := f0
              have f1 : OwnV w (a.tmps.getD 140 undef) (nOf 29 [0]) := hd ⟨68, .data⟩ (by simp) rfl 140 rfl
              obtain ⟨an1, cn1, ak1, ck1, e1, h1⟩ := f1
              have f2 : OwnV w (a.tmps.getD 143 undef) (nOf 4 [1]) := hd ⟨71, .data⟩ (by simp) rfl 143 rfl
              obtain ⟨an2, cn2, ak2, ck2, e2, h2⟩ := f2
              have hal : ∀ o, Below w.heap.size w (w.alloc o) := fun o => (Below.refl _ _).alloc (Nat.le_refl _) _
              have HAL := Lib.hid hal
              have H0 := Lib.hid h0
              have H1 := Lib.hid h1
              have H2 := Lib.hid h2
              clear hal h0 h1 h2
              rw [Array.getD_eq_getD_getElem?] at e0
              rw [Array.getD_eq_getD_getElem?] at e1
              rw [Array.getD_eq_getD_getElem?] at e2
              go_simp
              refine hK _ _ ?_ (HAL.out _)
              refine ⟨w.heap.size, rfl, [((leafN : Nd), Value.slice an0 (leafN).names.length cn0, Value.slice ak0 (leafN).kids.length ck0), ((nOf 29 [0] : Nd), Value.slice an1 (nOf 29 [0]).names.length cn1, Value.slice ak1 (nOf 29 [0]).kids.length ck1), ((nOf 4 [1] : Nd), Value.slice an2 (nOf 4 [1]).names.length cn2, Value.slice ak2 (nOf 4 [1]).kids.length ck2)], ⟨own_lit (Nat.zero_le _) (hit rfl) rfl (show 3 ≤ maxLen from by unfold maxLen; omega), fun r hr => ?_⟩, rfl⟩
              simp only [List.mem_cons, List.not_mem_nil, or_false] at hr
              rcases hr with rfl | rfl | rfl
              · exact H0.out.below (HAL.out _)
              · exact H1.out.below (HAL.out _)
              · exact H2.out.below (HAL.out _)
            · intro a w hd ho hg K Q hK
              have f0 : ∃ g, (a.tmps.getD 144 undef) = .slice (some ⟨g, 0, none⟩) 3 3 ∧ OwnSyn w (a.tmps.getD 144 undef) [leafN, nOf 29 [0], nOf 4 [1]] := hd ⟨72, .data⟩ (by simp) rfl 144 rfl
              obtain ⟨g0, e0, h0⟩ := f0
              rw [e0] at h0
              go_simp
              refine (stats_is 1 g0 3 2 [leafN, nOf 29 [0], nOf 4 [1]] 4 _ h0 rfl rfl (by decide) (by decide) rfl).mono ?_
              rintro e w' ⟨v, rfl, hv, hb⟩
              exact hK v w' hv hb
            · intro a w hd ho hg K Q hK
              obtain ⟨o1, o2, o3, o4, o5⟩ := ho
              go_simp
              exact hK _ _ rfl (Below.refl _ _)
            · intro a w hd ho hg K Q hK
              have f0 : (a.tmps.getD 146 undef) = .func (.func 20) #[] #[] := hd ⟨74, .data⟩ (by simp) rfl 146 rfl
              go_simp
              refine (name_fn ⟨#[102]⟩ _).mono ?_
              rintro e w' ⟨v, rfl, hv, hb⟩
              exact hK v w' hv hb
            · intro a w hd ho hg K Q hK
              obtain ⟨o1, o2, o3, o4, o5⟩ := ho
              go_simp
              exact hK _ _ rfl (Below.refl _ _)
            · intro a w hd ho hg K Q hK
              go_simp
              exact hK _ _ ⟨_, rfl, own_lit (Nat.zero_le _) (hit rfl) rfl (show 1 ≤ maxLen from by unfold maxLen; omega)⟩ ((Below.refl _ _).alloc (Nat.le_refl _) _)
            · intro a w hd ho hg K Q hK
              have f0 : (a.tmps.getD 148 undef) = .func (.func 21) #[] #[] := hd ⟨76, .data⟩ (by simp) rfl 148 rfl
              have f1 : ∃ g, (a.tmps.getD 149 undef) = .slice (some ⟨g, 0, none⟩) 1 1 ∧ w.ownsRow 0 3 1 (a.tmps.getD 149 undef) 1 ([0].map (.int .i64)) := hd ⟨77, .data⟩ (by simp) rfl 149 rfl
              obtain ⟨g1, e1, h1⟩ := f1
              rw [e1] at h1
              go_simp
              refine (of_fn 4 (some ⟨g1, 0, none⟩) 1 [0] _ h1).mono ?_
              rintro e w' ⟨v, rfl, hv, hb⟩
              exact hK v w' hv hb
            · intro a w hd ho hg K Q hK
              have f0 : OwnV w (a.tmps.getD 147 undef) (nName ⟨#[102]⟩) := hd ⟨75, .data⟩ (by simp) rfl 147 rfl
              obtain ⟨an0, cn0, ak0, ck0, e0, h0⟩ := f0
              have f1 : OwnV w (a.tmps.getD 150 undef) (nOf 4 [0]) := hd ⟨78, .data⟩ (by simp) rfl 150 rfl
              obtain ⟨an1, cn1, ak1, ck1, e1, h1⟩ := f1
              have hal : ∀ o, Below w.heap.size w (w.alloc o) := fun o => (Below.refl _ _).alloc (Nat.le_refl _) _
              have HAL := Lib.hid hal
              have H0 := Lib.hid h0
              have H1 := Lib.hid h1
              clear hal h0 h1
              rw [Array.getD_eq_getD_getElem?] at e0
              rw [Array.getD_eq_getD_getElem?] at e1
              go_simp
              refine hK _ _ ?_ (HAL.out _)
              refine ⟨w.heap.size, rfl, [((nName ⟨#[102]⟩ : Nd), Value.slice an0 (nName ⟨#[102]⟩).names.length cn0, Value.slice ak0 (nName ⟨#[102]⟩).kids.length ck0), ((nOf 4 [0] : Nd), Value.slice an1 (nOf 4 [0]).names.length cn1, Value.slice ak1 (nOf 4 [0]).kids.length ck1)], ⟨own_lit (Nat.zero_le _) (hit rfl) rfl (show 2 ≤ maxLen from by unfold maxLen; omega), fun r hr => ?_⟩, rfl⟩
              simp only [List.mem_cons, List.not_mem_nil, or_false] at hr
              rcases hr with rfl | rfl
              · exact H0.out.below (HAL.out _)
              · exact H1.out.below (HAL.out _)
            · intro a w hd ho hg K Q hK
              have f0 : ∃ g, (a.tmps.getD 151 undef) = .slice (some ⟨g, 0, none⟩) 2 2 ∧ OwnSyn w (a.tmps.getD 151 undef) [nName ⟨#[102]⟩, nOf 4 [0]] := hd ⟨79, .data⟩ (by simp) rfl 151 rfl
              obtain ⟨g0, e0, h0⟩ := f0
              rw [e0] at h0
              go_simp
              refine (stats_is 1 g0 2 1 [nName ⟨#[102]⟩, nOf 4 [0]] 3 _ h0 rfl rfl (by decide) (by decide) rfl).mono ?_
              rintro e w' ⟨v, rfl, hv, hb⟩
              exact hK v w' hv hb
            · intro a w hd ho hg K Q hK
              obtain ⟨o1, o2, o3, o4, o5⟩ := ho
              go_simp
              exact hK _ _ rfl (Below.refl _ _)
            · intro a w hd ho hg K Q hK
              have f0 : (a.tmps.getD 153 undef) = .func (.func 21) #[] #[] := hd ⟨81, .data⟩ (by simp) rfl 153 rfl
              go_simp
              refine (of_fn 12 none 0 [] _ nilRow).mono ?_
              rintro e w' ⟨v, rfl, hv, hb⟩
              exact hK v w' hv hb
            · intro a w hd ho hg K Q hK
              obtain ⟨o1, o2, o3, o4, o5⟩ := ho
              go_simp
              exact hK _ _ rfl (Below.refl _ _)
            · intro a w hd ho hg K Q hK
              have f0 : (a.tmps.getD 155 undef) = .func (.func 21) #[] #[] := hd ⟨83, .data⟩ (by simp) rfl 155 rfl
              go_simp
              refine (of_fn 13 none 0 [] _ nilRow).mono ?_
              rintro e w' ⟨v, rfl, hv, hb⟩
              exact hK v w' hv hb
            · intro a w hd ho hg K Q hK
              have f0 : OwnV w (a.tmps.getD 154 undef) (nOf 12 []) := hd ⟨82, .data⟩ (by simp) rfl 154 rfl
              obtain ⟨an0, cn0, ak0, ck0, e0, h0⟩ := f0
              have f1 : OwnV w (a.tmps.getD 156 undef) (nOf 13 []) := hd ⟨84, .data⟩ (by simp) rfl 156 rfl
              obtain ⟨an1, cn1, ak1, ck1, e1, h1⟩ := f1
              have hal : ∀ o, Below w.heap.size w (w.alloc o) := fun o => (Below.refl _ _).alloc (Nat.le_refl _) _
              have HAL := Lib.hid hal
              have H0 := Lib.hid h0
              have H1 := Lib.hid h1
              clear hal h0 h1
              rw [Array.getD_eq_getD_getElem?] at e0
              rw [Array.getD_eq_getD_getElem?] at e1
              go_simp
              refine hK _ _ ?_ (HAL.out _)
              refine ⟨w.heap.size, rfl, [((nOf 12 [] : Nd), Value.slice an0 (nOf 12 []).names.length cn0, Value.slice ak0 (nOf 12 []).kids.length ck0), ((nOf 13 [] : Nd), Value.slice an1 (nOf 13 []).names.length cn1, Value.slice ak1 (nOf 13 []).kids.length ck1)], ⟨own_lit (Nat.zero_le _) (hit rfl) rfl (show 2 ≤ maxLen from by unfold maxLen; omega), fun r hr => ?_⟩, rfl⟩
              simp only [List.mem_cons, List.not_mem_nil, or_false] at hr
              rcases hr with rfl | rfl
              · exact H0.out.below (HAL.out _)
              · exact H1.out.below (HAL.out _)
            · intro a w hd ho hg K Q hK
              have f0 : ∃ g, (a.tmps.getD 157 undef) = .slice (some ⟨g, 0, none⟩) 2 2 ∧ OwnSyn w (a.tmps.getD 157 undef) [nOf 12 [], nOf 13 []] := hd ⟨85, .data⟩ (by simp) rfl 157 rfl
              obtain ⟨g0, e0, h0⟩ := f0
              rw [e0] at h0
              go_simp
              refine (stats_is 2 g0 2 0 [nOf 12 [], nOf 13 []] 3 _ h0 rfl rfl (by decide) (by decide) rfl).mono ?_
              rintro e w' ⟨v, rfl, hv, hb⟩
              exact hK v w' hv hb
            · intro a w hd ho hg K Q hK
              go_simp
              refine (leaf_fn _).mono ?_
              rintro e w' ⟨v, rfl, hv, hb⟩
              exact hK v w' hv hb
            · intro a w hd ho hg K Q hK
              go_simp
              exact hK _ _ ⟨_, rfl, own_lit (Nat.zero_le _) (hit rfl) rfl (show 1 ≤ maxLen from by unfold maxLen; omega)⟩ ((Below.refl _ _).alloc (Nat.le_refl _) _)
            · intro a w hd ho hg K Q hK
              have f1 : ∃ g, (a.tmps.getD 160 undef) = .slice (some ⟨g, 0, none⟩) 1 1 ∧ w.ownsRow 0 3 1 (a.tmps.getD 160 undef) 1 ([0].map (.int .i64)) := hd ⟨88, .data⟩ (by simp) rfl 160 rfl
              obtain ⟨g1, e1, h1⟩ := f1
              rw [e1] at h1
              have H1 := Lib.hid h1
              clear h1
              rw [Array.getD_eq_getD_getElem?] at e1
              go_simp
              exact hK _ _ ⟨none, 0, some ⟨g1, 0, none⟩, 1, rfl, nilRow, H1.out⟩ (Below.refl _ _)
            · intro a w hd ho hg K Q hK
              obtain ⟨o1, o2, o3, o4, o5⟩ := ho
              go_simp
              exact hK _ _ rfl (Below.refl _ _)
            · intro a w hd ho hg K Q hK
              go_simp
              exact hK _ _ ⟨_, rfl, own_lit (Nat.zero_le _) (hit rfl) rfl (show 1 ≤ maxLen from by unfold maxLen; omega)⟩ ((Below.refl _ _).alloc (Nat.le_refl _) _)
            · intro a w hd ho hg K Q hK
              have f0 : (a.tmps.getD 162 undef) = .func (.func 21) #[] #[] := hd ⟨90, .data⟩ (by simp) rfl 162 rfl
              have f1 : ∃ g, (a.tmps.getD 163 undef) = .slice (some ⟨g, 0, none⟩) 1 1 ∧ w.ownsRow 0 3 1 (a.tmps.getD 163 undef) 1 ([1].map (.int .i64)) := hd ⟨91, .data⟩ (by simp) rfl 163 rfl
              obtain ⟨g1, e1, h1⟩ := f1
              rw [e1] at h1
              go_simp
              refine (of_fn 12 (some ⟨g1, 0, none⟩) 1 [1] _ h1).mono ?_
              rintro e w' ⟨v, rfl, hv, hb⟩
              exact hK v w' hv hb
            · intro a w hd ho hg K Q hK
              have f0 : OwnV w (a.tmps.getD 159 undef) (leafN) := hd ⟨87, .data⟩ (by simp) rfl 159 rfl
              obtain ⟨an0, cn0, ak0, ck0, e0, h0⟩ := f0
              have f1 : OwnV w (a.tmps.getD 161 undef) ((⟨34, 17, ⟨#[]⟩, [], [0], 0⟩ : Nd)) := hd ⟨89, .data⟩ (by simp) rfl 161 rfl
              obtain ⟨an1, cn1, ak1, ck1, e1, h1⟩ := f1
              have f2 : OwnV w (a.tmps.getD 164 undef) (nOf 12 [1]) := hd ⟨92, .data⟩ (by simp) rfl 164 rfl
              obtain ⟨an2, cn2, ak2, ck2, e2, h2⟩ := f2
              have hal : ∀ o, Below w.heap.size w (w.alloc o) := fun o => (Below.refl _ _).alloc (Nat.le_refl _) _
              have HAL := Lib.hid hal
              have H0 := Lib.hid h0
              have H1 := Lib.hid h1
              have H2 := Lib.hid h2
              clear hal h0 h1 h2
              rw [Array.getD_eq_getD_getElem?] at e0
              rw [Array.getD_eq_getD_getElem?] at e1
              rw [Array.getD_eq_getD_getElem?] at e2
              go_simp
              refine hK _ _ ?_ (HAL.out _)
              refine ⟨w.heap.size, rfl, [((leafN : Nd), Value.slice an0 (leafN).names.length cn0, Value.slice ak0 (leafN).kids.length ck0), (((⟨34, 17, ⟨#[]⟩, [], [0], 0⟩ : Nd) : Nd), Value.slice an1 ((⟨34, 17, ⟨#[]⟩, [], [0], 0⟩ : Nd)).names.length cn1, Value.slice ak1 ((⟨34, 17, ⟨#[]⟩, [], [0], 0⟩ : Nd)).kids.length ck1), ((nOf 12 [1] : Nd), Value.slice an2 (nOf 12 [1]).names.length cn2, Value.slice ak2 (nOf 12 [1]).kids.length ck2)], ⟨own_lit (Nat.zero_le _) (hit rfl) rfl (show 3 ≤ maxLen from by unfold maxLen; omega), fun r hr => ?_⟩, rfl⟩
              simp only [List.mem_cons, List.not_mem_nil, or_false] at hr
              rcases hr with rfl | rfl | rfl
              · exact H0.out.below (HAL.out _)
              · exact H1.out.below (HAL.out _)
              · exact H2.out.below (HAL.out _)
            · intro a w hd ho hg K Q hK
              have f0 : ∃ g, (a.tmps.getD 165 undef) = .slice (some ⟨g, 0, none⟩) 3 3 ∧ OwnSyn w (a.tmps.getD 165 undef) [leafN, (⟨34, 17, ⟨#[]⟩, [], [0], 0⟩ : Nd), nOf 12 [1]] := hd ⟨93, .data⟩ (by simp) rfl 165 rfl
              obtain ⟨g0, e0, h0⟩ := f0
              rw [e0] at h0
              go_simp
              refine (stats_is 1 g0 3 2 [leafN, (⟨34, 17, ⟨#[]⟩, [], [0], 0⟩ : Nd), nOf 12 [1]] 4 _ h0 rfl rfl (by decide) (by decide) rfl).mono ?_
              rintro e w' ⟨v, rfl, hv, hb⟩
              exact hK v w' hv hb
            · intro a w hd ho hg K Q hK
              have f0 : SynV w (a.tmps.getD 79 undef) ((statRaw 2 1 [nName ⟨#[49, 120]⟩, leafN, nAssign 1 [0, 1]]).map line1) (4) := hd ⟨7, .data⟩ (by simp) rfl 79 rfl
              obtain ⟨g0, c0, e0, h0⟩ := f0
              have f1 : SynV w (a.tmps.getD 87 undef) ((statRaw 2 1 [nName ⟨#[101, 110, 100]⟩, leafN, nAssign 1 [0, 1]]).map line1) (4) := hd ⟨15, .data⟩ (by simp) rfl 87 rfl
              obtain ⟨g1, c1, e1, h1⟩ := f1
              have f2 : SynV w (a.tmps.getD 94 undef) ((statRaw 1 1 [nName ⟨#[120]⟩, nAssign 1 [0]]).map line1) (3) := hd ⟨22, .data⟩ (by simp) rfl 94 rfl
              obtain ⟨g2, c2, e2, h2⟩ := f2
              have f3 : SynV w (a.tmps.getD 102 undef) ((statRaw 2 1 [nName ⟨#[120]⟩, leafN, nAssign 1 [0, 1, 1]]).map line1) (4) := hd ⟨30, .data⟩ (by simp) rfl 102 rfl
              obtain ⟨g3, c3, e3, h3⟩ := f3
              have f4 : SynV w (a.tmps.getD 113 undef) ((statRaw 3 1 [nName ⟨#[102]⟩, nOf 29 [0], leafN, nAssign 1 [1, 2]]).map line1) (5) := hd ⟨41, .data⟩ (by simp) rfl 113 rfl
              obtain ⟨g4, c4, e4, h4⟩ := f4
              have f5 : SynV w (a.tmps.getD 123 undef) ((statRaw 5 1 [leafN, leafN, leafN, leafN, nBlock, nLoop [0, 1, 2, 3, 4]]).map line1) (7) := hd ⟨51, .data⟩ (by simp) rfl 123 rfl
              obtain ⟨g5, c5, e5, h5⟩ := f5
              have f6 : SynV w (a.tmps.getD 130 undef) ((statRaw 2 1 [leafN, nBlock, nLoop [0, 1]]).map line1) (4) := hd ⟨58, .data⟩ (by simp) rfl 130 rfl
              obtain ⟨g6, c6, e6, h6⟩ := f6
              have f7 : SynV w (a.tmps.getD 136 undef) ((statRaw 1 1 [nBlock, nOf 8 [0]]).map line1) (3) := hd ⟨64, .data⟩ (by simp) rfl 136 rfl
              obtain ⟨g7, c7, e7, h7⟩ := f7
              have f8 : SynV w (a.tmps.getD 145 undef) ((statRaw 2 1 [leafN, nOf 29 [0], nOf 4 [1]]).map line1) (4) := hd ⟨73, .data⟩ (by simp) rfl 145 rfl
              obtain ⟨g8, c8, e8, h8⟩ := f8
              have f9 : SynV w (a.tmps.getD 152 undef) ((statRaw 1 1 [nName ⟨#[102]⟩, nOf 4 [0]]).map line1) (3) := hd ⟨80, .data⟩ (by simp) rfl 152 rfl
              obtain ⟨g9, c9, e9, h9⟩ := f9
              have f10 : SynV w (a.tmps.getD 158 undef) ((statRaw 0 2 [nOf 12 [], nOf 13 []]).map line1) (3) := hd ⟨86, .data⟩ (by simp) rfl 158 rfl
              obtain ⟨g10, c10, e10, h10⟩ := f10
              have f11 : SynV w (a.tmps.getD 166 undef) ((statRaw 2 1 [leafN, (⟨34, 17, ⟨#[]⟩, [], [0], 0⟩ : Nd), nOf 12 [1]]).map line1) (4) := hd ⟨94, .data⟩ (by simp) rfl 166 rfl
              obtain ⟨g11, c11, e11, h11⟩ := f11
              have hal : ∀ o, Below w.heap.size w (w.alloc o) := fun o => (Below.refl _ _).alloc (Nat.le_refl _) _
              have HAL := Lib.hid hal
              have H0 := Lib.hid h0
              have H1 := Lib.hid h1
              have H2 := Lib.hid h2
              have H3 := Lib.hid h3
              have H4 := Lib.hid h4
              have H5 := Lib.hid h5
              have H6 := Lib.hid h6
              have H7 := Lib.hid h7
              have H8 := Lib.hid h8
              have H9 := Lib.hid h9
              have H10 := Lib.hid h10
              have H11 := Lib.hid h11
              clear hal h0 h1 h2 h3 h4 h5 h6 h7 h8 h9 h10 h11
              rw [Array.getD_eq_getD_getElem?] at e0
              rw [Array.getD_eq_getD_getElem?] at e1
              rw [Array.getD_eq_getD_getElem?] at e2
              rw [Array.getD_eq_getD_getElem?] at e3
              rw [Array.getD_eq_getD_getElem?] at e4
              rw [Array.getD_eq_getD_getElem?] at e5
              rw [Array.getD_eq_getD_getElem?] at e6
              rw [Array.getD_eq_getD_getElem?] at e7
              rw [Array.getD_eq_getD_getElem?] at e8
              rw [Array.getD_eq_getD_getElem?] at e9
              rw [Array.getD_eq_getD_getElem?] at e10
              rw [Array.getD_eq_getD_getElem?] at e11
              go_simp
              refine hK _ _ ?_ (HAL.out _)
              refine ⟨w.heap.size, rfl, fun k p hp => ?_⟩
              match k, hp with
              | 0, hp => cases hp; exact ⟨_, cell_of (hit rfl) 0 _ rfl, cell_of (hit rfl) 1 _ rfl, g0, c0, rfl, H0.out.below (HAL.out _)⟩
              | 1, hp => cases hp; exact ⟨_, cell_of (hit rfl) 2 _ rfl, cell_of (hit rfl) 3 _ rfl, g1, c1, rfl, H1.out.below (HAL.out _)⟩
              | 2, hp => cases hp; exact ⟨_, cell_of (hit rfl) 4 _ rfl, cell_of (hit rfl) 5 _ rfl, g2, c2, rfl, H2.out.below (HAL.out _)⟩
              | 3, hp => cases hp; exact ⟨_, cell_of (hit rfl) 6 _ rfl, cell_of (hit rfl) 7 _ rfl, g3, c3, rfl, H3.out.below (HAL.out _)⟩
              | 4, hp => cases hp; exact ⟨_, cell_of (hit rfl) 8 _ rfl, cell_of (hit rfl) 9 _ rfl, g4, c4, rfl, H4.out.below (HAL.out _)⟩
              | 5, hp => cases hp; exact ⟨_, cell_of (hit rfl) 10 _ rfl, cell_of (hit rfl) 11 _ rfl, g5, c5, rfl, H5.out.below (HAL.out _)⟩
              | 6, hp => cases hp; exact ⟨_, cell_of (hit rfl) 12 _ rfl, cell_of (hit rfl) 13 _ rfl, g6, c6, rfl, H6.out.below (HAL.out _)⟩
              | 7, hp => cases hp; exact ⟨_, cell_of (hit rfl) 14 _ rfl, cell_of (hit rfl) 15 _ rfl, g7, c7, rfl, H7.out.below (HAL.out _)⟩
              | 8, hp => cases hp; exact ⟨_, cell_of (hit rfl) 16 _ rfl, cell_of (hit rfl) 17 _ rfl, g8, c8, rfl, H8.out.below (HAL.out _)⟩
              | 9, hp => cases hp; exact ⟨_, cell_of (hit rfl) 18 _ rfl, cell_of (hit rfl) 19 _ rfl, g9, c9, rfl, H9.out.below (HAL.out _)⟩
              | 10, hp => cases hp; exact ⟨_, cell_of (hit rfl) 20 _ rfl, cell_of (hit rfl) 21 _ rfl, g10, c10, rfl, H10.out.below (HAL.out _)⟩
              | 11, hp => cases hp; exact ⟨_, cell_of (hit rfl) 22 _ rfl, cell_of (hit rfl) 23 _ rfl, g11, c11, rfl, H11.out.below (HAL.out _)⟩
              | q + 12, hp => cases hp
            · intro a w hd ho hg K Q hK
              have f0 : SynsV w (a.tmps.getD 167 undef) [((statRaw 2 1 [nName ⟨#[49, 120]⟩, leafN, nAssign 1 [0, 1]]).map line1, 4), ((statRaw 2 1 [nName ⟨#[101, 110, 100]⟩, leafN, nAssign 1 [0, 1]]).map line1, 4), ((statRaw 1 1 [nName ⟨#[120]⟩, nAssign 1 [0]]).map line1, 3), ((statRaw 2 1 [nName ⟨#[120]⟩, leafN, nAssign 1 [0, 1, 1]]).map line1, 4), ((statRaw 3 1 [nName ⟨#[102]⟩, nOf 29 [0], leafN, nAssign 1 [1, 2]]).map line1, 5), ((statRaw 5 1 [leafN, leafN, leafN, leafN, nBlock, nLoop [0, 1, 2, 3, 4]]).map line1, 7), ((statRaw 2 1 [leafN, nBlock, nLoop [0, 1]]).map line1, 4), ((statRaw 1 1 [nBlock, nOf 8 [0]]).map line1, 3), ((statRaw 2 1 [leafN, nOf 29 [0], nOf 4 [1]]).map line1, 4), ((statRaw 1 1 [nName ⟨#[102]⟩, nOf 4 [0]]).map line1, 3), ((statRaw 0 2 [nOf 12 [], nOf 13 []]).map line1, 3), ((statRaw 2 1 [leafN, (⟨34, 17, ⟨#[]⟩, [], [0], 0⟩ : Nd), nOf 12 [1]]).map line1, 4)] := hd ⟨95, .data⟩ (by simp) rfl 167 rfl
              obtain ⟨g0, e0, -⟩ := f0
              dsimp only [List.length_cons, List.length_nil] at e0
              go_simp
              exact hK _ _ rfl (Below.refl _ _)
            · intro a w hd ho hg K Q hK
              go_simp
              exact hK _ _ rfl (Below.refl _ _)
        case rest =>
          obtain ⟨hL, rfl, rfl, hG1, hG2⟩ := hcut
          have hL1 := rows_no
          have hL2 : ([((statRaw 2 1 [nName ⟨#[49, 120]⟩, leafN, nAssign 1 [0, 1]]).map line1, 4), ((statRaw 2 1 [nName ⟨#[101, 110, 100]⟩, leafN, nAssign 1 [0, 1]]).map line1, 4), ((statRaw 1 1 [nName ⟨#[120]⟩, nAssign 1 [0]]).map line1, 3), ((statRaw 2 1 [nName ⟨#[120]⟩, leafN, nAssign 1 [0, 1, 1]]).map line1, 4), ((statRaw 3 1 [nName ⟨#[102]⟩, nOf 29 [0], leafN, nAssign 1 [1, 2]]).map line1, 5), ((statRaw 5 1 [leafN, leafN, leafN, leafN, nBlock, nLoop [0, 1, 2, 3, 4]]).map line1, 7), ((statRaw 2 1 [leafN, nBlock, nLoop [0, 1]]).map line1, 4), ((statRaw 1 1 [nBlock, nOf 8 [0]]).map line1, 3), ((statRaw 2 1 [leafN, nOf 29 [0], nOf 4 [1]]).map line1, 4), ((statRaw 1 1 [nName ⟨#[102]⟩, nOf 4 [0]]).map line1, 3), ((statRaw 0 2 [nOf 12 [], nOf 13 []]).map line1, 3), ((statRaw 2 1 [leafN, (⟨34, 17, ⟨#[]⟩, [], [0], 0⟩ : Nd), nOf 12 [1]]).map line1, 4)] : List (List Nd × Int)).length = 12 := rfl
          revert hL hL1 hL2
          generalize ([((statRaw 2 1 [nName ⟨#[49, 120]⟩, leafN, nAssign 1 [0, 1]]).map line1, 4), ((statRaw 2 1 [nName ⟨#[101, 110, 100]⟩, leafN, nAssign 1 [0, 1]]).map line1, 4), ((statRaw 1 1 [nName ⟨#[120]⟩, nAssign 1 [0]]).map line1, 3), ((statRaw 2 1 [nName ⟨#[120]⟩, leafN, nAssign 1 [0, 1, 1]]).map line1, 4), ((statRaw 3 1 [nName ⟨#[102]⟩, nOf 29 [0], leafN, nAssign 1 [1, 2]]).map line1, 5), ((statRaw 5 1 [leafN, leafN, leafN, leafN, nBlock, nLoop [0, 1, 2, 3, 4]]).map line1, 7), ((statRaw 2 1 [leafN, nBlock, nLoop [0, 1]]).map line1, 4), ((statRaw 1 1 [nBlock, nOf 8 [0]]).map line1, 3), ((statRaw 2 1 [leafN, nOf 29 [0], nOf 4 [1]]).map line1, 4), ((statRaw 1 1 [nName ⟨#[102]⟩, nOf 4 [0]]).map line1, 3), ((statRaw 0 2 [nOf 12 [], nOf 13 []]).map line1, 3), ((statRaw 2 1 [leafN, (⟨34, 17, ⟨#[]⟩, [], [0], 0⟩ : Nd), nOf 12 [1]]).map line1, 4)] : List (List Nd × Int)) = L2
          intro hL hL1 hL2
          obtain ⟨gL2, eL, hOK⟩ := syns_ok hL hL1
          rw [hL2] at eL hOK
          subst eL
          have HOK := Lib.hid hOK
          have HG := Lib.hid hG2
          clear hOK hG1 hG2 hL1 hL2
          go_wp2_with fail
          go_loopg [169] 12 (fun r i wr2 => ∃ k : Nat, r = 12 - k ∧ i = .int .i64 (k : Int) ∧ k ≤ 12 ∧ Below wc.heap.size wc wr2)
          case atStart => exact ⟨0, rfl, rfl, Nat.zero_le _, Below.refl _ _⟩
          case round =>
            obtain ⟨k, rfl, rfl, hk, hb⟩ := hrel
            by_cases hlt : k < 12
            · have hlt' : (k : Int) < 12 := by omega
              obtain ⟨gu, nu, cu, r1, hx⟩ := HOK.out k hlt
              have hbal : ∀ o, Below wc.heap.size wc (wr.alloc o) := fun o => hb.trans (((Below.refl _ _).alloc (Nat.le_refl _) _).mono hb.size)
              obtain ⟨x0, x1, -⟩ := hx wr hb
              have c := fun o => (hx (wr.alloc o) (hbal o)).2.2
              have HC := Lib.hid c
              have HBA := Lib.hid hbal
              clear c hbal hx hb
              go_wp2_with fail
              refine (HC.out _).mono ?_
              rintro e w3 ⟨rfl, b3⟩
              have HB3 := Lib.hid ((HBA.out _).trans (b3.mono (HBA.out _).size))
              clear b3
              go_wp2_with fail
              go_roundg (12 - (k + 1))
              case measure => omega
              case rel => exact ⟨k + 1, rfl, by go_num, by omega, HB3.out⟩
            · obtain rfl : k = 12 := by omega
              have hlt' : ¬ ((12 : Nat) : Int) < 12 := by omega
              have hb3 : Below w.heap.size w wr := HG.out.trans (hb.mono HG.out.size)
              have HB := Lib.hid hb3
              clear hb hb3 HOK HG hL
              go_upto_region 18 with fail
              obtain ⟨o1, b1⟩ := one_local ⟨#[97]⟩ wr _ rfl
              have HC1 := Lib.hid (stats_is 1 (wr.heap.size + 1) 1 0 [nLocal ⟨#[97]⟩] 2 _ o1 rfl rfl (by decide) (by decide) rfl)
              have HB1 := Lib.hid (HB.out.trans (b1.mono HB.out.size))
              clear o1 b1
              go_wp2_with fail
              refine HC1.out.mono ?_
              rintro e w2 ⟨v, rfl, hv, bw⟩
              obtain ⟨gA, cA, hv1, hO⟩ := (show SynV w2 v lA 2 from hv)
              obtain ⟨nA, hnA⟩ : ∃ n, lA.length = n := ⟨_, rfl⟩
              rw [hnA] at hv1 hO
              subst hv1
              have hB2 := HB1.out.trans (bw.mono HB1.out.size)
              obtain ⟨A, hA⟩ : ∃ A, w2.heap.size = A := ⟨_, rfl⟩
              have hal : Below w2.heap.size w2 (w2.alloc (.cells #[.slice (some ⟨gA, 0, none⟩) nA cA, .int .i64 2] 24)) := (Below.refl _ _).alloc (Nat.le_refl _) _
              have hx : (w2.alloc (.cells #[.slice (some ⟨gA, 0, none⟩) nA cA, .int .i64 2] 24)).heap[w2.heap.size]? = some (.cells #[.slice (some ⟨gA, 0, none⟩) nA cA, .int .i64 2] 24 (0, 0)) := hit rfl
              have HO := Lib.hid (hO.below hal)
              have HX := Lib.hid hx
              have HB2 := Lib.hid (hB2.trans (hal.mono hB2.size))
              clear hO bw hv hB2 hal hx HC1 HB1 HB
              go_upto_region 19 with fail
              obtain ⟨W3, hW3⟩ : ∃ W, w2.alloc (.cells #[.slice (some ⟨gA, 0, none⟩) nA cA, .int .i64 2] 24) = W := ⟨_, rfl⟩
              rw [hA] at HX
              rw [hW3] at HO HX HB2 ⊢
              clear hW3 hA
              obtain ⟨o1, b1⟩ := one_local ⟨#[98]⟩ W3 _ rfl
              have HC1 := Lib.hid (stats_is 1 (W3.heap.size + 1) 1 0 [nLocal ⟨#[98]⟩] 2 _ o1 rfl rfl (by decide) (by decide) rfl)
              have HB1 := Lib.hid b1
              clear o1 b1
              go_wp2_with fail
              refine HC1.out.mono ?_
              rintro e w4 ⟨v, rfl, hv, bw⟩
              obtain ⟨gB, cB, hv1, hO⟩ := (show SynV w4 v lB 2 from hv)
              obtain ⟨nB, hnB⟩ : ∃ n, lB.length = n := ⟨_, rfl⟩
              rw [hnB] at hv1 hO
              subst hv1
              have hB4 : Below W3.heap.size W3 w4 := HB1.out.trans (bw.mono HB1.out.size)
              obtain ⟨D, hD⟩ : ∃ D, w4.heap.size = D := ⟨_, rfl⟩
              have hal : Below w4.heap.size w4 (w4.alloc (.cells #[.slice (some ⟨gB, 0, none⟩) nB cB, .int .i64 2] 24)) := (Below.refl _ _).alloc (Nat.le_refl _) _
              have hx : (w4.alloc (.cells #[.slice (some ⟨gB, 0, none⟩) nB cB, .int .i64 2] 24)).heap[w4.heap.size]? = some (.cells #[.slice (some ⟨gB, 0, none⟩) nB cB, .int .i64 2] 24 (0, 0)) := hit rfl
              have hB5 := hB4.trans (hal.mono hB4.size)
              have HOB := Lib.hid (hO.below hal)
              have HOA := Lib.hid (HO.out.below hB5)
              have HXB := Lib.hid hx
              have HXA := Lib.hid ((hB5.block _ (lt_of_heap HX.out)).trans HX.out)
              have HB5 := Lib.hid (HB2.out.trans (hB5.mono HB2.out.size))
              clear hO bw hv hB4 hal hx HC1 HB1 hB5
              go_upto_region 20 with fail
              obtain ⟨W5, hW5⟩ : ∃ W, w4.alloc (.cells #[.slice (some ⟨gB, 0, none⟩) nB cB, .int .i64 2] 24) = W := ⟨_, rfl⟩
              rw [hD] at HXB
              rw [hW5] at HOA HOB HXA HXB HB5 ⊢
              clear hW5 hD
              have i2 : In64 2 := by constructor <;> omega
              have R1 := Lib.hid (show ∀ W, Below W5.heap.size W5 W → Calls Try.prog 8 #[.agg #[.slice (some ⟨gA, 0, none⟩) nA cA, .int .i64 2]] W fun e w' => e = .returned (.bool true) ∧ Below W.heap.size W w' from fun W hb => right_is true ((HOA.out.below hb).syn a_fine 2 i2 (by decide)) (by decide) a_fine a_right)
              have R2 := Lib.hid (show ∀ W, Below W5.heap.size W5 W → Calls Try.prog 8 #[.agg #[.slice (some ⟨gB, 0, none⟩) nB cB, .int .i64 2]] W fun e w' => e = .returned (.bool true) ∧ Below W.heap.size W w' from fun W hb => right_is true ((HOB.out.below hb).syn b_fine 2 i2 (by decide)) (by decide) b_fine b_right)
              have R3 := Lib.hid (show ∀ W, Below W5.heap.size W5 W → Calls Try.prog 12 #[.agg #[.slice (some ⟨gA, 0, none⟩) nA cA, .int .i64 2], .agg #[.slice (some ⟨gB, 0, none⟩) nB cB, .int .i64 2]] W fun e w' => e = .returned (.bool false) ∧ Below W.heap.size W w' from fun W hb =>
                (own_same _ _ lA lB 2 2 W ((HOA.out.below hb).syn a_fine 2 i2 (by decide)) ((HOB.out.below hb).syn b_fine 2 i2 (by decide)) (by decide) (by decide) a_fine b_fine).mono fun e w' ⟨b, he, hb2, hw⟩ => by
                  refine ⟨?_, hw⟩
                  cases b with
                  | false => exact he
                  | true => exact absurd (hb2.1 rfl) ab_other)
              have R4 := Lib.hid (show ∀ W, Below W5.heap.size W5 W → Calls Try.prog 12 #[.agg #[.slice (some ⟨gA, 0, none⟩) nA cA, .int .i64 2], .agg #[.slice (some ⟨gA, 0, none⟩) nA cA, .int .i64 2]] W fun e w' => e = .returned (.bool true) ∧ Below W.heap.size W w' from fun W hb =>
                (own_same _ _ lA lA 2 2 W ((HOA.out.below hb).syn a_fine 2 i2 (by decide)) ((HOA.out.below hb).syn a_fine 2 i2 (by decide)) (by decide) (by decide) a_fine a_fine).mono fun e w' ⟨b, he, hb2, hw⟩ => by
                  refine ⟨?_, hw⟩
                  rw [hb2.2 (same_self (rightB_iff.1 a_right))] at he
                  exact he)
              have xA0 := cell_of HXA.out 0 _ rfl
              have xA1 := cell_of HXA.out 1 _ rfl
              go_wp2_with fail
              refine (R1.out _ (Below.refl _ _)).mono ?_
              rintro e w6 ⟨rfl, b6⟩
              have xB0 := cellS b6 (cell_of HXB.out 0 _ rfl)
              have xB1 := cellS b6 (cell_of HXB.out 1 _ rfl)
              go_wp2_with fail
              refine (R2.out _ b6).mono ?_
              rintro e w7 ⟨rfl, b7⟩
              have b7 := b6.trans (b7.mono b6.size)
              have zA0 := cellS b7 (cell_of HXA.out 0 _ rfl)
              have zA1 := cellS b7 (cell_of HXA.out 1 _ rfl)
              have zB0 := cellS b7 (cell_of HXB.out 0 _ rfl)
              have zB1 := cellS b7 (cell_of HXB.out 1 _ rfl)
              clear xA0 xA1 xB0 xB1
              go_wp2_with fail
              refine (R3.out _ b7).mono ?_
              rintro e w8 ⟨rfl, b8⟩
              have b8 := b7.trans (b8.mono b7.size)
              have xA0 := cellS b8 (cell_of HXA.out 0 _ rfl)
              have xA1 := cellS b8 (cell_of HXA.out 1 _ rfl)
              clear zA0 zA1 zB0 zB1
              go_wp2_with fail
              refine (R4.out _ b8).mono ?_
              rintro e w9 ⟨rfl, b9⟩
              have HB9 := Lib.hid (HB5.out.trans ((b8.trans (b9.mono b8.size)).mono HB5.out.size))
              clear b6 b7 b8 b9 xA0 xA1
              go_wp2_with fail
              go_ret
              exact ⟨rfl, HB9.out⟩

end Go.Proofs.Ytmddffacjkkeiaa.Nd
