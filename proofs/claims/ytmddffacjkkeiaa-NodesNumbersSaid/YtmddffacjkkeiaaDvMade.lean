/-
  Layer 5: nodes as the laws make them.
-/
import Derived.Test.YtmddffacjkkeiaaDvAwake
namespace Go.Proofs.Ytmddffacjkkeiaa.Nd
open Go Go.RowKit Go.ChangeShapes Go.WideShapes Go.Shelf
open Go.Proofs.Ytmddffacjkkeiaa.Rf

/-- A node as a value, its lists in the call's own memory. -/
def OwnV (w : World) (v : Value) (nd : Nd) : Prop := ∃ an cn ak ck, v = .agg #[.int .u8 (nd.k : Int), .int .i64 nd.n, .string nd.name, .slice an nd.names.length cn, .slice ak nd.kids.length ck, .int .i64 nd.line] ∧ Sub w (nd, .slice an nd.names.length cn, .slice ak nd.kids.length ck)
theorem OwnV.below {w w' : World} {v : Value} {nd : Nd} (h : OwnV w v nd) (hb : Below w.heap.size w w') : OwnV w' v nd := by
  obtain ⟨an, cn, ak, ck, e, hs⟩ := h
  exact ⟨an, cn, ak, ck, e, hs.below hb⟩
theorem nilRow {w : World} {e : TypeId} : w.ownsRow 0 e 1 (.slice none 0 0) 0 [] := World.ownsRow_nil _ _ _ _
abbrev leafN : Nd := ⟨23, 5, ⟨#[]⟩, [], [], 2⟩

set_option maxHeartbeats 1000000 in
theorem leaf_fn (w : World) : Calls Try.prog 6 #[] w fun e w' => ∃ v, e = .returned v ∧ OwnV w' v ⟨23, 5, ⟨#[]⟩, [], [], 2⟩ ∧ Below w.heap.size w w' := by
  go_enter Try.func6, Try.ntmps6
  go_wp2_with fail
  obtain ⟨W, hW⟩ : ∃ W, w.alloc (.cells #[.int .u8 23, .int .i64 5, .string ⟨#[]⟩, .slice none 0 0, .slice none 0 0, .int .i64 2] 30) = W := ⟨_, rfl⟩
  have hb : Below w.heap.size w W := by rw [← hW]; exact (Below.refl _ _).alloc (Nat.le_refl _) _
  have h0 : W.heap[w.heap.size]? = some (.cells #[.int .u8 23, .int .i64 5, .string ⟨#[]⟩, .slice none 0 0, .slice none 0 0, .int .i64 2] 30 (0, 0)) := by rw [← hW]; exact hit rfl
  rw [hW]
  have x0 := cell_of h0 0 _ rfl
  have x1 := cell_of h0 1 _ rfl
  have x2 := cell_of h0 2 _ rfl
  have x3 := cell_of h0 3 _ rfl
  have x4 := cell_of h0 4 _ rfl
  have x5 := cell_of h0 5 _ rfl
  refine bodyPost_ret (v := .agg #[.int .u8 23, .int .i64 5, .string ⟨#[]⟩, .slice none 0 0, .slice none 0 0, .int .i64 2]) (by simp [results, Try.results6, go_sem, x0, x1, x2, x3, x4, x5]) rfl ?_
  exact ⟨_, rfl, ⟨none, 0, none, 0, rfl, nilRow, nilRow⟩, hb⟩

set_option maxHeartbeats 1000000 in
theorem bin_fn (op : Nat) (a b : Int) (w : World) (hop : op < 256) : Calls Try.prog 7 #[.int .u8 (op : Int), .int .i64 a, .int .i64 b] w fun e w' => ∃ v, e = .returned v ∧ OwnV w' v ⟨31, (op : Int), ⟨#[]⟩, [], [a, b], 1⟩ ∧ Below w.heap.size w w' := by
  have hw : IntKind.i64.wrap (op : Int) = (op : Int) := IntWalk.i64_in _ (by omega)
  go_enter Try.func7, Try.ntmps7
  go_wp2_with fail
  obtain ⟨W, hW⟩ : ∃ W, (w.alloc (.cells #[.int .u8 31, .int .i64 (op : Int), .string ⟨#[]⟩, .slice none 0 0, .slice (some ⟨w.heap.size + 1, 0, none⟩) 2 2, .int .i64 1] 30)).alloc (.cells #[.int .i64 a, .int .i64 b] 3) = W := ⟨_, rfl⟩
  have hb : Below w.heap.size w W := by rw [← hW]; exact ((Below.refl _ _).alloc (Nat.le_refl _) _).alloc (by simp) _
  have h0 : W.heap[w.heap.size]? = some (.cells #[.int .u8 31, .int .i64 (op : Int), .string ⟨#[]⟩, .slice none 0 0, .slice (some ⟨w.heap.size + 1, 0, none⟩) 2 2, .int .i64 1] 30 (0, 0)) := by rw [← hW]; exact miss (hit rfl)
  have h1 : W.heap[w.heap.size + 1]? = some (.cells #[.int .i64 a, .int .i64 b] 3 (0, 0)) := by rw [← hW]; exact hit (by simp)
  rw [hW]
  have x0 := cell_of h0 0 _ rfl
  have x1 := cell_of h0 1 _ rfl
  have x2 := cell_of h0 2 _ rfl
  have x3 := cell_of h0 3 _ rfl
  have x4 := cell_of h0 4 _ rfl
  have x5 := cell_of h0 5 _ rfl
  refine bodyPost_ret (v := .agg #[.int .u8 31, .int .i64 (op : Int), .string ⟨#[]⟩, .slice none 0 0, .slice (some ⟨w.heap.size + 1, 0, none⟩) 2 2, .int .i64 1]) (by simp [results, Try.results7, go_sem, x0, x1, x2, x3, x4, x5]) rfl ?_
  exact ⟨_, rfl, ⟨none, 0, some ⟨w.heap.size + 1, 0, none⟩, 2, rfl, nilRow, own_lit (Nat.zero_le _) h1 rfl (show 2 ≤ maxLen from by unfold maxLen; omega)⟩, hb⟩

set_option maxHeartbeats 1000000 in
theorem name_fn (s : ByteArray) (w : World) : Calls Try.prog 20 #[.string s] w fun e w' => ∃ v, e = .returned v ∧ OwnV w' v ⟨27, 0, s, [], [], 0⟩ ∧ Below w.heap.size w w' := by
  go_enter Try.func20, Try.ntmps20
  go_wp2_with fail
  obtain ⟨W, hW⟩ : ∃ W, w.alloc (.cells #[.int .u8 27, .int .i64 0, .string s, .slice none 0 0, .slice none 0 0, .int .i64 0] 30) = W := ⟨_, rfl⟩
  have hb : Below w.heap.size w W := by rw [← hW]; exact (Below.refl _ _).alloc (Nat.le_refl _) _
  have h0 : W.heap[w.heap.size]? = some (.cells #[.int .u8 27, .int .i64 0, .string s, .slice none 0 0, .slice none 0 0, .int .i64 0] 30 (0, 0)) := by rw [← hW]; exact hit rfl
  rw [hW]
  have x0 := cell_of h0 0 _ rfl
  have x1 := cell_of h0 1 _ rfl
  have x2 := cell_of h0 2 _ rfl
  have x3 := cell_of h0 3 _ rfl
  have x4 := cell_of h0 4 _ rfl
  have x5 := cell_of h0 5 _ rfl
  refine bodyPost_ret (v := .agg #[.int .u8 27, .int .i64 0, .string s, .slice none 0 0, .slice none 0 0, .int .i64 0]) (by simp [results, Try.results20, go_sem, x0, x1, x2, x3, x4, x5]) rfl ?_
  exact ⟨_, rfl, ⟨none, 0, none, 0, rfl, nilRow, nilRow⟩, hb⟩

set_option maxHeartbeats 1000000 in
theorem of_fn (k : Nat) (ak : Option Addr) (ck : Nat) (ks : List Int) (w : World) (hK : w.ownsRow 0 3 1 (.slice ak ks.length ck) ks.length (ks.map (.int .i64))) : Calls Try.prog 21 #[.int .u8 (k : Int), .slice ak ks.length ck] w fun e w' => ∃ v, e = .returned v ∧ OwnV w' v ⟨k, 0, ⟨#[]⟩, [], ks, 0⟩ ∧ Below w.heap.size w w' := by
  have HK := Lib.hid hK
  clear hK
  obtain ⟨nk, hnk⟩ : ∃ nk, ks.length = nk := ⟨_, rfl⟩
  rw [hnk]
  go_enter Try.func21, Try.ntmps21
  go_wp2_with fail
  obtain ⟨W, hW⟩ : ∃ W, w.alloc (.cells #[.int .u8 (k : Int), .int .i64 0, .string ⟨#[]⟩, .slice none 0 0, .slice ak nk ck, .int .i64 0] 30) = W := ⟨_, rfl⟩
  have hb : Below w.heap.size w W := by rw [← hW]; exact (Below.refl _ _).alloc (Nat.le_refl _) _
  have h0 : W.heap[w.heap.size]? = some (.cells #[.int .u8 (k : Int), .int .i64 0, .string ⟨#[]⟩, .slice none 0 0, .slice ak nk ck, .int .i64 0] 30 (0, 0)) := by rw [← hW]; exact hit rfl
  rw [hW]
  have x0 := cell_of h0 0 _ rfl
  have x1 := cell_of h0 1 _ rfl
  have x2 := cell_of h0 2 _ rfl
  have x3 := cell_of h0 3 _ rfl
  have x4 := cell_of h0 4 _ rfl
  have x5 := cell_of h0 5 _ rfl
  refine bodyPost_ret (v := .agg #[.int .u8 (k : Int), .int .i64 0, .string ⟨#[]⟩, .slice none 0 0, .slice ak nk ck, .int .i64 0]) (by simp [results, Try.results21, go_sem, x0, x1, x2, x3, x4, x5]) rfl ?_
  subst hnk
  exact ⟨_, rfl, ⟨none, 0, ak, ck, rfl, nilRow, own_below5 HK.out (by rw [← hW]; exact (Below.refl _ _).alloc (Nat.le_refl _) _)⟩, hb⟩

set_option maxHeartbeats 1000000 in
theorem assign_fn (n : Int) (ak : Option Addr) (ck : Nat) (ks : List Int) (w : World) (hK : w.ownsRow 0 3 1 (.slice ak ks.length ck) ks.length (ks.map (.int .i64))) : Calls Try.prog 22 #[.int .i64 n, .slice ak ks.length ck] w fun e w' => ∃ v, e = .returned v ∧ OwnV w' v ⟨3, n, ⟨#[]⟩, [], ks, 0⟩ ∧ Below w.heap.size w w' := by
  have HK := Lib.hid hK
  clear hK
  obtain ⟨nk, hnk⟩ : ∃ nk, ks.length = nk := ⟨_, rfl⟩
  rw [hnk]
  go_enter Try.func22, Try.ntmps22
  go_wp2_with fail
  obtain ⟨W, hW⟩ : ∃ W, w.alloc (.cells #[.int .u8 3, .int .i64 n, .string ⟨#[]⟩, .slice none 0 0, .slice ak nk ck, .int .i64 0] 30) = W := ⟨_, rfl⟩
  have hb : Below w.heap.size w W := by rw [← hW]; exact (Below.refl _ _).alloc (Nat.le_refl _) _
  have h0 : W.heap[w.heap.size]? = some (.cells #[.int .u8 3, .int .i64 n, .string ⟨#[]⟩, .slice none 0 0, .slice ak nk ck, .int .i64 0] 30 (0, 0)) := by rw [← hW]; exact hit rfl
  rw [hW]
  have x0 := cell_of h0 0 _ rfl
  have x1 := cell_of h0 1 _ rfl
  have x2 := cell_of h0 2 _ rfl
  have x3 := cell_of h0 3 _ rfl
  have x4 := cell_of h0 4 _ rfl
  have x5 := cell_of h0 5 _ rfl
  refine bodyPost_ret (v := .agg #[.int .u8 3, .int .i64 n, .string ⟨#[]⟩, .slice none 0 0, .slice ak nk ck, .int .i64 0]) (by simp [results, Try.results22, go_sem, x0, x1, x2, x3, x4, x5]) rfl ?_
  subst hnk
  exact ⟨_, rfl, ⟨none, 0, ak, ck, rfl, nilRow, own_below5 HK.out (by rw [← hW]; exact (Below.refl _ _).alloc (Nat.le_refl _) _)⟩, hb⟩

set_option maxHeartbeats 1000000 in
theorem loop_fn (ak : Option Addr) (ck : Nat) (ks : List Int) (w : World) (hK : w.ownsRow 0 3 1 (.slice ak ks.length ck) ks.length (ks.map (.int .i64))) : Calls Try.prog 23 #[.slice ak ks.length ck] w fun e w' => ∃ v, e = .returned v ∧ OwnV w' v ⟨9, 0, ⟨#[]⟩, [⟨#[105]⟩], ks, 0⟩ ∧ Below w.heap.size w w' := by
  have HK := Lib.hid hK
  clear hK
  obtain ⟨nk, hnk⟩ : ∃ nk, ks.length = nk := ⟨_, rfl⟩
  rw [hnk]
  go_enter Try.func23, Try.ntmps23
  go_wp2_with fail
  obtain ⟨W, hW⟩ : ∃ W, (w.alloc (.cells #[.int .u8 9, .int .i64 0, .string ⟨#[]⟩, .slice (some ⟨w.heap.size + 1, 0, none⟩) 1 1, .slice ak nk ck, .int .i64 0] 30)).alloc (.cells #[.string ⟨#[105]⟩] 9) = W := ⟨_, rfl⟩
  have hb : Below w.heap.size w W := by rw [← hW]; exact ((Below.refl _ _).alloc (Nat.le_refl _) _).alloc (by simp) _
  have h0 : W.heap[w.heap.size]? = some (.cells #[.int .u8 9, .int .i64 0, .string ⟨#[]⟩, .slice (some ⟨w.heap.size + 1, 0, none⟩) 1 1, .slice ak nk ck, .int .i64 0] 30 (0, 0)) := by rw [← hW]; exact miss (hit rfl)
  have h1 : W.heap[w.heap.size + 1]? = some (.cells #[.string ⟨#[105]⟩] 9 (0, 0)) := by rw [← hW]; exact hit (by simp)
  rw [hW]
  have x0 := cell_of h0 0 _ rfl
  have x1 := cell_of h0 1 _ rfl
  have x2 := cell_of h0 2 _ rfl
  have x3 := cell_of h0 3 _ rfl
  have x4 := cell_of h0 4 _ rfl
  have x5 := cell_of h0 5 _ rfl
  refine bodyPost_ret (v := .agg #[.int .u8 9, .int .i64 0, .string ⟨#[]⟩, .slice (some ⟨w.heap.size + 1, 0, none⟩) 1 1, .slice ak nk ck, .int .i64 0]) (by simp [results, Try.results23, go_sem, x0, x1, x2, x3, x4, x5]) rfl ?_
  subst hnk
  exact ⟨_, rfl, ⟨some ⟨w.heap.size + 1, 0, none⟩, 1, ak, ck, rfl, own_lit (Nat.zero_le _) h1 rfl (show 1 ≤ maxLen from by unfold maxLen; omega), own_below5 HK.out (by rw [← hW]; exact ((Below.refl _ _).alloc (Nat.le_refl _) _).alloc (by simp) _)⟩, hb⟩

end Go.Proofs.Ytmddffacjkkeiaa.Nd
