/-
  awake: the answers that are fixed.
-/
import Derived.Test.YtfciilkngmdlbaaRunesI
import Derived.Test.YtfciilkngmdlbaaRunesH
import Derived.Test.YtfciilkngmdlbaaRunesB
namespace Go.Proofs.Ytfciilkngmdlbaa
open Go.RowKit

theorem reads_block (w : World) (k : IntKind) (e : TypeId) (l : List Int) : Reads (w.alloc (.cells (l.map (Value.int k)).toArray e)) k (.slice (some ⟨w.heap.size, 0, none⟩) l.length l.length) l := by
  refine ⟨_, _, rfl, fun _ => ⟨w.heap.size, by simp, rfl, fun i hi => ?_⟩⟩
  rw [World.cell?_alloc_mark]
  simp [hi]

theorem reads_runes {w : World} {b : Nat} {v : Value} {l : List (Int × Int)} (h : w.ownsRow b 21 1 v l.length (runeCells l)) : Reads w .i32 v (l.map (·.1)) :=
  Reads.own (b := b) (e := 21) (n := l.length) (by rw [List.map_map]; exact h)
theorem reads_places {w : World} {b : Nat} {v : Value} {l : List (Int × Int)} (h : w.ownsRow b 3 1 v l.length (placeCells l)) : Reads w .i64 v (l.map (·.2)) :=
  Reads.own (b := b) (e := 3) (n := l.length) (by rw [List.map_map]; exact h)

theorem same_true (v u : Value) (l : List Int) (w : World) (hv : Reads w .i32 v l) (hu : Reads w .i32 u l) (hl : l.length ≤ 1000000000) :
    Calls Try.prog 8 #[v, u] w fun e w' => e = .returned (.bool true) ∧ Below w.heap.size w w' := by
  have := same_any v u l l w hv hu hl
  unfold SamePost at this
  rwa [decide_eq_true rfl] at this
theorem sameInts_true (v u : Value) (l : List Int) (w : World) (hv : Reads w .i64 v l) (hu : Reads w .i64 u l) (hl : l.length ≤ 1000000000) :
    Calls Try.prog 9 #[v, u] w fun e w' => e = .returned (.bool true) ∧ Below w.heap.size w w' := by
  have := sameInts_any v u l l w hv hu hl
  unfold SamePost at this
  rwa [decide_eq_true rfl] at this

theorem encode_at (n : Int) (t : ByteArray) (c : Int) (w : World) (h : encS n = t) (hc : encE n = c) :
    Calls Try.prog 6 #[.int .i64 n] w fun e w' => e = .returned (.tuple #[.string t, .int .i64 c]) ∧ Below w.heap.size w w' := by
  have := runes_encode n w
  rwa [h, hc] at this

/-- Each at a text whose characters are known: the two rows read as lists. -/
def EachReads (l m : List Int) (w : World) (e : Ending) (w' : World) : Prop :=
  ∃ v u, e = .returned (.tuple #[v, u]) ∧ Reads w' .i32 v l ∧ Reads w' .i64 u m ∧ Below w.heap.size w w'
theorem each_at (s : ByteArray) (l m : List Int) (w : World) (hs : s.size ≤ 1000000000) (hl : (eachAt s 0).map (·.1) = l) (hm : (eachAt s 0).map (·.2) = m) :
    Calls Try.prog 7 #[.string s] w (EachReads l m w) := by
  refine (runes_each s w hs).mono ?_
  rintro e w' ⟨v, u, rfl, h1, h2, h3⟩
  subst hl hm
  exact ⟨v, u, rfl, reads_runes h1, reads_places h2, h3⟩

theorem hex_at (b : Nat) (x : Int) (c : Bool) (w : World) (hb : b < 256) (hx : hexV b = x) (hc : hexB b = c) :
    Calls Try.prog 10 #[.int .u8 b] w fun e w' => e = .returned (.tuple #[.int .i64 x, .bool c]) ∧ w = w' := by
  have := runes_hex b w hb
  rwa [hx, hc] at this

set_option maxHeartbeats 1000000 in
theorem awake_any (w : World) :
    Calls Try.prog 20 #[] w fun e w' => e = .returned (.bool true) ∧ Below w.heap.size w w' := by
  go_enter Try.func20, Try.ntmps20
  go_wp2_with fail
  refine (encode_at 228 ⟨#[195, 164]⟩ 0 _ (by kernel_rfl) (by kernel_rfl)).mono ?_
  rintro e w1 ⟨rfl, b1⟩
  go_wp2_with fail
  refine (encode_at 8364 ⟨#[226, 130, 172]⟩ 0 _ (by kernel_rfl) (by kernel_rfl)).mono ?_
  rintro e w2 ⟨rfl, b2⟩
  go_wp2_with fail
  refine (each_at ⟨#[97, 195, 164, 98]⟩ [97, 228, 98] [0, 1, 3] _ (by decide) (by kernel_rfl) (by kernel_rfl)).mono ?_
  rintro e w3 ⟨v, u, rfl, hv, hu, b3⟩
  go_wp2_with fail
  refine (hex_at 70 15 true _ (by decide) (by kernel_rfl) (by kernel_rfl)).mono ?_
  rintro e w4 ⟨rfl, rfl⟩
  go_wp2_with fail
  have hl : ∀ w : World, Reads (w.alloc (.cells #[.int .i32 97, .int .i32 228, .int .i32 98] 21)) .i32 (.slice (some ⟨w.heap.size, 0, none⟩) 3 3) [97, 228, 98] := fun w => reads_block w .i32 21 [97, 228, 98]
  have hm : ∀ w : World, Reads (w.alloc (.cells #[.int .i64 0, .int .i64 1, .int .i64 3] 3)) .i64 (.slice (some ⟨w.heap.size, 0, none⟩) 3 3) [0, 1, 3] := fun w => reads_block w .i64 3 [0, 1, 3]
  refine (same_true _ _ [97, 228, 98] _ (hv.below ((Below.refl _ _).alloc (Nat.le_refl _) _)) (hl _) (by decide)).mono ?_
  rintro e w5 ⟨rfl, b5⟩
  have hu5 := (hu.below ((Below.refl _ _).alloc (Nat.le_refl _) (.cells #[.int .i32 97, .int .i32 228, .int .i32 98] 21))).below b5
  go_wp2_with fail
  refine (sameInts_true _ _ [0, 1, 3] _ (hu5.below ((Below.refl _ _).alloc (Nat.le_refl _) _)) (hm _) (by decide)).mono ?_
  rintro e w6 ⟨rfl, b6⟩
  go_wp2
  go_ret
  exact ⟨rfl, grew_trans (grew_alloc (grew_trans (grew_alloc (grew_trans (grew_trans b1 b2) b3) _) b5) _) b6⟩

end Go.Proofs.Ytfciilkngmdlbaa
