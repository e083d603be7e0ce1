/-
  runes.Each and runes.Valid, by contracts.
-/
import Derived.Test.YtfciilkngmdlbaaRunesDec
import Derived.Test.YtfciilkngmdlbaaRunesKit
import Derived.Test.YtfciilkngmdlbaaRows
namespace Go.Proofs.Ytfciilkngmdlbaa
open Go.RowKit

theorem Try.infoRune : (Try.prog.info? 21).map (fun i => (i.zero, i.size, i.bytes)) = some (some (.int .i32 0), 1, 4) := by kernel_rfl
theorem Try.infoInt : (Try.prog.info? 3).map (fun i => (i.zero, i.size, i.bytes)) = some (some (.int .i64 0), 1, 8) := by kernel_rfl

def runeCells (l : List (Int × Int)) : List Value := l.map fun p => .int .i32 p.1
def placeCells (l : List (Int × Int)) : List Value := l.map fun p => .int .i64 p.2

/-- What Each leaves: two rows of its own, the characters and their places. -/
def EachPost (s : ByteArray) (w : World) (e : Ending) (w' : World) : Prop :=
  ∃ v u, e = .returned (.tuple #[v, u]) ∧ w'.ownsRow w.heap.size 21 1 v (eachAt s 0).length (runeCells (eachAt s 0)) ∧ w'.ownsRow w.heap.size 3 1 u (eachAt s 0).length (placeCells (eachAt s 0)) ∧ Below w.heap.size w w'

def EachRel (s : ByteArray) (w : World) (B : Nat) (v u : Value) (wr : World) : Prop :=
  ∃ (pos : Nat) (acc : List (Int × Int)), wr.ownsRow B 21 1 v acc.length (runeCells acc) ∧ wr.ownsRow B 3 1 u acc.length (placeCells acc) ∧ Below w.heap.size w wr ∧
    acc ++ eachAt s pos = eachAt s 0 ∧ pos ≤ s.size ∧ acc.length ≤ pos ∧ wr.heap[w.heap.size]? = some (.stringIter s pos)

theorem each_rel {s : ByteArray} {w W w1 w2 : World} {v u v' u' : Value} {pos k : Nat} {c : Int} {acc : List (Int × Int)}
    (hv2 : W.ownsRow (w.heap.size + 1) 21 1 v acc.length (runeCells acc))
    (hit : W.heap[w.heap.size]? = some (.stringIter s (pos + k))) (hb : Below w.heap.size w W) (hB : w.heap.size < W.heap.size)
    (hacc : acc ++ (c, (pos : Int)) :: eachAt s (pos + k) = eachAt s 0) (hps : pos + k ≤ s.size) (hal : acc.length + 1 ≤ pos + k)
    (hv3 : w1.ownsRow (w.heap.size + 1) 21 1 v' (acc.length + 1) (runeCells acc ++ [.int .i32 c])) (hg1 : (W.alloc (.cells #[.int .i32 c] 21)).grownBy w1 v.ownBlock)
    (hu3 : w1.ownsRow (w.heap.size + 1) 3 1 u acc.length (placeCells acc))
    (hu4 : w2.ownsRow (w.heap.size + 1) 3 1 u' (acc.length + 1) (placeCells acc ++ [.int .i64 pos])) (hg2 : (w1.alloc (.cells #[.int .i64 pos] 3)).grownBy w2 u.ownBlock) :
    EachRel s w (w.heap.size + 1) v' u' w2 ∧ w2.heap[w.heap.size]? = some (.stringIter s (pos + k)) := by
  have b1 := below_appended hv2 hg1 hB
  have b2 := below_appended hu3 hg2 (by have := b1.size; omega)
  have hz : w2.heap[w.heap.size]? = some (.stringIter s (pos + k)) := by rw [b2.block _ (by omega), b1.block _ (by omega)]; exact hit
  refine ⟨⟨pos + k, acc ++ [(c, (pos : Int))], ?_, ?_, (hb.trans (b1.mono (by omega))).trans (b2.mono (by omega)), by simpa using hacc, hps, by simpa using hal, hz⟩, hz⟩
  · have := (hv3.alloc (.cells #[.int .i64 pos] 3)).kept hg2 (ownBlock_ne hv3 hu3 (by decide))
    simpa [runeCells] using this
  · simpa [placeCells] using hu4

set_option maxHeartbeats 1000000 in
theorem runes_each (s : ByteArray) (w : World) (hs : s.size ≤ 1000000000) :
    Calls Try.prog 7 #[.string s] w (EachPost s w) := by
  go_enter Try.func7, Try.ntmps7
  go_wp2
  go_loopw [4, 5] (fun v u wr => EachRel s w (w.heap.size + 1) v u wr) (fun _ _ wr => s.size - wr.iterPos w.heap.size)
  case atStart =>
    refine ⟨0, [], World.ownsRow_nil _ _ _ _, World.ownsRow_nil _ _ _ _, (Below.refl _ _).alloc (Nat.le_refl _) _, rfl, by omega, by simp, ?_⟩
    exact World.iter_heap w s 0
  case round =>
    obtain ⟨pos, acc, hv, hu, hb, hacc, hps, hal, hit⟩ := hrel
    have hsz : w.heap.size < wr.heap.size := (Array.getElem?_eq_some_iff.1 hit).1
    by_cases hp : pos < s.size
    · have hnx : ∀ ty, (Instr.next (.pointer (some ⟨w.heap.size, 0, none⟩)) true ty).run Try.prog wr = _ := fun ty => Lib.run_next_any_at wr w.heap.size s pos ty hit hp
      have hwd := dec_width s pos hp
      obtain ⟨c, hc⟩ : ∃ c : Int, c = ((Utf8.decode s pos).1 : Int) := ⟨_, rfl⟩
      rw [← hc] at hnx
      obtain ⟨W, hW⟩ : ∃ W, W = wr.iterAt w.heap.size s (pos + (Utf8.decode s pos).2) := ⟨_, rfl⟩
      rw [← hW] at hnx
      have hv2 := ownsRow_iterAt hv (Nat.lt_succ_self w.heap.size) s (pos + (Utf8.decode s pos).2)
      have hu2 := ownsRow_iterAt hu (Nat.lt_succ_self w.heap.size) s (pos + (Utf8.decode s pos).2)
      have hit2 := Lib.iterAt_heap wr _ s pos (pos + (Utf8.decode s pos).2) hit
      have hb2 := Lib.below_iterAt hb (Nat.le_refl w.heap.size) s (pos + (Utf8.decode s pos).2)
      rw [← hW] at hv2 hu2 hit2 hb2
      have hsz2 : w.heap.size < W.heap.size := (Array.getElem?_eq_some_iff.1 hit2).1
      have HW := Lib.hid hW
      have HC := Lib.hid hc
      have HI := Lib.hid hit
      clear hW hc hv hu hit hb
      go_wp2_with (at_builtin; refine wpList_append_one rfl (.tmp 14) (.tmp 16) 25 rfl (w.heap.size + 1) 21 (.int .i32 0) 4 Try.underlying25 Try.infoRune rfl _ _ _ rfl hv2 (.int .i32 c) rfl rfl ?h63 ?hby ?hba ?_)
      case h63 => unfold maxLen; omega
      case hby => omega
      case hba => omega
      intro v' w1 hv3 hg1
      have hu3 := (hu2.alloc (.cells #[.int .i32 c] 21)).kept hg1 (ownBlock_ne hu2 hv2 (by decide))
      have hsz3 := hg1.size
      simp only [World.size_alloc] at hsz3
      go_wp2_with (at_builtin; refine wpList_append_one rfl (.tmp 18) (.tmp 20) 26 rfl (w.heap.size + 1) 3 (.int .i64 0) 8 Try.underlying26 Try.infoInt rfl _ _ _ rfl hu3 (.int .i64 pos) rfl rfl ?h63b ?hbyb ?hbab ?_)
      case h63b => unfold maxLen; omega
      case hbyb => omega
      case hbab => omega
      intro u' w2 hu4 hg2
      have R := Lib.hid (each_rel hv2 hit2 hb2 hsz2 (by rw [← hacc, eachAt_step s pos hp, ← HC.out]) (by omega) (by omega) hv3 hg1 hu3 hu4 hg2)
      clear hv2 hu2 hv3 hg1 hu3 hu4 hg2 hit2 hb2
      go_wp2
      go_roundw
      case rel => exact R.out.1
      case measure =>
        have e1 := iterPos_of R.out.2
        have e2 := iterPos_of HI.out
        rw [e1, e2]
        omega
    · have hnx : ∀ ty, (Instr.next (.pointer (some ⟨w.heap.size, 0, none⟩)) true ty).run Try.prog wr = _ := fun ty => Lib.run_next_end_at wr w.heap.size s pos ty hit hp
      go_wp2
      go_ret2
      rw [eachAt_end s pos hp, List.append_nil] at hacc
      subst hacc
      exact ⟨_, _, rfl, ownsRow_base hv (by omega), ownsRow_base hu (by omega), hb⟩

end Go.Proofs.Ytfciilkngmdlbaa
