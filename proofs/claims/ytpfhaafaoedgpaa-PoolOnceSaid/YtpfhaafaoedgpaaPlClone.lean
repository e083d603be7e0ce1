/-
  Layer 12: the developers' pool: a copy of it.
-/
import Derived.Test.YtpfhaafaoedgpaaPlIds
import Derived.Lib.SliceRun
namespace Go.Proofs.Ytpfhaafaoedgpaa.Pl
open Go Go.RowKit

def CloneSays (h : List Int) (w : World) (e : Ending) (w' : World) : Prop := ∃ v', e = .returned v' ∧ w'.ownsRow w.heap.size 3 1 v' h.length (ints h) ∧ Below w.heap.size w w'
set_option maxHeartbeats 1000000 in
theorem clone_ints (v : Value) (h : List Int) (w : World) (hr : Row w v h) (h63 : h.length ≤ 65536) : Calls Try.prog 31 #[v] w (CloneSays h w) := by
  have q : ∀ (w : World) (a : Option Addr) (n c n' c' : Nat), (binOp .eql 36 (.slice a n c) (.slice none n' c')).run Try.prog w = .ok (.bool a.isNone) w := fun w a n c n' c' => Lib.run_eql_slice_nil w _ _ a n c n' c' Try.underlying36
  have HR := Lib.hid hr
  rcases hr.2 with ⟨rfl, h0⟩ | ⟨g, cap, cur, rfl, _, hg, hcl, hcm, _⟩
  · have HE := Lib.hid (List.eq_nil_of_length_eq_zero h0)
    clear h0 hr
    go_enter Try.func31, Try.ntmps31
    go_wp2_with fail
    go_ret
    exact ⟨_, rfl, by rw [HE.out]; exact World.ownsRow_nil _ _ _ _, Below.refl _ _⟩
  · have hsl := LstP.own (row_below hr ((Below.refl _ _).alloc (Nat.le_refl _) (.cells #[] 3))) (show Len h.length by unfold Len; omega)
    have HSL := Lib.hid hsl
    have hown := World.ownsRow_made (base := w.heap.size) (size := 1) (e := 3) w #[] 0 (Nat.le_refl _) (Nat.zero_le _) rfl
    have HOW := Lib.hid hown
    have HL := Lib.hid (show (ints h).length = h.length from ints_len h)
    have H63 := Lib.hid h63
    clear hr hg hsl hown hcm
    generalize h.length = n at *
    go_enter Try.func31, Try.ntmps31
    go_wp2_with (at_builtin; go_loud (refine wpList_append_part rfl (.tmp 5) (.tmp 6) 36 rfl w.heap.size 3 (.int .i64 0) 8 Try.underlying36 infoInt rfl (.slice (some ⟨w.heap.size, 0, none⟩) 0 0) 0 [] rfl HOW.out _ (ints h) rfl HSL.out (oneInts _) ?l1 ?m1 ?n1 ?_))
    case l1 => exact Nat.le_trans (m := 65536) (by have := HL.out; have := H63.out; omega) (by decide)
    case m1 => exact Nat.le_trans (Nat.mul_le_mul_right 8 (m := 65536) (by have := HL.out; have := H63.out; omega)) (by decide)
    case n1 => simp
    intro v1 w1 h1 h2 h3
    have HO := Lib.hid h1
    have hb : Below w.heap.size w w1 := ((Below.refl _ w).alloc (Nat.le_refl _) (.cells #[] 3)).grown h2 (by simp) (fun k hk => by
      injection hk with hk
      exact Nat.le_of_eq hk)
    have HB := Lib.hid hb
    clear h1 h2 h3 hb
    go_wp2_with fail
    go_ret
    refine ⟨v1, rfl, ?_, HB.out⟩
    have ho := HO.out
    rw [ints_len] at ho
    exact ho
set_option maxHeartbeats 1000000 in
theorem clone_nums (v : Value) (h : List Int) (w : World) (hr : Row w v h) (h63 : h.length ≤ 65536) : Calls Try.prog 32 #[v] w (CloneSays h w) := by
  have q : ∀ (w : World) (a : Option Addr) (n c n' c' : Nat), (binOp .eql 50 (.slice a n c) (.slice none n' c')).run Try.prog w = .ok (.bool a.isNone) w := fun w a n c n' c' => Lib.run_eql_slice_nil w _ _ a n c n' c' Try.underlying50
  have HR := Lib.hid hr
  rcases hr.2 with ⟨rfl, h0⟩ | ⟨g, cap, cur, rfl, _, hg, hcl, hcm, _⟩
  · have HE := Lib.hid (List.eq_nil_of_length_eq_zero h0)
    clear h0 hr
    go_enter Try.func32, Try.ntmps32
    go_wp2_with fail
    go_ret
    exact ⟨_, rfl, by rw [HE.out]; exact World.ownsRow_nil _ _ _ _, Below.refl _ _⟩
  · have hsl := LstP.own (row_below hr ((Below.refl _ _).alloc (Nat.le_refl _) (.cells #[] 3))) (show Len h.length by unfold Len; omega)
    have HSL := Lib.hid hsl
    have hown := World.ownsRow_made (base := w.heap.size) (size := 1) (e := 3) w #[] 0 (Nat.le_refl _) (Nat.zero_le _) rfl
    have HOW := Lib.hid hown
    have HL := Lib.hid (show (ints h).length = h.length from ints_len h)
    have H63 := Lib.hid h63
    clear hr hg hsl hown hcm
    generalize h.length = n at *
    go_enter Try.func32, Try.ntmps32
    go_wp2_with (at_builtin; go_loud (refine wpList_append_part rfl (.tmp 5) (.tmp 6) 50 rfl w.heap.size 3 (.int .i64 0) 8 Try.underlying50 infoInt rfl (.slice (some ⟨w.heap.size, 0, none⟩) 0 0) 0 [] rfl HOW.out _ (ints h) rfl HSL.out (oneInts _) ?l1 ?m1 ?n1 ?_))
    case l1 => exact Nat.le_trans (m := 65536) (by have := HL.out; have := H63.out; omega) (by decide)
    case m1 => exact Nat.le_trans (Nat.mul_le_mul_right 8 (m := 65536) (by have := HL.out; have := H63.out; omega)) (by decide)
    case n1 => simp
    intro v1 w1 h1 h2 h3
    have HO := Lib.hid h1
    have hb : Below w.heap.size w w1 := ((Below.refl _ w).alloc (Nat.le_refl _) (.cells #[] 3)).grown h2 (by simp) (fun k hk => by
      injection hk with hk
      exact Nat.le_of_eq hk)
    have HB := Lib.hid hb
    clear h1 h2 h3 hb
    go_wp2_with fail
    go_ret
    refine ⟨v1, rfl, ?_, HB.out⟩
    have ho := HO.out
    rw [ints_len] at ho
    exact ho
end Go.Proofs.Ytpfhaafaoedgpaa.Pl
