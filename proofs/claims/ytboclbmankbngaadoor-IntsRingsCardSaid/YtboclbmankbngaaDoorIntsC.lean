/-
  Compare, of both.
-/
import Derived.Test.YtboclbmankbngaaDoorIntsB
namespace Go.Proofs.YtboclbmankbngaaDoor
open Go.RowKit

theorem ret_booli {a b : Bool} {c d : Int} (h : a = b) (h' : c = d) : Ending.returned (.tuple #[.bool a, .int .i64 c]) = .returned (.tuple #[.bool b, .int .i64 d]) := by rw [h, h']

def cmpB (o a b : Int) : Bool :=
  if o = 12 then (a == b) else if o = 13 then (a != b) else if o = 14 then decide (a < b) else if o = 15 then decide (a ≤ b)
  else if o = 16 then decide (b < a) else if o = 17 then decide (b ≤ a) else false
def cmpE (o : Int) : Int := if 12 ≤ o ∧ o ≤ 17 then 0 else 2

def CmpSays (o a b : Int) (w : World) (e : Ending) (w' : World) : Prop := e = .returned (.tuple #[.bool (cmpB o a b), .int .i64 (cmpE o)]) ∧ w = w'
theorem cmp_at {o a b k : Int} {n : Bool} {w : World} (hn : n = cmpB o a b) (hk : k = cmpE o) : CmpSays o a b w (.returned (.tuple #[.bool n, .int .i64 k])) w := by
  subst hn hk; exact ⟨rfl, rfl⟩

set_option maxHeartbeats 2000000 in
theorem compare_any (o a b : Int) (w : World) :
    Calls Tryd.prog 10 #[.int .u8 o, .int .i64 a, .int .i64 b] w (CmpSays o a b w) := by
  by_cases hk : o = 12 ∨ o = 13 ∨ o = 14 ∨ o = 15 ∨ o = 16 ∨ o = 17
  · rcases hk with rfl | rfl | rfl | rfl | rfl | rfl
    all_goals
      go_enter Tryd.func10, Tryd.ntmps10
      go_wp2
      go_ret2
      first | exact cmp_at rfl rfl | exact cmp_at (by simp [cmpB]; done) rfl | exact cmp_at (by simp [cmpB, Bool.eq_iff_iff]) rfl
  · have hn : cmpB o a b = false := by unfold cmpB; simp only [not_or] at *; simp [*]
    have he : cmpE o = 2 := by unfold cmpE; rw [if_neg (by omega)]
    have e1 : (o == 12) = false := by simp; omega
    have e2 : (o == 13) = false := by simp; omega
    have e3 : (o == 14) = false := by simp; omega
    have e4 : (o == 15) = false := by simp; omega
    have e5 : (o == 16) = false := by simp; omega
    have e6 : (o == 17) = false := by simp; omega
    clear hk
    have HN := Lib.hid hn
    have HE := Lib.hid he
    clear hn he
    go_enter Tryd.func10, Tryd.ntmps10
    go_wp2
    go_ret2
    exact cmp_at HN.out.symm HE.out.symm

set_option maxHeartbeats 2000000 in
theorem ref_compare (o a b : Int) (w : World) (ho : 0 ≤ o ∧ o ≤ 255) :
    Calls Tryd.prog 15 #[.int .u8 o, .int .i64 a, .int .i64 b] w (CmpSays o a b w) := by
  by_cases hk : o = 12 ∨ o = 13 ∨ o = 14 ∨ o = 15 ∨ o = 16 ∨ o = 17
  · rcases Int.lt_trichotomy a b with h | h | h
    · have h1 : decide (a < b) = true := by simp; omega
      have h2 : (a == b) = false := by simp; omega
      have h3 : decide (b < a) = false := by simp; omega
      rcases hk with rfl | rfl | rfl | rfl | rfl | rfl
      all_goals
        go_enter Tryd.func15, Tryd.ntmps15
        go_wp2
        go_ret2
        exact cmp_at (by first | rfl | (simp [cmpB]; done) | (simp [cmpB]; omega)) rfl
    · subst h
      rcases hk with rfl | rfl | rfl | rfl | rfl | rfl
      all_goals
        go_enter Tryd.func15, Tryd.ntmps15
        go_wp2
        go_ret2
        exact cmp_at (by first | rfl | simp [cmpB]) rfl
    · have h1 : decide (a < b) = false := by simp; omega
      have h2 : (a == b) = false := by simp; omega
      have h3 : decide (b < a) = true := by simp; omega
      rcases hk with rfl | rfl | rfl | rfl | rfl | rfl
      all_goals
        go_enter Tryd.func15, Tryd.ntmps15
        go_wp2
        go_ret2
        exact cmp_at (by first | rfl | (simp [cmpB]; done) | (simp [cmpB]; omega)) rfl
  · have hn : cmpB o a b = false := by unfold cmpB; simp only [not_or] at *; simp [*]
    have he : cmpE o = 2 := by unfold cmpE; rw [if_neg (by omega)]
    have e1 : (o == 12) = false := by simp; omega
    have e2 : (o == 13) = false := by simp; omega
    have e3 : (o == 14) = false := by simp; omega
    have e4 : (o == 15) = false := by simp; omega
    have e5 : (o == 16) = false := by simp; omega
    have e6 : (o == 17) = false := by simp; omega
    clear hk
    have HN := Lib.hid hn
    have HE := Lib.hid he
    clear hn he
    go_enter Tryd.func15, Tryd.ntmps15
    go_wp2
    go_ret2
    exact cmp_at HN.out.symm HE.out.symm

end Go.Proofs.YtboclbmankbngaaDoor
