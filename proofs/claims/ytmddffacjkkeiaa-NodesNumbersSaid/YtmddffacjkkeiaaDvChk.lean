/-
  Layer 5: whether a given list of nodes is right, reckoned out.
-/
import Derived.Test.YtmddffacjkkeiaaDvName
import Derived.Test.YtmddffacjkkeiaaDvSameMath
import Derived.KernelRfl
namespace Go.Proofs.Ytmddffacjkkeiaa.Nd

/-- All that is asked, reckoned: walked as often as there are nodes. -/
def rightB (row : Row) (l : List Nd) (root : Int) : Bool :=
  decide (l.length ≤ 4096) && (decide (0 ≤ root) && decide (root < l.length)) && (decide ((at' l root).k = 26) && decide ((at' l root).n = 1) && (at' l root).names.isEmpty) && tiedB l root &&
  ((List.range l.length).all fun (i : Nat) => row (bare (at' l (i : Int))) (kinds l (at' l (i : Int)))) && ((allV l root).all fun x => decide (x.2 ≤ 100)) && decide ((allV l root).length = l.length)

theorem rightB_iff {row : Row} {l : List Nd} {root : Int} : rightB row l root = true ↔ RightC row l root := by
  unfold rightB
  simp only [Bool.and_eq_true, decide_eq_true_iff, List.all_eq_true, List.mem_range, List.isEmpty_iff]
  constructor
  · rintro ⟨⟨⟨⟨⟨⟨h1, h2, h3⟩, ⟨h4, h5⟩, h6⟩, h7⟩, h8⟩, h9⟩, h10⟩
    have hr : inR l root := ⟨h2, h3⟩
    obtain ⟨ht, hf⟩ := (tied_iff hr).1 h7
    exact ⟨h1, ⟨h4, h5, h6⟩, ht, hf, fun i hi => by
      obtain ⟨n, rfl, hn⟩ := of_inR hi
      exact h8 n hn, h9, h10⟩
  · intro H
    exact ⟨⟨⟨⟨⟨⟨H.few, H.tied.top.1, H.tied.top.2⟩, ⟨H.head.1, H.head.2.1⟩, H.head.2.2⟩, (tied_iff H.tied.top).2 ⟨H.tied, H.found⟩⟩, fun i hi => H.rows _ (inR_nat.2 hi)⟩, H.deep⟩, H.all⟩
theorem rightB_no {row : Row} {l : List Nd} {root : Int} (h : rightB row l root = false) : ¬ RightC row l root := fun H => by rw [rightB_iff.2 H] at h; cases h

def nX : ByteArray := ⟨#[120]⟩
def textL : List Nd := [⟨27, 0, ⟨#[120]⟩, [], [], 1⟩, ⟨23, 1, ⟨#[]⟩, [], [], 1⟩, ⟨3, 1, ⟨#[]⟩, [], [0, 1], 1⟩, ⟨1, 0, ⟨#[]⟩, [], [2], 1⟩, ⟨26, 1, ⟨#[]⟩, [], [3], 1⟩]
theorem name_x : nmD ⟨#[120]⟩ = true := by kernel_rfl
theorem text_right : rightB (rowD nmD) textL 4 = true := by kernel_rfl
theorem text_a : rightB (rowD nmD) (textL.set 2 ⟨3, 1, ⟨#[]⟩, [], [1, 1], 1⟩) 4 = false := by kernel_rfl
theorem text_b : rightB (rowD nmD) (textL.set 2 ⟨3, 2, ⟨#[]⟩, [], [0, 1], 1⟩) 4 = false := by kernel_rfl
theorem text_c : rightB (rowD nmD) textL 3 = false := by kernel_rfl
/-- A right syntax says the same as itself. -/
theorem same_self {row : Row} {l : List Nd} {root : Int} (H : RightC row l root) : SameC row l root l root := ⟨H, H, rfl, fun j p q hp hq => by
  rw [hp] at hq
  cases hq
  exact ⟨rfl, rfl, rfl, rfl, rfl⟩⟩

end Go.Proofs.Ytmddffacjkkeiaa.Nd
