/-
  Layer 5: which texts are names.
-/
import Derived.Test.YtmddffacjkkeiaaDvBase
import Derived.Test.YtmddffacjkkeiaaNumMath
import Derived.Laws.IdiomStrings
namespace Go.Proofs.Ytmddffacjkkeiaa.Nd
open Go Go.RowKit Go.ChangeShapes Go.WideShapes Go.Shelf
open Go.Proofs.Ytmddffacjkkeiaa.Num (byteAt byteAt_lt run_index_at)

def digB (b : Nat) : Bool := decide (48 ≤ b ∧ b ≤ 57)
def letB (b : Nat) : Bool := decide (65 ≤ b ∧ b ≤ 90 ∨ 97 ≤ b ∧ b ≤ 122 ∨ b = 95)
def wordsL : List ByteArray := [⟨#[97, 110, 100]⟩, ⟨#[98, 114, 101, 97, 107]⟩, ⟨#[100, 111]⟩, ⟨#[101, 108, 115, 101]⟩, ⟨#[101, 108, 115, 101, 105, 102]⟩, ⟨#[101, 110, 100]⟩, ⟨#[102, 97, 108, 115, 101]⟩, ⟨#[102, 111, 114]⟩, ⟨#[102, 117, 110, 99, 116, 105, 111, 110]⟩, ⟨#[103, 111, 116, 111]⟩, ⟨#[105, 102]⟩, ⟨#[105, 110]⟩, ⟨#[108, 111, 99, 97, 108]⟩, ⟨#[110, 105, 108]⟩, ⟨#[110, 111, 116]⟩, ⟨#[111, 114]⟩, ⟨#[114, 101, 112, 101, 97, 116]⟩, ⟨#[114, 101, 116, 117, 114, 110]⟩, ⟨#[116, 104, 101, 110]⟩, ⟨#[116, 114, 117, 101]⟩, ⟨#[117, 110, 116, 105, 108]⟩, ⟨#[119, 104, 105, 108, 101]⟩]
def wordB (s : ByteArray) : Bool := wordsL.any fun t => t.toList == s.toList

theorem own_digit (b : Nat) (w : World) (hb : b < 256) : Calls Try.prog 51 #[.int .u8 (b : Int)] w fun e w' => e = .returned (.bool (digB b)) ∧ w = w' := by
  go_enter Try.func51, Try.ntmps51
  go_wp2
  all_goals
    go_ret
    refine ⟨ret_bool ?_, rfl⟩
    unfold digB
    rw [Bool.eq_iff_iff]
    first | (simp; done) | (simp; omega)
theorem own_letter (b : Nat) (w : World) (hb : b < 256) : Calls Try.prog 53 #[.int .u8 (b : Int)] w fun e w' => e = .returned (.bool (letB b)) ∧ w = w' := by
  go_enter Try.func53, Try.ntmps53
  go_wp2
  all_goals
    go_ret
    refine ⟨ret_bool ?_, rfl⟩
    unfold letB
    rw [Bool.eq_iff_iff]
    first | (simp; done) | (simp; omega)
set_option maxHeartbeats 4000000 in
set_option maxRecDepth 100000 in
theorem own_word (s : ByteArray) (w : World) :
    Calls Try.prog 52 #[.string s] w fun e w' => e = .returned (.bool (wordB s)) ∧ w = w' := by
  go_enter Try.func52, Try.ntmps52
  go_wp2
  all_goals
    go_ret
    refine ⟨ret_bool ?_, rfl⟩
    unfold wordB wordsL
    first
      | (simp_all; done)
      | (simp_all; and_intros <;> (intro h; exact absurd h.symm (by assumption)))

/-- Letters and digits, from the k-th byte on. -/
def charsB (s : ByteArray) (k : Nat) : Bool := (List.range' k (s.size - k)).all fun i => letB (byteAt s i) || digB (byteAt s i)
def nmD (s : ByteArray) : Bool := !(decide (s.toList = []) || decide (60 < s.size) || digB (byteAt s 0) || wordB s) && charsB s 0
theorem chars_end (s : ByteArray) : charsB s s.size = true := by unfold charsB; rw [Nat.sub_self]; rfl
theorem chars_step (s : ByteArray) (k : Nat) (h : k < s.size) : charsB s k = ((letB (byteAt s k) || digB (byteAt s k)) && charsB s (k + 1)) := by
  unfold charsB
  rw [show s.size - k = (s.size - (k + 1)) + 1 by omega, List.range'_succ, List.all_cons]

set_option maxHeartbeats 4000000 in
theorem own_name (s : ByteArray) (w : World) :
    Calls Try.prog 34 #[.string s] w fun e w' => e = .returned (.bool (nmD s)) ∧ Below w.heap.size w w' := by
  obtain ⟨Z, hZ⟩ : ∃ Z, nmD s = Z := ⟨_, rfl⟩
  rw [hZ]
  have HZ := Lib.hid hZ
  clear hZ
  by_cases h0 : s.toList = []
  · have e : Z = false := by
      rw [← HZ.out]; unfold nmD; rw [decide_eq_true h0]; rfl
    go_enter Try.func34, Try.ntmps34
    go_wp2_with fail
    go_ret
    exact ⟨ret_bool e.symm, Below.refl _ _⟩
  have hsz : 0 < s.size := by
    rcases Nat.eq_zero_or_pos s.size with h | h
    · exact absurd (by rw [ByteArray.toList_eq]; exact List.eq_nil_of_length_eq_zero h) h0
    · exact h
  have he : s.toList.isEmpty = false := by
    cases h : s.toList with
    | nil => exact absurd h h0
    | cons _ _ => rfl
  by_cases h1 : 60 < s.size
  · have e : Z = false := by
      rw [← HZ.out]; unfold nmD; rw [decide_eq_true h1, Bool.or_true]; rfl
    have h1' : (60 : Int) < s.size := by omega
    go_enter Try.func34, Try.ntmps34
    go_wp2_with fail
    go_ret
    exact ⟨ret_bool e.symm, Below.refl _ _⟩
  have h1' : ¬ (60 : Int) < s.size := by omega
  have hx := run_index_at (P := Try.prog) 9 s 0 0 Try.underlying9 hsz rfl
  have cd := fun w => own_digit (byteAt s 0) w (byteAt_lt s 0)
  have cw := fun w => own_word s w
  have hz2 : Z = (!(digB (byteAt s 0) || wordB s) && charsB s 0) := by
    rw [← HZ.out]; unfold nmD; rw [decide_eq_false h0, decide_eq_false h1, Bool.false_or, Bool.false_or]
  have HZ2 := Lib.hid hz2
  clear hz2
  generalize digB (byteAt s 0) = D at *
  generalize wordB s = W at *
  have HC0 := Lib.hid (rfl : byteAt s 0 = byteAt s 0)
  cases D with
  | true =>
    go_enter Try.func34, Try.ntmps34
    go_wp2_with (go_at_call 51; refine (cd _).mono ?_; rintro e w' ⟨rfl, rfl⟩)
    go_ret
    exact ⟨ret_bool HZ2.out.symm, Below.refl _ _⟩
  | false =>
  cases W with
  | true =>
    go_enter Try.func34, Try.ntmps34
    go_wp2_with (first | (go_at_call 51; refine (cd _).mono ?_; rintro e w' ⟨rfl, rfl⟩) | (go_at_call 52; refine (cw _).mono ?_; rintro e w' ⟨rfl, rfl⟩))
    go_ret
    exact ⟨ret_bool HZ2.out.symm, Below.refl _ _⟩
  | false =>
    have hrun := run_bytes_of_string (P := Try.prog) w 9 83 5 s Try.underlying9 Try.underlying83 Try.underlying5
    obtain ⟨w1, hw1⟩ : ∃ w1, w.drew.alloc (.cells (bytesRow s (grownCap w s.size 0 5)) 5 ((bytesRow s (grownCap w s.size 0 5)).size, (bytesRow s (grownCap w s.size 0 5)).size + 1)) = w1 := ⟨_, rfl⟩
    rw [hw1] at hrun
    have hB : Below w.heap.size w w1 := by rw [← hw1]; exact ((Below.refl _ w).drew).alloc (Nat.le_refl _) _
    have hcells : ∀ k, k < s.size → w1.cell? ⟨w.heap.size, k, none⟩ = some (.int .u8 (byteAt s k : Int)) := by
      intro k hk
      rw [← hw1]
      have := World.cell?_alloc_mark w.drew (bytesRow s (grownCap w s.size 0 5)) 5 ((bytesRow s (grownCap w s.size 0 5)).size, (bytesRow s (grownCap w s.size 0 5)).size + 1) k
      refine this.trans ?_
      rw [bytesRow_at s _ k hk]
      unfold byteAt ByteArray.get!
      simp [hk]
    generalize grownCap w s.size 0 5 = cp at *
    have HCL := Lib.hid hcells
    have HB := Lib.hid hB
    clear hcells hw1 hB
    obtain ⟨n, hn⟩ : ∃ n, s.size = n := ⟨_, rfl⟩
    rw [hn] at hsz h1 h1' hrun
    have HN := Lib.hid hn
    obtain ⟨g, hg⟩ : ∃ g, w.heap.size = g := ⟨_, rfl⟩
    rw [hg] at hrun
    have HG := Lib.hid hg
    have hlen : (s.size : Int) = n := by omega
    clear hn hg
    go_enter Try.func34, Try.ntmps34
    go_wp2_with (first | (go_at_call 51; refine (cd _).mono ?_; rintro e w' ⟨rfl, rfl⟩) | (go_at_call 52; refine (cw _).mono ?_; rintro e w' ⟨rfl, rfl⟩))
    clear hx cd cw hrun
    go_loopg [24] n (fun r i wr => ∃ k : Nat, r = n - k ∧ i = .int .i64 (k : Int) ∧ k ≤ n ∧ wr = w1 ∧ charsB s 0 = charsB s k)
    case atStart => exact ⟨0, rfl, rfl, Nat.zero_le _, rfl, rfl⟩
    case round =>
      obtain ⟨k, rfl, rfl, hk, rfl, hch⟩ := hrel
      have HCH := Lib.hid hch
      clear hch
      by_cases hlt : k < n
      · have hlt' : (k : Int) < n := by omega
        have hc := HCL.out k (by have := HN.out; omega)
        rw [HG.out] at hc
        have hst := chars_step s k (by have := HN.out; omega)
        have HST := Lib.hid hst
        have cl := fun w => own_letter (byteAt s k) w (byteAt_lt s k)
        have cd := fun w => own_digit (byteAt s k) w (byteAt_lt s k)
        clear hst
        generalize letB (byteAt s k) = L at *
        generalize digB (byteAt s k) = D at *
        generalize byteAt s k = b at *
        cases L with
        | true =>
          go_wp2_with (go_at_call 53; refine (cl _).mono ?_; rintro e w' ⟨rfl, rfl⟩)
          go_roundg (n - (k + 1))
          case measure => omega
          case rel => exact ⟨k + 1, rfl, by go_num, by omega, rfl, by rw [HCH.out, HST.out]; rfl⟩
        | false =>
          cases D with
          | true =>
            go_wp2_with (first | (go_at_call 51; refine (cd _).mono ?_; rintro e w' ⟨rfl, rfl⟩) | (go_at_call 53; refine (cl _).mono ?_; rintro e w' ⟨rfl, rfl⟩))
            go_roundg (n - (k + 1))
            case measure => omega
            case rel => exact ⟨k + 1, rfl, by go_num, by omega, rfl, by rw [HCH.out, HST.out]; rfl⟩
          | false =>
            go_wp2_with (first | (go_at_call 51; refine (cd _).mono ?_; rintro e w' ⟨rfl, rfl⟩) | (go_at_call 53; refine (cl _).mono ?_; rintro e w' ⟨rfl, rfl⟩))
            go_ret
            exact ⟨ret_bool (by rw [HZ2.out, HCH.out, HST.out]; rfl), HB.out⟩
      · obtain rfl : k = n := by omega
        have hlt' : ¬ (k : Int) < k := by omega
        go_wp2_with fail
        go_ret
        exact ⟨ret_bool (by rw [HZ2.out, HCH.out, ← HN.out, chars_end]; rfl), HB.out⟩

end Go.Proofs.Ytmddffacjkkeiaa.Nd
