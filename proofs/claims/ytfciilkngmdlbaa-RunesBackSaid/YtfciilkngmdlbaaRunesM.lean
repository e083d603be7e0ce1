/-
  RunesBack: a character that is put as bytes is told back, whatever valid text stands around it.
-/
import Derived.Test.YtfciilkngmdlbaaRunesL
import Derived.Test.YtfciilkngmdlbaaRunesBackMath
namespace Go.Proofs.Ytfciilkngmdlbaa
open Go.RowKit

theorem encode_in (n : Int) (w : World) (h0 : 0 ≤ n) (h1 : n ≤ 2147483647) :
    Calls Try.prog 6 #[.int .i64 n] w fun e w' => e = .returned (.tuple #[.string (encS n), .int .i64 0]) ∧ Below w.heap.size w w' :=
  encode_at n _ _ w rfl (by unfold encE; rw [if_neg (by omega)])

theorem encode_out (n : Int) (w : World) (h : n < 0 ∨ 2147483647 < n) :
    Calls Try.prog 6 #[.int .i64 n] w fun e w' => e = .returned (.tuple #[.string ⟨#[]⟩, .int .i64 10]) ∧ Below w.heap.size w w' :=
  encode_at n _ _ w (by unfold encS; rw [if_pos h]) (by unfold encE; rw [if_pos h])

def Done (w : World) (e : Ending) (w' : World) : Prop := e = .returned (.bool true) ∧ Below w.heap.size w w'

set_option maxRecDepth 100000 in
theorem runesBack_long (n : Int) (a b : ByteArray) (w : World) (h : 3000 < a.size ∨ 3000 < b.size) :
    Calls Try.prog 5 #[.int .i64 n, .string a, .string b] w (Done w) := by
  by_cases ha : (3000 : Int) < a.size
  · clear h
    go_enter Try.func5, Try.ntmps5
    go_wp2_with fail
    refine (awake_any _).mono ?_
    rintro e w1 ⟨rfl, b1⟩
    go_wp2
    go_ret
    exact ⟨rfl, b1⟩
  · have hb : (3000 : Int) < b.size := by omega
    clear h
    go_enter Try.func5, Try.ntmps5
    go_wp2_with fail
    refine (awake_any _).mono ?_
    rintro e w1 ⟨rfl, b1⟩
    go_wp2
    go_ret
    exact ⟨rfl, b1⟩

set_option maxRecDepth 100000 in
theorem runesBack_out (n : Int) (a b : ByteArray) (w : World) (ha : (a.size : Int) ≤ 3000) (hb : (b.size : Int) ≤ 3000) (h : n < 0 ∨ 2147483647 < n) :
    Calls Try.prog 5 #[.int .i64 n, .string a, .string b] w (Done w) := by
  have h' := h
  rcases h with hn | hn
  all_goals
    go_enter Try.func5, Try.ntmps5
    go_wp2_with fail
    refine (encode_out n _ h').mono ?_
    rintro e w1 ⟨rfl, b1⟩
    go_wp2_with fail
    refine (awake_any _).mono ?_
    rintro e w2 ⟨rfl, b2⟩
    go_wp2
    go_ret
    exact ⟨rfl, grew_trans b1 b2⟩

set_option maxRecDepth 100000 in
theorem runesBack_none (n : Int) (a b : ByteArray) (w : World) (ha : (a.size : Int) ≤ 3000) (hb : (b.size : Int) ≤ 3000) (h0 : 0 ≤ n) (h1 : n ≤ 2147483647) (hs : 1114111 < n ∨ 55296 ≤ n ∧ n ≤ 57343) :
    Calls Try.prog 5 #[.int .i64 n, .string a, .string b] w (Done w) := by
  have hv := valid_enc_not n h0 h1 hs
  have hl := encI_len n
  have hz := encS_size n h0 h1
  have hz1 : (1 : Int) ≤ (encS n).size := by omega
  have hz6 : ((encS n).size : Int) ≤ 6 := by omega
  have hsz : (encS n).size ≤ 1000000000 := by omega
  have HV := Lib.hid hv
  clear hv hl hz
  rcases hs with hn | ⟨hn, hn'⟩
  all_goals
    go_enter Try.func5, Try.ntmps5
    go_wp2_with fail
    refine (encode_in n _ h0 h1).mono ?_
    rintro e w1 ⟨rfl, b1⟩
    go_wp2_with fail
    refine (valid_at _ false _ hsz HV.out).mono ?_
    rintro e w2 ⟨rfl, b2⟩
    go_wp2_with fail
    refine (awake_any _).mono ?_
    rintro e w3 ⟨rfl, b3⟩
    go_wp2
    go_ret
    exact ⟨rfl, grew_trans (grew_trans b1 b2) b3⟩

end Go.Proofs.Ytfciilkngmdlbaa
