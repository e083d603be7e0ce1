/-
  The laws' helpers: says, awake.
-/
import Derived.Test.YtmioidbffnjoiaaDoorTextsOwn
namespace Go.Proofs.YtmioidbffnjoiaaDoor
open Go.RowKit

theorem quote_is (s t : ByteArray) (w : World) (hs : s.size ≤ 100000000) (h : quoteT s.data.toList = t) :
    Calls Tryd.prog 10 #[.string s] w fun e w' => e = .returned (.string t) ∧ Below w.heap.size w w' := by
  have := own_quote s w hs
  rwa [h] at this
theorem unq_is (s t : ByteArray) (k : Int) (w : World) (hs : s.size ≤ 100000000) (h : unqT s.data.toList = t) (hk : unqE s.data.toList = k) :
    Calls Tryd.prog 7 #[.string s] w fun e w' => e = .returned (.tuple #[.string t, .int .i64 k]) ∧ Below w.heap.size w w' := by
  have := own_unquote s w hs
  unfold UnqIs at this
  rwa [h, hk] at this
theorem cmpt_is (a b : ByteArray) (k : Int) (w : World) (ha : a.size ≤ 1000000000) (hb : b.size ≤ 1000000000) (h : cmpL a.data.toList b.data.toList = k) :
    Calls Tryd.prog 11 #[.string a, .string b] w fun e w' => e = .returned (.int .i64 k) ∧ Below w.heap.size w w' := by
  have := own_compare a b w ha hb
  unfold CmpIs at this
  rwa [h] at this
theorem long_is (s t : ByteArray) (k : Bool) (w : World) (hs : s.size ≤ 100000000) (h : longV s.data.toList = t) (hk : longO s.data.toList = k) :
    Calls Tryd.prog 9 #[.string s] w fun e w' => e = .returned (.tuple #[.string t, .bool k]) ∧ Below w.heap.size w w' := by
  have := own_long s w hs
  unfold LongIs at this
  rwa [h, hk] at this

set_option maxHeartbeats 400000 in
theorem says_yes (s t : ByteArray) (w : World) (hs : s.size ≤ 100000000) (h : unqT s.data.toList = t) (hk : unqE s.data.toList = 0) :
    Calls Tryd.prog 8 #[.string s, .string t] w fun e w' => e = .returned (.bool true) ∧ Below w.heap.size w w' := by
  have c := fun w => unq_is s t 0 w hs h hk
  clear h hk
  go_enter Tryd.func8, Tryd.ntmps8
  go_wp2_with fail
  refine (c _).mono ?_
  rintro e w1 ⟨rfl, b1⟩
  go_wp2
  go_ret
  exact ⟨rfl, b1⟩

theorem trans_below {w w1 w2 : World} (h : Below w.heap.size w w1) (h2 : Below w1.heap.size w1 w2) : Below w.heap.size w w2 := h.trans (h2.mono h.size)

set_option maxHeartbeats 1000000 in
theorem awake_texts (w : World) : Calls Tryd.prog 12 #[] w fun e w' => e = .returned (.bool true) ∧ Below w.heap.size w w' := by
  have c1 := fun w => long_is ⟨#[97, 93, 93, 98]⟩ ⟨#[91, 61, 91, 10, 97, 93, 93, 98, 93, 61, 93]⟩ true w (by decide) (by decide +kernel) (by decide +kernel)
  have c2 := fun w => quote_is ⟨#[97, 34, 98, 10, 0]⟩ ⟨#[34, 97, 92, 34, 98, 92, 110, 92, 48, 48, 48, 34]⟩ w (by decide) (by decide +kernel)
  have c3 := fun w => says_yes ⟨#[39, 92, 54, 53, 92, 120, 52, 50, 92, 117, 123, 52, 51, 125, 92, 122, 32, 32, 68, 39]⟩ ⟨#[65, 66, 67, 68]⟩ w (by decide) (by decide +kernel) (by decide +kernel)
  have c4 := fun w => cmpt_is ⟨#[97]⟩ ⟨#[97, 98]⟩ (-1) w (by decide) (by decide) (by decide +kernel)
  go_enter Tryd.func12, Tryd.ntmps12
  go_wp2_with fail
  refine (c1 _).mono ?_
  rintro e w1 ⟨rfl, b1⟩
  go_wp2_with fail
  refine (c2 _).mono ?_
  rintro e w2 ⟨rfl, b2⟩
  go_wp2_with fail
  refine (c3 _).mono ?_
  rintro e w3 ⟨rfl, b3⟩
  go_wp2_with fail
  refine (c4 _).mono ?_
  rintro e w4 ⟨rfl, b4⟩
  go_wp2_with fail
  go_ret
  exact ⟨rfl, trans_below (trans_below (trans_below b1 b2) b3) b4⟩

end Go.Proofs.YtmioidbffnjoiaaDoor
