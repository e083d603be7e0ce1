/-
  Decimal digits in package ints; what the library's variables hold.
-/
import Derived.Test.YtboclbmankbngaaDoorIntsE
import Derived.Test.YtboclbmankbngaaDoorShelf
import Derived.Lib.ParseIntBCases
import Derived.Lib.AppendIntMem
import Derived.Lib.AtoiErrMem
namespace Go.Proofs.YtboclbmankbngaaDoor
open Go.RowKit

/-- What the library's variables hold: the table of powers, the two errors. -/
structure Vars (w : World) : Prop where
  tab : Lib.TabIs Tryd.prog w "internal/strconv.uint64pow10" .u64 Lib.pow10Tab
  bad : ∃ t p, w.var? Tryd.prog "strconv.ErrSyntax" = some #[.iface t p]
  far : ∃ t p, w.var? Tryd.prog "strconv.ErrRange" = some #[.iface t p]

theorem var_below {w w' : World} {n : String} {cs : Array Value} (hb : Below w.heap.size w w') (h : w.var? Tryd.prog n = some cs) : w'.var? Tryd.prog n = some cs := by
  unfold World.var? at h ⊢
  cases hg : Tryd.prog.globalNamed n with
  | none => simp [hg] at h
  | some g =>
    simp only [hg, Option.bind_some] at h ⊢
    have hlt : g < w.heap.size := by
      rcases Nat.lt_or_ge g w.heap.size with h' | h'
      · exact h'
      · simp [Array.getElem?_eq_none h'] at h
    rw [hb.block g hlt]
    exact h

theorem Vars.below {w w' : World} (h : Vars w) (hb : Below w.heap.size w w') : Vars w' := by
  obtain ⟨h1, ⟨t, p, h2⟩, ⟨t', p', h3⟩⟩ := h
  exact ⟨var_below hb h1, ⟨t, p, var_below hb h2⟩, ⟨t', p', var_below hb h3⟩⟩

theorem grew_trans {a b c : World} (h : Below a.heap.size a b) (k : Below b.heap.size b c) : Below a.heap.size a c := h.trans (k.mono h.size)
theorem grew_alloc {a b : World} (h : Below a.heap.size a b) (o : Obj) : Below a.heap.size a (b.alloc o) := h.alloc h.size o

/-- What decimal digits with a sign say. -/
def decMost (neg : Bool) : Nat := if neg then 9223372036854775808 else 9223372036854775807
def decOf (l : List UInt8) (neg : Bool) : Int × Bool :=
  match Lib.parseMag l with
  | .ok u => if decMost neg < u then (0, false) else (signN neg u, true)
  | _ => (0, false)
theorem decOf_ok {l : List UInt8} {u : Nat} (neg : Bool) (h : Lib.parseMag l = .ok u) : decOf l neg = if decMost neg < u then (0, false) else (signN neg u, true) := by rw [decOf, h]

def DecSays (l : List UInt8) (neg : Bool) (w : World) (e : Ending) (w' : World) : Prop := e = .returned (.tuple #[.int .i64 (decOf l neg).1, .bool (decOf l neg).2]) ∧ Below w.heap.size w w'
theorem dec_at {l : List UInt8} {neg : Bool} {w w' : World} {a : Int} {b : Bool} (h : decOf l neg = (a, b)) (hb : Below w.heap.size w w') : DecSays l neg w (.returned (.tuple #[.int .i64 a, .bool b])) w' := by
  rw [DecSays, h]; exact ⟨rfl, hb⟩

/-- strconv.ParseUint, however it ends. -/
def UintSays (l : List UInt8) (w : World) (e : Ending) (w' : World) : Prop :=
  Below w.heap.size w w' ∧ ((∃ u : Nat, Lib.parseMag l = .ok u ∧ u < 18446744073709551616 ∧ e = .returned (.tuple #[.int .u64 u, .nilIface])) ∨ (∃ (x : Int) (t : TypeId) (p : Value), (∀ u, Lib.parseMag l ≠ .ok u) ∧ e = .returned (.tuple #[.int .u64 x, .iface t p])))

def UintFails (s : ByteArray) (w : World) (x : Value) (t : TypeId) (p : Value) : Prop :=
  Calls Tryd.prog 41 #[.string s, .int .i64 10, .int .i64 64] w fun e w' => ∃ N, e = .returned (.tuple #[x, .iface 78 (.pointer (some ⟨N, 0, none⟩))]) ∧ w.heap.size ≤ N ∧
    w'.heap[N]? = some (.cells #[.string ⟨#[80, 97, 114, 115, 101, 85, 105, 110, 116]⟩, .string s, .iface t p] 84 (0, 0)) ∧ Below w.heap.size w w'

theorem uint_any (s : ByteArray) (w : World) (hs : s.size ≤ 1000000000) (hv : Vars w) :
    Calls Tryd.prog 41 #[.string s, .int .i64 10, .int .i64 64] w (UintSays s.data.toList w) := by
  have he := Lib.parseUintB_64 s.data.toList
  cases h : Lib.parseMag s.data.toList with
  | ok u =>
    refine (Tryd.strconv_ParseUint_10_at64_ok s (by omega) u (he.trans h) w).mono ?_
    rintro e w' ⟨rfl, h'⟩
    refine ⟨?_, .inl ⟨u, h, Lib.parseMag_lt h, rfl⟩⟩
    rcases h' with rfl | rfl
    · exact Below.refl _ _
    · exact Lib.bytesWorld_below _ _ _
  | range =>
    obtain ⟨t, p, hp⟩ := hv.far
    have c : UintFails s w (.int .u64 18446744073709551615) t p := Any.strconv_ParseUint_10_at64_range_var Tryd.laysPu14 s (by omega) (he.trans h) t p w hp
    refine Calls.mono c ?_
    rintro e w' ⟨N, rfl, _, _, hb⟩
    exact ⟨hb, .inr ⟨_, _, _, fun u g => (by rw [h] at g; cases g), rfl⟩⟩
  | _ =>
    obtain ⟨t, p, hp⟩ := hv.bad
    have c : UintFails s w (.int .u64 0) t p := Any.strconv_ParseUint_10_at64_syntax_var Tryd.laysPu14 s (by omega) (he.trans h) t p w hp
    refine Calls.mono c ?_
    rintro e w' ⟨N, rfl, _, _, hb⟩
    exact ⟨hb, .inr ⟨_, _, _, fun u g => (by rw [h] at g; cases g), rfl⟩⟩

theorem decOf_no {l : List UInt8} (neg : Bool) (h : ∀ u, Lib.parseMag l ≠ .ok u) : decOf l neg = (0, false) := by
  unfold decOf
  split
  · rename_i u hu; exact absurd hu (h u)
  · rfl

set_option maxHeartbeats 1000000 in
theorem decimal_any (s : ByteArray) (neg : Bool) (w : World) (hs : s.size ≤ 1000000000) (hv : Vars w) :
    Calls Tryd.prog 31 #[.string s, .bool neg] w (DecSays s.data.toList neg w) := by
  have c := uint_any s w hs hv
  cases neg
  · go_enter Tryd.func31, Tryd.ntmps31
    go_wp2_with fail
    refine c.mono ?_
    rintro e w1 ⟨hb, ⟨u, hu, hlt, rfl⟩ | ⟨x, t, p, hn, rfl⟩⟩
    · have HU := Lib.hid (decOf_ok false hu)
      have HB := Lib.hid hb
      clear hu hb c
      by_cases hm : (9223372036854775807 : Int) < u
      · go_wp2
        go_ret2
        exact dec_at (by rw [HU.out, if_pos (by rw [show decMost false = 9223372036854775807 from rfl]; omega)]) HB.out
      · have e : (u : Int) = (u : Int) % 18446744073709551616 := by omega
        have s1 := signed_any u false w1
        rw [← e] at s1
        clear e
        go_wp2_with fail
        refine s1.mono ?_
        rintro e w2 ⟨rfl, rfl⟩
        go_wp2
        go_ret2
        exact dec_at (by rw [HU.out, if_neg (by rw [show decMost false = 9223372036854775807 from rfl]; omega)]) HB.out
    · have HN := Lib.hid hn
      have HB := Lib.hid hb
      clear hn hb c
      go_wp2
      go_ret2
      exact dec_at (decOf_no _ HN.out) HB.out
  · go_enter Tryd.func31, Tryd.ntmps31
    go_wp2_with fail
    refine c.mono ?_
    rintro e w1 ⟨hb, ⟨u, hu, hlt, rfl⟩ | ⟨x, t, p, hn, rfl⟩⟩
    · have HU := Lib.hid (decOf_ok true hu)
      have HB := Lib.hid hb
      clear hu hb c
      by_cases hm : (9223372036854775808 : Int) < u
      · go_wp2
        go_ret2
        exact dec_at (by rw [HU.out, if_pos (by rw [show decMost true = 9223372036854775808 from rfl]; omega)]) HB.out
      · have e : (u : Int) = (u : Int) % 18446744073709551616 := by omega
        have s1 := signed_any u true w1
        rw [← e] at s1
        clear e
        go_wp2_with fail
        refine s1.mono ?_
        rintro e w2 ⟨rfl, rfl⟩
        go_wp2
        go_ret2
        exact dec_at (by rw [HU.out, if_neg (by rw [show decMost true = 9223372036854775808 from rfl]; omega)]) HB.out
    · have HN := Lib.hid hn
      have HB := Lib.hid hb
      clear hn hb c
      go_wp2
      go_ret2
      exact dec_at (decOf_no _ HN.out) HB.out

end Go.Proofs.YtboclbmankbngaaDoor
