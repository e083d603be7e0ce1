/-
  Package ints: what Parse stands on, by contracts; package runes: Digit, Space, Hex.
-/
import Derived.Test.YtajeghkmgcpgiaaGreatDoorNumMath
import Derived.Test.YtajeghkmgcpgiaaGreatDoorShelf
import Derived.Lib.ParseIntBCases
import Derived.Lib.AppendIntMem
import Derived.Lib.AtoiErrMem
import Derived.OneCell
import Derived.Deep.DeepCutAuto
import Derived.Deep.CutBlock
import Derived.Deep.LoopGhost
import Derived.Laws.Rows
namespace Go.Proofs.YtajeghkmgcpgiaaGreatDoor.Num
open Go.RowKit

theorem runes_digit (b : Nat) (w : World) (hb : b < 256) :
    Calls Tryz.prog 39 #[.int .u8 b] w fun e w' => e = .returned (.bool (digitB b)) ∧ w = w' := by
  go_enter Tryz.func39, Tryz.ntmps39
  go_wp2
  all_goals
    go_ret
    refine ⟨ret_bool ?_, rfl⟩
    unfold digitB
    rw [Bool.eq_iff_iff]
    first | (simp; done) | (simp; omega)

theorem runes_space (b : Nat) (w : World) (hb : b < 256) :
    Calls Tryz.prog 33 #[.int .u8 b] w fun e w' => e = .returned (.bool (spaceB b)) ∧ w = w' := by
  go_enter Tryz.func33, Tryz.ntmps33
  go_wp2
  all_goals
    go_ret
    refine ⟨ret_bool ?_, rfl⟩
    unfold spaceB
    rw [Bool.eq_iff_iff]
    first | (simp; done) | (simp; omega)

theorem runes_hex (b : Nat) (w : World) (hb : b < 256) :
    Calls Tryz.prog 108 #[.int .u8 b] w fun e w' => e = .returned (.tuple #[.int .i64 (hexV b), .bool (hexB b)]) ∧ w = w' := by
  by_cases h1 : 48 ≤ b ∧ b ≤ 57
  · have e1 : hexV b = (b : Int) - 48 := by unfold hexV; rw [if_pos h1]
    have e2 : hexB b = true := by unfold hexB; rw [decide_eq_true (by omega)]
    have hd : digitB b = true := by unfold digitB; rw [decide_eq_true h1]
    obtain ⟨h1, h2⟩ := h1
    rw [e1, e2]
    clear e1 e2
    go_enter Tryz.func108, Tryz.ntmps108
    go_wp2_with (go_at_call 39; refine (runes_digit _ _ hb).mono ?_; rintro e w' ⟨rfl, rfl⟩)
    go_ret2
    exact ⟨rfl, rfl⟩
  · have hd : digitB b = false := by unfold digitB; rw [decide_eq_false h1]
    by_cases h2 : 97 ≤ b ∧ b ≤ 102
    · have e1 : hexV b = (b : Int) - 97 + 10 := by unfold hexV; rw [if_neg h1, if_pos h2]; omega
      have e2 : hexB b = true := by unfold hexB; rw [decide_eq_true (by omega)]
      obtain ⟨h2, h3⟩ := h2
      rw [e1, e2]
      clear e1 e2 h1
      go_enter Tryz.func108, Tryz.ntmps108
      go_wp2_with (go_at_call 39; refine (runes_digit _ _ hb).mono ?_; rintro e w' ⟨rfl, rfl⟩)
      go_ret2
      exact ⟨rfl, rfl⟩
    · by_cases h3 : 65 ≤ b ∧ b ≤ 70
      · have e1 : hexV b = (b : Int) - 65 + 10 := by unfold hexV; rw [if_neg h1, if_neg h2, if_pos h3]; omega
        have e2 : hexB b = true := by unfold hexB; rw [decide_eq_true (by omega)]
        obtain ⟨h3, h4⟩ := h3
        rw [e1, e2]
        clear e1 e2 h1 h2
        go_enter Tryz.func108, Tryz.ntmps108
        go_wp2_with (go_at_call 39; refine (runes_digit _ _ hb).mono ?_; rintro e w' ⟨rfl, rfl⟩)
        go_ret2
        exact ⟨rfl, rfl⟩
      · have e1 : hexV b = 0 := by unfold hexV; rw [if_neg h1, if_neg h2, if_neg h3]
        have e2 : hexB b = false := by unfold hexB; rw [decide_eq_false (by omega)]
        rw [e1, e2]
        rcases (show b < 65 ∨ 70 < b ∧ b < 97 ∨ 102 < b from by omega) with g | ⟨g, g'⟩ | g
        all_goals
          clear e1 e2 h1 h2 h3
          go_enter Tryz.func108, Tryz.ntmps108
          go_wp2_with (go_at_call 39; refine (runes_digit _ _ hb).mono ?_; rintro e w' ⟨rfl, rfl⟩)
          go_ret2
          exact ⟨rfl, rfl⟩

theorem signed_any (n : Nat) (neg : Bool) (w : World) :
    Calls Tryz.prog 109 #[.int .u64 ((n : Int) % 18446744073709551616), .bool neg] w fun e w' => e = .returned (.int .i64 (signN neg n)) ∧ w = w' := by
  have h0 : 0 ≤ (n : Int) % 18446744073709551616 := by omega
  have hlt : (n : Int) % 18446744073709551616 < 18446744073709551616 := by omega
  have e1 : wrap64 ((n : Int) % 18446744073709551616) = signN false n := by unfold signN wrap64; simp only [Bool.false_eq_true, if_false]; omega
  have e2 : wrap64 (IntKind.u64.wrap (-((n : Int) % 18446744073709551616))) = signN true n := by rw [IntKind.wrap_u64]; unfold signN wrap64; simp only [if_true]; omega
  have E1 := Lib.hid e1
  have E2 := Lib.hid e2
  clear e1 e2
  generalize (n : Int) % 18446744073709551616 = m at *
  cases neg
  · go_enter Tryz.func109, Tryz.ntmps109
    go_wp2
    go_ret
    exact ⟨ret_i64 E1.out, rfl⟩
  · go_enter Tryz.func109, Tryz.ntmps109
    go_wp2
    go_ret
    exact ⟨ret_i64 E2.out, rfl⟩

set_option maxHeartbeats 1000000 in
theorem hexadecimal_any (s : ByteArray) (neg : Bool) (w : World) (hs : s.size ≤ 1000000000) :
    Calls Tryz.prog 87 #[.string s, .bool neg] w fun e w' => e = .returned (.tuple #[.int .i64 (hexOf s.data.toList neg).1, .bool (hexOf s.data.toList neg).2]) ∧ w = w' := by
  go_enter Tryz.func87, Tryz.ntmps87
  go_wp2
  go_loop [6, 12] (fun n i => ∃ (k a : Nat), k ≤ s.size ∧ i = .int .i64 k ∧ n = .int .u64 ((a : Int) % 18446744073709551616) ∧ hexN (s.data.toList.drop k) a = hexN s.data.toList 0) (fun _ i => s.size - (intOf i).toNat)
  case atStart => exact ⟨0, 0, by omega, rfl, rfl, rfl⟩
  case round =>
    obtain ⟨k, a, hk, rfl, rfl, ha⟩ := hrel
    have HA := Lib.hid ha
    clear ha
    by_cases hlt : k < s.size
    · have hlt' : (k : Int) < s.size := by omega
      have hx := run_index_at (P := Tryz.prog) 9 s (k : Int) k Tryz.underlying9 hlt rfl
      have hbl := byteAt_lt s k
      have hyes := hexN_yes (a := a) hlt
      have hno := hexN_no (a := a) hlt
      have hvr := hexV_range (byteAt s k)
      have hc := fun w => runes_hex (byteAt s k) w hbl
      generalize byteAt s k = b at *
      generalize hexB b = t at *
      obtain ⟨v, hv⟩ : ∃ v : Nat, hexV b = v := ⟨(hexV b).toNat, by omega⟩
      rw [hv] at hc hyes
      rw [Int.toNat_natCast] at hyes
      have hv15 : v ≤ 15 := by omega
      have ho := or_hex a v hv15
      clear hv hvr
      cases t
      · have HN := Lib.hid ((hno rfl).symm.trans HA.out)
        clear hyes hno ho
        go_wp2_with fail
        refine (hc _).mono ?_
        rintro e w1 ⟨rfl, rfl⟩
        go_wp2
        go_ret2
        refine ⟨ret_ib ?_ ?_, rfl⟩
        · rw [hexOf_none _ HN.out]
        · rw [hexOf_none _ HN.out]
      · have HN := Lib.hid ((hyes rfl).symm.trans HA.out)
        clear hyes hno
        have HO := Lib.hid ho
        clear ho
        go_wp2_with fail
        refine (hc _).mono ?_
        rintro e w1 ⟨rfl, rfl⟩
        go_wp2
        go_round
        case rel => exact ⟨k + 1, a * 16 + v, by omega, by go_num, by rw [HO.out], HN.out⟩
        case measure => simp only [intOf]; omega
    · obtain rfl : k = s.size := by omega
      have HN := Lib.hid ((hexN_end s a).symm.trans HA.out)
      have he := Lib.hid (empty_iff s)
      go_wp2_with fail
      refine (signed_any a neg _).mono ?_
      rintro e w1 ⟨rfl, rfl⟩
      go_wp2
      go_ret2
      refine ⟨ret_ib ?_ ?_, rfl⟩
      · rw [hexOf_some _ HN.out]
      · rw [hexOf_some _ HN.out, ByteArray.toList_eq]


/-- What the library's variables hold: the table of powers, the two errors. -/
structure Vars (w : World) : Prop where
  tab : Lib.TabIs Tryz.prog w "internal/strconv.uint64pow10" .u64 Lib.pow10Tab
  bad : ∃ t p, w.var? Tryz.prog "strconv.ErrSyntax" = some #[.iface t p]
  far : ∃ t p, w.var? Tryz.prog "strconv.ErrRange" = some #[.iface t p]

theorem var_below {w w' : World} {n : String} {cs : Array Value} (hb : Below w.heap.size w w') (h : w.var? Tryz.prog n = some cs) : w'.var? Tryz.prog n = some cs := by
  unfold World.var? at h ⊢
  cases hg : Tryz.prog.globalNamed n with
  | none => simp [hg] at h
  | some g =>
    simp only [hg, Option.bind_some] at h ⊢
    have hlt : g < w.heap.size := by
      rcases Nat.lt_or_ge g w.heap.size with h' | h'
      · exact h'
      · simp [Array.getElem?_eq_none h'] at h
    rw [hb.block g hlt]
    exact h

theorem Vars.below {w w' : World} (h : Vars w) (hb : Below w.heap.size w w') : Vars w' := by
  obtain ⟨h1, ⟨t, p, h2⟩, ⟨t', p', h3⟩⟩ := h
  exact ⟨var_below hb h1, ⟨t, p, var_below hb h2⟩, ⟨t', p', var_below hb h3⟩⟩

theorem grew_trans {a b c : World} (h : Below a.heap.size a b) (k : Below b.heap.size b c) : Below a.heap.size a c := h.trans (k.mono h.size)
theorem grew_alloc {a b : World} (h : Below a.heap.size a b) (o : Obj) : Below a.heap.size a (b.alloc o) := h.alloc h.size o

def DecSays (l : List UInt8) (neg : Bool) (w : World) (e : Ending) (w' : World) : Prop := e = .returned (.tuple #[.int .i64 (decOf l neg).1, .bool (decOf l neg).2]) ∧ Below w.heap.size w w'
theorem dec_at {l : List UInt8} {neg : Bool} {w w' : World} {a : Int} {b : Bool} (h : decOf l neg = (a, b)) (hb : Below w.heap.size w w') : DecSays l neg w (.returned (.tuple #[.int .i64 a, .bool b])) w' := by
  rw [DecSays, h]; exact ⟨rfl, hb⟩

/-- strconv.ParseUint, however it ends. -/
def UintSays (l : List UInt8) (w : World) (e : Ending) (w' : World) : Prop :=
  Below w.heap.size w w' ∧ ((∃ u : Nat, Lib.parseMag l = .ok u ∧ u < 18446744073709551616 ∧ e = .returned (.tuple #[.int .u64 u, .nilIface])) ∨ (∃ (x : Int) (t : TypeId) (p : Value), (∀ u, Lib.parseMag l ≠ .ok u) ∧ e = .returned (.tuple #[.int .u64 x, .iface t p])))

def UintFails (s : ByteArray) (w : World) (x : Value) (t : TypeId) (p : Value) : Prop :=
  Calls Tryz.prog 110 #[.string s, .int .i64 10, .int .i64 64] w fun e w' => ∃ N, e = .returned (.tuple #[x, .iface 137 (.pointer (some ⟨N, 0, none⟩))]) ∧ w.heap.size ≤ N ∧
    w'.heap[N]? = some (.cells #[.string ⟨#[80, 97, 114, 115, 101, 85, 105, 110, 116]⟩, .string s, .iface t p] 145 (0, 0)) ∧ Below w.heap.size w w'

theorem uint_any (s : ByteArray) (w : World) (hs : s.size ≤ 1000000000) (hv : Vars w) :
    Calls Tryz.prog 110 #[.string s, .int .i64 10, .int .i64 64] w (UintSays s.data.toList w) := by
  have he := Lib.parseUintB_64 s.data.toList
  cases h : Lib.parseMag s.data.toList with
  | ok u =>
    refine (Tryz.strconv_ParseUint_10_at64_ok s (by omega) u (he.trans h) w).mono ?_
    rintro e w' ⟨rfl, h'⟩
    refine ⟨?_, .inl ⟨u, h, Lib.parseMag_lt h, rfl⟩⟩
    rcases h' with rfl | rfl
    · exact Below.refl _ _
    · exact Lib.bytesWorld_below _ _ _
  | range =>
    obtain ⟨t, p, hp⟩ := hv.far
    have c : UintFails s w (.int .u64 18446744073709551615) t p := Any.strconv_ParseUint_10_at64_range_var Tryz.laysPu14 s (by omega) (he.trans h) t p w hp
    refine Calls.mono c ?_
    rintro e w' ⟨N, rfl, _, _, hb⟩
    exact ⟨hb, .inr ⟨_, _, _, fun u g => (by rw [h] at g; cases g), rfl⟩⟩
  | _ =>
    obtain ⟨t, p, hp⟩ := hv.bad
    have c : UintFails s w (.int .u64 0) t p := Any.strconv_ParseUint_10_at64_syntax_var Tryz.laysPu14 s (by omega) (he.trans h) t p w hp
    refine Calls.mono c ?_
    rintro e w' ⟨N, rfl, _, _, hb⟩
    exact ⟨hb, .inr ⟨_, _, _, fun u g => (by rw [h] at g; cases g), rfl⟩⟩

set_option maxHeartbeats 1000000 in
theorem decimal_any (s : ByteArray) (neg : Bool) (w : World) (hs : s.size ≤ 1000000000) (hv : Vars w) :
    Calls Tryz.prog 88 #[.string s, .bool neg] w (DecSays s.data.toList neg w) := by
  have c := uint_any s w hs hv
  cases neg
  · go_enter Tryz.func88, Tryz.ntmps88
    go_wp2_with fail
    refine c.mono ?_
    rintro e w1 ⟨hb, ⟨u, hu, hlt, rfl⟩ | ⟨x, t, p, hn, rfl⟩⟩
    · have HU := Lib.hid (decOf_ok false hu)
      have HB := Lib.hid hb
      clear hu hb c
      by_cases hm : (9223372036854775807 : Int) < u
      · go_wp2
        go_ret2
        exact dec_at (by rw [HU.out, if_pos (by rw [show decMost false = 9223372036854775807 from rfl]; omega)]) HB.out
      · have e : (u : Int) = (u : Int) % 18446744073709551616 := by omega
        have s1 := signed_any u false w1
        rw [← e] at s1
        clear e
        go_wp2_with fail
        refine s1.mono ?_
        rintro e w2 ⟨rfl, rfl⟩
        go_wp2
        go_ret2
        exact dec_at (by rw [HU.out, if_neg (by rw [show decMost false = 9223372036854775807 from rfl]; omega)]) HB.out
    · have HN := Lib.hid hn
      have HB := Lib.hid hb
      clear hn hb c
      go_wp2
      go_ret2
      exact dec_at (decOf_no _ HN.out) HB.out
  · go_enter Tryz.func88, Tryz.ntmps88
    go_wp2_with fail
    refine c.mono ?_
    rintro e w1 ⟨hb, ⟨u, hu, hlt, rfl⟩ | ⟨x, t, p, hn, rfl⟩⟩
    · have HU := Lib.hid (decOf_ok true hu)
      have HB := Lib.hid hb
      clear hu hb c
      by_cases hm : (9223372036854775808 : Int) < u
      · go_wp2
        go_ret2
        exact dec_at (by rw [HU.out, if_pos (by rw [show decMost true = 9223372036854775808 from rfl]; omega)]) HB.out
      · have e : (u : Int) = (u : Int) % 18446744073709551616 := by omega
        have s1 := signed_any u true w1
        rw [← e] at s1
        clear e
        go_wp2_with fail
        refine s1.mono ?_
        rintro e w2 ⟨rfl, rfl⟩
        go_wp2
        go_ret2
        exact dec_at (by rw [HU.out, if_neg (by rw [show decMost true = 9223372036854775808 from rfl]; omega)]) HB.out
    · have HN := Lib.hid hn
      have HB := Lib.hid hb
      clear hn hb c
      go_wp2
      go_ret2
      exact dec_at (decOf_no _ HN.out) HB.out

/-! ### The three variables of Parse -/
structure Boxes (s : ByteArray) (w0 : World) (g h i j : Nat) (W : World) : Prop where
  below : Below w0.heap.size w0 W
  text : W.heap[w0.heap.size]? = some (.cells #[.string s] 9 (0, 0))
  lo : W.heap[g]? = some (.cells #[.int .i64 (i : Int)] 3 (0, 0))
  hi : W.heap[h]? = some (.cells #[.int .i64 (j : Int)] 3 (0, 0))
  gl : w0.heap.size < g
  hl : w0.heap.size < h
  ne : g ≠ h

theorem Boxes.setLo {s : ByteArray} {w0 : World} {g h i j : Nat} {W : World} (b : Boxes s w0 g h i j W) (i' : Nat) (x : Value) (hx : x = .int .i64 (i' : Int)) : Boxes s w0 g h i' j (W.setCell ⟨g, 0, none⟩ x) := by
  subst hx
  exact ⟨b.below.setCell (Nat.le_of_lt b.gl) _, by rw [Below.heap_setCell _ _ _ _ (Nat.ne_of_lt b.gl)]; exact b.text, one_setCell b.lo,
    by rw [Below.heap_setCell _ _ _ _ (Ne.symm b.ne)]; exact b.hi, b.gl, b.hl, b.ne⟩
theorem Boxes.setHi {s : ByteArray} {w0 : World} {g h i j : Nat} {W : World} (b : Boxes s w0 g h i j W) (j' : Nat) (x : Value) (hx : x = .int .i64 (j' : Int)) : Boxes s w0 g h i j' (W.setCell ⟨h, 0, none⟩ x) := by
  subst hx
  exact ⟨b.below.setCell (Nat.le_of_lt b.hl) _, by rw [Below.heap_setCell _ _ _ _ (Nat.ne_of_lt b.hl)]; exact b.text,
    by rw [Below.heap_setCell _ _ _ _ b.ne]; exact b.lo, one_setCell b.hi, b.gl, b.hl, b.ne⟩

set_option maxHeartbeats 400000 in
theorem left_any (s : ByteArray) (w0 : World) (g h i j : Nat) (W : World) (b : Boxes s w0 g h i j W) (hij : i ≤ j) (hj : j ≤ s.size) :
    Calls Tryz.prog 86 #[.pointer (some ⟨w0.heap.size, 0, none⟩), .pointer (some ⟨g, 0, none⟩), .pointer (some ⟨h, 0, none⟩)] W fun e w' => e = .returned (.string (s.extract i j)) ∧ W = w' := by
  have c1 := cell_of_one b.text
  have c2 := cell_of_one b.lo
  have c3 := cell_of_one b.hi
  have hx := run_slice_at (P := Tryz.prog) 9 s (i : Int) (j : Int) i j Tryz.underlying9 hij hj rfl rfl
  clear b
  go_enter Tryz.func86, Tryz.ntmps86
  go_wp2
  go_ret
  exact ⟨rfl, rfl⟩

theorem prefix_any (s p : ByteArray) (w : World) :
    Calls Tryz.prog 35 #[.string s, .string p] w fun e w' => e = .returned (.bool (Lib.hasPrefix s.data.toList p.data.toList)) ∧ w = w' :=
  (Tryz.strings_HasPrefix s p w).mono fun _ _ ⟨h, h'⟩ => ⟨h, h'.symm⟩


def ParseSays (s : ByteArray) (w : World) (e : Ending) (w' : World) : Prop := e = .returned (.tuple #[.int .i64 (parseOf s).1, .bool (parseOf s).2]) ∧ Below w.heap.size w w'

theorem boxes_one (s : ByteArray) (w : World) (n : Nat) :
    Boxes s w (w.heap.size + 1) (w.heap.size + 1 + 1) 0 n (((w.alloc (.cells #[.string s] 9)).alloc (.cells #[.int .i64 0] 3)).alloc (.cells #[.int .i64 (n : Int)] 3)).drew := by
  refine ⟨((((Below.refl _ _).alloc (Nat.le_refl _) _).alloc (by simp) _).alloc (by simp; omega) _).drew, ?_, ?_, ?_, by omega, by omega, by omega⟩
  · show (((w.alloc (.cells #[.string s] 9)).alloc (.cells #[.int .i64 0] 3)).alloc (.cells #[.int .i64 (n : Int)] 3)).heap[_]? = _
    rw [Below.heap_alloc _ _ _ (by simp; omega), heap_alloc2_old]
  · show (((w.alloc (.cells #[.string s] 9)).alloc (.cells #[.int .i64 0] 3)).alloc (.cells #[.int .i64 (n : Int)] 3)).heap[_]? = _
    exact (Below.heap_alloc _ _ _ (by simp)).trans (heap_alloc2_new _ _ _)
  · show (((w.alloc (.cells #[.string s] 9)).alloc (.cells #[.int .i64 0] 3)).alloc (.cells #[.int .i64 (n : Int)] 3)).heap[_]? = _
    have := heap_alloc_new ((w.alloc (.cells #[.string s] 9)).alloc (.cells #[.int .i64 0] 3)) (.cells #[.int .i64 (n : Int)] 3)
    simp only [World.size_alloc] at this
    exact this
theorem boxes_two (s : ByteArray) (w : World) (n : Nat) :
    Boxes s w (w.heap.size + 1 + 1) (w.heap.size + 1) 0 n (((w.alloc (.cells #[.string s] 9)).alloc (.cells #[.int .i64 (n : Int)] 3)).alloc (.cells #[.int .i64 0] 3)).drew := by
  refine ⟨((((Below.refl _ _).alloc (Nat.le_refl _) _).alloc (by simp) _).alloc (by simp; omega) _).drew, ?_, ?_, ?_, by omega, by omega, by omega⟩
  · show (((w.alloc (.cells #[.string s] 9)).alloc (.cells #[.int .i64 (n : Int)] 3)).alloc (.cells #[.int .i64 0] 3)).heap[_]? = _
    rw [Below.heap_alloc _ _ _ (by simp; omega), heap_alloc2_old]
  · show (((w.alloc (.cells #[.string s] 9)).alloc (.cells #[.int .i64 (n : Int)] 3)).alloc (.cells #[.int .i64 0] 3)).heap[_]? = _
    have := heap_alloc_new ((w.alloc (.cells #[.string s] 9)).alloc (.cells #[.int .i64 (n : Int)] 3)) (.cells #[.int .i64 0] 3)
    simp only [World.size_alloc] at this
    exact this
  · show (((w.alloc (.cells #[.string s] 9)).alloc (.cells #[.int .i64 (n : Int)] 3)).alloc (.cells #[.int .i64 0] 3)).heap[_]? = _
    exact (Below.heap_alloc _ _ _ (by simp)).trans (heap_alloc2_new _ _ _)

theorem parse_of {s : ByteArray} {x : Int × Bool} {w w' : World} (h : parseOf s = x) (hb : Below w.heap.size w w') : ParseSays s w (.returned (.tuple #[.int .i64 x.1, .bool x.2])) w' := by
  subst h; exact ⟨rfl, hb⟩

theorem prefix_neg (s : ByteArray) (lo hi : Nat) (h : hi ≤ s.size) (w : World) :
    Calls Tryz.prog 35 #[.string (s.extract lo hi), .string ⟨#[45]⟩] w fun e w' => e = .returned (.bool (negAt s lo hi)) ∧ w = w' := by
  have := prefix_any (s.extract lo hi) ⟨#[45]⟩ w
  rwa [show (ByteArray.mk #[45]).data.toList = [45] from rfl, prefix1 h] at this
theorem prefix_plus (s : ByteArray) (lo hi : Nat) (h : hi ≤ s.size) (w : World) :
    Calls Tryz.prog 35 #[.string (s.extract lo hi), .string ⟨#[43]⟩] w fun e w' => e = .returned (.bool (plusAt s lo hi)) ∧ w = w' := by
  have := prefix_any (s.extract lo hi) ⟨#[43]⟩ w
  rwa [show (ByteArray.mk #[43]).data.toList = [43] from rfl, prefix1 h] at this
theorem prefix_low (s : ByteArray) (lo hi : Nat) (h : hi ≤ s.size) (w : World) :
    Calls Tryz.prog 35 #[.string (s.extract lo hi), .string ⟨#[48, 120]⟩] w fun e w' => e = .returned (.bool (lowX s lo hi)) ∧ w = w' := by
  have := prefix_any (s.extract lo hi) ⟨#[48, 120]⟩ w
  rwa [show (ByteArray.mk #[48, 120]).data.toList = [48, 120] from rfl, prefix2 h] at this
theorem prefix_big (s : ByteArray) (lo hi : Nat) (h : hi ≤ s.size) (w : World) :
    Calls Tryz.prog 35 #[.string (s.extract lo hi), .string ⟨#[48, 88]⟩] w fun e w' => e = .returned (.bool (bigX s lo hi)) ∧ w = w' := by
  have := prefix_any (s.extract lo hi) ⟨#[48, 88]⟩ w
  rwa [show (ByteArray.mk #[48, 88]).data.toList = [48, 88] from rfl, prefix2 h] at this

theorem lowX_lt {s : ByteArray} {p hi : Nat} (h : lowX s p hi = true) : p + 2 ≤ hi := by
  unfold lowX at h; simp at h; omega
theorem bigX_lt {s : ByteArray} {p hi : Nat} (h : bigX s p hi = true) : p + 2 ≤ hi := by
  unfold bigX at h; simp at h; omega
theorem negAt_lt {s : ByteArray} {p hi : Nat} (h : negAt s p hi = true) : p + 1 ≤ hi := by
  unfold negAt at h; simp at h; omega
theorem plusAt_lt {s : ByteArray} {p hi : Nat} (h : plusAt s p hi = true) : p + 1 ≤ hi := by
  unfold plusAt at h; simp at h; omega
theorem rest_low {s : ByteArray} {p hi : Nat} (neg : Bool) (h : lowX s p hi = true) : restOf s p hi neg = hexOf (s.extract (p + 2) hi).data.toList neg := by
  rw [restOf, h, Bool.true_or, if_pos rfl]
theorem rest_big {s : ByteArray} {p hi : Nat} (neg : Bool) (h : bigX s p hi = true) : restOf s p hi neg = hexOf (s.extract (p + 2) hi).data.toList neg := by
  rw [restOf, h, Bool.or_true, if_pos rfl]
theorem rest_no {s : ByteArray} {p hi : Nat} (neg : Bool) (h : lowX s p hi = false) (h' : bigX s p hi = false) : restOf s p hi neg = decOf (s.extract p hi).data.toList neg := by
  rw [restOf, h, h', Bool.or_false, if_neg (by decide)]

end Go.Proofs.YtajeghkmgcpgiaaGreatDoor.Num
