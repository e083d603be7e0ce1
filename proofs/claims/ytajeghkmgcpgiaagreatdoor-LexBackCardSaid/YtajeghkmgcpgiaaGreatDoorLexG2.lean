/-
  twinstepref04.one: numerals, long brackets, quotes, signs, by contracts.
-/
import Derived.Test.YtajeghkmgcpgiaaGreatDoorLexG
import Derived.Test.YtajeghkmgcpgiaaGreatDoorTextsF
namespace Go.Proofs.YtajeghkmgcpgiaaGreatDoor.Lex
open Go.RowKit

theorem numRun_le (hex : Bool) : ∀ (l : List UInt8) (L : Nat), numRun hex L l ≤ l.length
  | [], _ => Nat.le_refl 0
  | c :: r, L => by
    have := numRun_le hex r c.toNat
    rw [numRun]
    split
    · simp only [List.length_cons]; omega
    · exact Nat.zero_le _
theorem numL_le (l : List UInt8) : numL l ≤ l.length := by
  unfold numL
  split
  · exact numRun_le _ _ _
  · exact Nat.zero_le _
theorem quoteK_le (q : Nat) : ∀ (l : List UInt8) (st n : Nat), quoteK q st l = some n → n ≤ l.length
  | [], _, _, h => by cases h
  | c :: r, st, n, h => by
    have ih := fun st n => quoteK_le q r st n
    have key : ∀ st', (quoteK q st' r).map (· + 1) = some n → n ≤ (c :: r).length := by
      intro st' h'
      cases hb : quoteK q st' r with
      | none => rw [hb] at h'; cases h'
      | some m =>
        rw [hb] at h'
        injection h' with h'
        have h2 : m + 1 = n := h'
        have := ih st' m hb
        simp only [List.length_cons]; omega
    rw [quote_cons] at h
    split at h
    · split at h
      · exact key _ h
      · split at h
        · exact key _ h
        · exact key _ h
    · split at h
      · exact key _ h
      · split at h
        · exact key _ h
        · split at h
          · injection h with h; simp only [List.length_cons]; omega
          · split at h
            · cases h
            · split at h
              · exact key _ h
              · exact key _ h
theorem quoteN_le (q : Nat) (l : List UInt8) : quoteN q l ≤ l.length + 1 := by
  unfold quoteN
  cases h : quoteK q 0 l with
  | none => exact Nat.zero_le _
  | some n => have := quoteK_le q l 0 n h; simp only []; omega

set_option maxHeartbeats 4000000 in
set_option maxRecDepth 100000 in
theorem ref_one_num (s : ByteArray) (i : Nat) (w : World) (hs : s.size ≤ 100000000) (hi : i < s.size) (hn : letterB (hd (s.data.toList.drop i)) = false) (hm : numL (s.data.toList.drop i) ≠ 0) :
    Calls Tryz.prog 28 #[.string s, .int .i64 i] w (OneSays (oneL (s.data.toList.drop i)) w) := by
  have ca := fun w => ref_at s i w
  have h9 := hd_lt (s.data.toList.drop i)
  have cl := fun w => ref_letter (hd (s.data.toList.drop i)) w h9
  rw [hn] at cl
  have cn := fun w => ref_numeral s i w (by omega) (by omega)
  have HB := Lib.hid ((Below.refl w.heap.size w).alloc (Nat.le_refl _) (.cells #[.int .u8 0, .string ⟨#[]⟩, .int .i64 0, .int .i64 0] 25))
  have hO : oneL (s.data.toList.drop i) = ⟨4, ⟨#[]⟩, numberN (numT (s.data.toList.drop i)), numL (s.data.toList.drop i), numberE (numT (s.data.toList.drop i))⟩ := by
    rw [oneL, if_neg (by rw [hn]; decide), if_pos hm]
  have hle := numL_le (s.data.toList.drop i)
  rw [List.length_drop, show s.data.toList.length = s.size from rfl] at hle
  have hsl := run_slice_at (P := Tryz.prog) 9 s (i : Int) ((i : Int) + numL (s.data.toList.drop i)) i (i + numL (s.data.toList.drop i)) Tryz.underlying9 (by omega) (by omega) rfl (by omega)
  rw [take_extract, ← numT] at hsl
  have hz : (numT (s.data.toList.drop i)).size ≤ 100000000 := by
    show ((s.data.toList.drop i).take (numL (s.data.toList.drop i))).length ≤ _
    rw [List.length_take]; omega
  have cb := fun w => ref_numb (numT (s.data.toList.drop i)) w (by omega)
  unfold NumSays at cb
  have hpos : (0 : Int) < numL (s.data.toList.drop i) := by omega
  have hb9 : (numL (s.data.toList.drop i) : Int) ≤ 100000000 := by omega
  have hi9 : (i : Int) ≤ 100000000 := by omega
  have HO := Lib.hid hO
  clear hO hn hm hle hz h9
  generalize numT (s.data.toList.drop i) = T at *
  generalize numL (s.data.toList.drop i) = n at *
  generalize hd (s.data.toList.drop i) = b at *
  generalize numberN T = x at *
  generalize numberE T = f at *
  go_enter Tryz.func28, Tryz.ntmps28
  go_wp2_with fail
  refine wp_loop_rounds 1 ?_
  rw [rounds_succ]
  go_wp2_with fail
  refine (ca _).mono ?_
  rintro e w1 ⟨rfl, rfl⟩
  go_wp2_with fail
  refine (cl _).mono ?_
  rintro e w1 ⟨rfl, rfl⟩
  go_wp2_with fail
  refine (cn _).mono ?_
  rintro e w1 ⟨rfl, rfl⟩
  go_wp2_with fail
  refine (cb _).mono ?_
  rintro e w1 ⟨rfl, rfl⟩
  go_wp2_with fail
  refine bodyPost_ret (v := .tuple #[.agg #[.int .u8 4, .string ⟨#[]⟩, .int .i64 x, .int .i64 0], .int .i64 n, .int .i64 f]) (by simp [results, Tryz.results28, go_sem]) rfl ?_
  exact one_says HO.out (by first | exact HB.out | exact (Below.refl _ _).alloc (Nat.le_refl _) _ | exact four_set HB.out (Nat.le_refl _))

set_option maxHeartbeats 4000000 in
set_option maxRecDepth 100000 in
theorem ref_one_long (s : ByteArray) (i : Nat) (w : World) (hs : s.size ≤ 100000000) (hi : i < s.size) (hn : letterB (hd (s.data.toList.drop i)) = false) (hm : numL (s.data.toList.drop i) = 0) (t : List UInt8) (n : Nat) (hl : longL (s.data.toList.drop i) = some (some (t, n))) :
    Calls Tryz.prog 28 #[.string s, .int .i64 i] w (OneSays (oneL (s.data.toList.drop i)) w) := by
  have ca := fun w => ref_at s i w
  have h9 := hd_lt (s.data.toList.drop i)
  have cl := fun w => ref_letter (hd (s.data.toList.drop i)) w h9
  rw [hn] at cl
  have cn := fun w => ref_numeral s i w (by omega) (by omega)
  have HB := Lib.hid ((Below.refl w.heap.size w).alloc (Nat.le_refl _) (.cells #[.int .u8 0, .string ⟨#[]⟩, .int .i64 0, .int .i64 0] 25))
  rw [hm] at cn
  have cg := fun w => ref_long s i w hs (by omega)
  unfold LongSays longT longN longB at cg
  rw [hl] at cg
  simp only [Option.isSome_some] at cg
  have hn2 := long_pos hl
  have hO : oneL (s.data.toList.drop i) = ⟨5, ⟨t.toArray⟩, 0, n, 0⟩ := by
    rw [oneL, if_neg (by rw [hn]; decide), if_neg (fun h => h hm), hl]
  have HO := Lib.hid hO
  have t1 : ((n : Int) == 0) = false := by rw [beq_eq_false_iff_ne]; omega
  clear hO hn hm hl h9
  generalize (⟨t.toArray⟩ : ByteArray) = T at *
  generalize hd (s.data.toList.drop i) = b at *
  go_enter Tryz.func28, Tryz.ntmps28
  go_wp2_with fail
  refine wp_loop_rounds 1 ?_
  rw [rounds_succ]
  go_wp2_with fail
  refine (ca _).mono ?_
  rintro e w1 ⟨rfl, rfl⟩
  go_wp2_with fail
  refine (cl _).mono ?_
  rintro e w1 ⟨rfl, rfl⟩
  go_wp2_with fail
  refine (cn _).mono ?_
  rintro e w1 ⟨rfl, rfl⟩
  go_wp2_with fail
  refine (cg _).mono ?_
  rintro e w1 ⟨rfl, rfl⟩
  go_wp2_with fail
  refine bodyPost_ret (v := .tuple #[.agg #[.int .u8 5, .string T, .int .i64 0, .int .i64 0], .int .i64 n, .int .i64 0]) (by simp [results, Tryz.results28, go_sem]) rfl ?_
  exact one_says HO.out (by first | exact HB.out | exact (Below.refl _ _).alloc (Nat.le_refl _) _ | exact four_set HB.out (Nat.le_refl _))

set_option maxHeartbeats 4000000 in
set_option maxRecDepth 100000 in
theorem ref_one_open (s : ByteArray) (i : Nat) (w : World) (hs : s.size ≤ 100000000) (hi : i < s.size) (hn : letterB (hd (s.data.toList.drop i)) = false) (hm : numL (s.data.toList.drop i) = 0) (hl : longL (s.data.toList.drop i) = some none) :
    Calls Tryz.prog 28 #[.string s, .int .i64 i] w (OneSays (oneL (s.data.toList.drop i)) w) := by
  have ca := fun w => ref_at s i w
  have h9 := hd_lt (s.data.toList.drop i)
  have cl := fun w => ref_letter (hd (s.data.toList.drop i)) w h9
  rw [hn] at cl
  have cn := fun w => ref_numeral s i w (by omega) (by omega)
  have HB := Lib.hid ((Below.refl w.heap.size w).alloc (Nat.le_refl _) (.cells #[.int .u8 0, .string ⟨#[]⟩, .int .i64 0, .int .i64 0] 25))
  rw [hm] at cn
  have cg := fun w => ref_long s i w hs (by omega)
  unfold LongSays longT longN longB at cg
  rw [hl] at cg
  simp only [Option.isSome_some] at cg
  have hO : oneL (s.data.toList.drop i) = ⟨0, ⟨#[]⟩, 0, 0, 30⟩ := by
    rw [oneL, if_neg (by rw [hn]; decide), if_neg (fun h => h hm), hl]
  have HO := Lib.hid hO
  clear hO hn hm hl h9
  generalize hd (s.data.toList.drop i) = b at *
  go_enter Tryz.func28, Tryz.ntmps28
  go_wp2_with fail
  refine wp_loop_rounds 1 ?_
  rw [rounds_succ]
  go_wp2_with fail
  refine (ca _).mono ?_
  rintro e w1 ⟨rfl, rfl⟩
  go_wp2_with fail
  refine (cl _).mono ?_
  rintro e w1 ⟨rfl, rfl⟩
  go_wp2_with fail
  refine (cn _).mono ?_
  rintro e w1 ⟨rfl, rfl⟩
  go_wp2_with fail
  refine (cg _).mono ?_
  rintro e w1 ⟨rfl, rfl⟩
  go_wp2_with fail
  refine bodyPost_ret (v := .tuple #[.agg #[.int .u8 0, .string ⟨#[]⟩, .int .i64 0, .int .i64 0], .int .i64 0, .int .i64 30]) (by simp [results, Tryz.results28, go_sem]) rfl ?_
  exact one_says HO.out (by first | exact HB.out | exact (Below.refl _ _).alloc (Nat.le_refl _) _ | exact four_set HB.out (Nat.le_refl _))

set_option maxHeartbeats 4000000 in
set_option maxRecDepth 100000 in
theorem ref_one_q34 (s : ByteArray) (i : Nat) (w : World) (hs : s.size ≤ 100000000) (hi : i < s.size) (hn : letterB (hd (s.data.toList.drop i)) = false) (hm : numL (s.data.toList.drop i) = 0) (hl : longL (s.data.toList.drop i) = none) (hq : byteAt s i = 34) :
    Calls Tryz.prog 28 #[.string s, .int .i64 i] w (OneSays (oneL (s.data.toList.drop i)) w) := by
  have ca := fun w => ref_at s i w
  have h9 := hd_lt (s.data.toList.drop i)
  have cl := fun w => ref_letter (hd (s.data.toList.drop i)) w h9
  rw [hn] at cl
  have cn := fun w => ref_numeral s i w (by omega) (by omega)
  have HB := Lib.hid ((Below.refl w.heap.size w).alloc (Nat.le_refl _) (.cells #[.int .u8 0, .string ⟨#[]⟩, .int .i64 0, .int .i64 0] 25))
  rw [hm] at cn
  have cg := fun w => ref_long s i w hs (by omega)
  unfold LongSays longT longN longB at cg
  rw [hl] at cg
  simp only [Option.isSome_none] at cg
  have hx := run_index_at (P := Tryz.prog) 9 s (i : Int) i Tryz.underlying9 hi rfl
  have hh : hd (s.data.toList.drop i) = 34 := by rw [hd_at hi, hq]
  have hN : quoteN (hd (s.data.toList.drop i)) ((s.data.toList.drop i).drop 1) = quoteN (byteAt s i) (s.data.toList.drop (i + 1)) := by rw [hd_at hi, List.drop_drop]
  have hle := quoteN_le (byteAt s i) (s.data.toList.drop (i + 1))
  rw [List.length_drop, show s.data.toList.length = s.size from rfl] at hle
  have cq := fun w => ref_quoted s i w hs hi
  unfold QSays at cq
  have hsl := run_slice_at (P := Tryz.prog) 9 s (i : Int) ((i : Int) + quoteN (byteAt s i) (s.data.toList.drop (i + 1))) i (i + quoteN (byteAt s i) (s.data.toList.drop (i + 1))) Tryz.underlying9 (by omega) (by omega) rfl (by omega)
  rw [take_extract] at hsl
  have hz : (⟨((s.data.toList.drop i).take (quoteN (byteAt s i) (s.data.toList.drop (i + 1)))).toArray⟩ : ByteArray).size ≤ 100000000 := by
    show ((s.data.toList.drop i).take (quoteN (byteAt s i) (s.data.toList.drop (i + 1)))).length ≤ _
    rw [List.length_take]; omega
  have cu := fun w => ref_unquote ⟨((s.data.toList.drop i).take (quoteN (byteAt s i) (s.data.toList.drop (i + 1)))).toArray⟩ w hz
  unfold UnqIs at cu
  have hO : oneL (s.data.toList.drop i) = ⟨5, unqT ((s.data.toList.drop i).take (quoteN (byteAt s i) (s.data.toList.drop (i + 1)))), 0, quoteN (byteAt s i) (s.data.toList.drop (i + 1)), (unqE ((s.data.toList.drop i).take (quoteN (byteAt s i) (s.data.toList.drop (i + 1))))).toNat⟩ := by
    rw [oneL, if_neg (by rw [hn]; decide), if_neg (fun h => h hm), hl]
    simp only []
    rw [if_pos (by omega), quoteT', hN]
  have hE : ∃ f : Nat, unqE ((s.data.toList.drop i).take (quoteN (byteAt s i) (s.data.toList.drop (i + 1)))) = f := by
    unfold unqE
    split
    · exact ⟨0, rfl⟩
    · exact ⟨30, rfl⟩
  obtain ⟨f, hf⟩ := hE
  rw [hf, Int.toNat_natCast] at hO
  have HO := Lib.hid hO
  simp only [] at cu
  rw [hf] at cu
  have hb9 : (quoteN (byteAt s i) (s.data.toList.drop (i + 1)) : Int) ≤ 100000001 := by omega
  have hi9 : (i : Int) ≤ 100000000 := by omega
  rw [hq] at hx
  rw [hh] at ca cl
  clear hO hn hm hl h9 hz hle hN hh hf hq
  generalize unqT ((s.data.toList.drop i).take (quoteN (byteAt s i) (s.data.toList.drop (i + 1)))) = U at *
  generalize (⟨((s.data.toList.drop i).take (quoteN (byteAt s i) (s.data.toList.drop (i + 1)))).toArray⟩ : ByteArray) = T at *
  generalize quoteN (byteAt s i) (s.data.toList.drop (i + 1)) = n at *
  go_enter Tryz.func28, Tryz.ntmps28
  go_wp2_with fail
  refine wp_loop_rounds 1 ?_
  rw [rounds_succ]
  go_wp2_with fail
  refine (ca _).mono ?_
  rintro e w1 ⟨rfl, rfl⟩
  go_wp2_with fail
  refine (cl _).mono ?_
  rintro e w1 ⟨rfl, rfl⟩
  go_wp2_with fail
  refine (cn _).mono ?_
  rintro e w1 ⟨rfl, rfl⟩
  go_wp2_with fail
  refine (cg _).mono ?_
  rintro e w1 ⟨rfl, rfl⟩
  go_wp2_with fail
  refine (cq _).mono ?_
  rintro e w2 ⟨rfl, b2⟩
  have B2 := Lib.hid b2
  clear b2
  go_wp2_with fail
  refine (cu _).mono ?_
  rintro e w3 ⟨rfl, b3⟩
  have B3 := Lib.hid (grew_trans B2.out b3)
  clear b3
  have hA : w3.heap[w.heap.size]? = some (.cells #[.int .u8 0, .string ⟨#[]⟩, .int .i64 0, .int .i64 0] 25 (0, 0)) := by
    rw [B3.out.block w.heap.size (by simp)]
    exact heap_alloc_new w _
  have k0 := cell_of_heap4 hA 0 (.int .u8 0) rfl
  have k1 := cell_of_heap4 hA 1 (.string ⟨#[]⟩) rfl
  have k2 := cell_of_heap4 hA 2 (.int .i64 0) rfl
  have k3 := cell_of_heap4 hA 3 (.int .i64 0) rfl
  have f0 := free_of_heap4 hA 0
  have f1 := free_of_heap4 hA 1
  have f2 := free_of_heap4 hA 2
  have f3 := free_of_heap4 hA 3
  clear hA
  have HB4 := Lib.hid (HB.out.trans (B3.out.mono HB.out.size))
  go_wp2_with fail
  refine bodyPost_ret (v := .tuple #[.agg #[.int .u8 5, .string U, .int .i64 0, .int .i64 0], .int .i64 n, .int .i64 f]) (by simp [results, Tryz.results28, go_sem, k0, k1, k2, k3]) rfl ?_
  exact one_says HO.out (four_set HB4.out (Nat.le_refl _))

set_option maxHeartbeats 4000000 in
set_option maxRecDepth 100000 in
theorem ref_one_q39 (s : ByteArray) (i : Nat) (w : World) (hs : s.size ≤ 100000000) (hi : i < s.size) (hn : letterB (hd (s.data.toList.drop i)) = false) (hm : numL (s.data.toList.drop i) = 0) (hl : longL (s.data.toList.drop i) = none) (hq : byteAt s i = 39) :
    Calls Tryz.prog 28 #[.string s, .int .i64 i] w (OneSays (oneL (s.data.toList.drop i)) w) := by
  have ca := fun w => ref_at s i w
  have h9 := hd_lt (s.data.toList.drop i)
  have cl := fun w => ref_letter (hd (s.data.toList.drop i)) w h9
  rw [hn] at cl
  have cn := fun w => ref_numeral s i w (by omega) (by omega)
  have HB := Lib.hid ((Below.refl w.heap.size w).alloc (Nat.le_refl _) (.cells #[.int .u8 0, .string ⟨#[]⟩, .int .i64 0, .int .i64 0] 25))
  rw [hm] at cn
  have cg := fun w => ref_long s i w hs (by omega)
  unfold LongSays longT longN longB at cg
  rw [hl] at cg
  simp only [Option.isSome_none] at cg
  have hx := run_index_at (P := Tryz.prog) 9 s (i : Int) i Tryz.underlying9 hi rfl
  have hh : hd (s.data.toList.drop i) = 39 := by rw [hd_at hi, hq]
  have hN : quoteN (hd (s.data.toList.drop i)) ((s.data.toList.drop i).drop 1) = quoteN (byteAt s i) (s.data.toList.drop (i + 1)) := by rw [hd_at hi, List.drop_drop]
  have hle := quoteN_le (byteAt s i) (s.data.toList.drop (i + 1))
  rw [List.length_drop, show s.data.toList.length = s.size from rfl] at hle
  have cq := fun w => ref_quoted s i w hs hi
  unfold QSays at cq
  have hsl := run_slice_at (P := Tryz.prog) 9 s (i : Int) ((i : Int) + quoteN (byteAt s i) (s.data.toList.drop (i + 1))) i (i + quoteN (byteAt s i) (s.data.toList.drop (i + 1))) Tryz.underlying9 (by omega) (by omega) rfl (by omega)
  rw [take_extract] at hsl
  have hz : (⟨((s.data.toList.drop i).take (quoteN (byteAt s i) (s.data.toList.drop (i + 1)))).toArray⟩ : ByteArray).size ≤ 100000000 := by
    show ((s.data.toList.drop i).take (quoteN (byteAt s i) (s.data.toList.drop (i + 1)))).length ≤ _
    rw [List.length_take]; omega
  have cu := fun w => ref_unquote ⟨((s.data.toList.drop i).take (quoteN (byteAt s i) (s.data.toList.drop (i + 1)))).toArray⟩ w hz
  unfold UnqIs at cu
  have hO : oneL (s.data.toList.drop i) = ⟨5, unqT ((s.data.toList.drop i).take (quoteN (byteAt s i) (s.data.toList.drop (i + 1)))), 0, quoteN (byteAt s i) (s.data.toList.drop (i + 1)), (unqE ((s.data.toList.drop i).take (quoteN (byteAt s i) (s.data.toList.drop (i + 1))))).toNat⟩ := by
    rw [oneL, if_neg (by rw [hn]; decide), if_neg (fun h => h hm), hl]
    simp only []
    rw [if_pos (by omega), quoteT', hN]
  have hE : ∃ f : Nat, unqE ((s.data.toList.drop i).take (quoteN (byteAt s i) (s.data.toList.drop (i + 1)))) = f := by
    unfold unqE
    split
    · exact ⟨0, rfl⟩
    · exact ⟨30, rfl⟩
  obtain ⟨f, hf⟩ := hE
  rw [hf, Int.toNat_natCast] at hO
  have HO := Lib.hid hO
  simp only [] at cu
  rw [hf] at cu
  have hb9 : (quoteN (byteAt s i) (s.data.toList.drop (i + 1)) : Int) ≤ 100000001 := by omega
  have hi9 : (i : Int) ≤ 100000000 := by omega
  rw [hq] at hx
  rw [hh] at ca cl
  clear hO hn hm hl h9 hz hle hN hh hf hq
  generalize unqT ((s.data.toList.drop i).take (quoteN (byteAt s i) (s.data.toList.drop (i + 1)))) = U at *
  generalize (⟨((s.data.toList.drop i).take (quoteN (byteAt s i) (s.data.toList.drop (i + 1)))).toArray⟩ : ByteArray) = T at *
  generalize quoteN (byteAt s i) (s.data.toList.drop (i + 1)) = n at *
  go_enter Tryz.func28, Tryz.ntmps28
  go_wp2_with fail
  refine wp_loop_rounds 1 ?_
  rw [rounds_succ]
  go_wp2_with fail
  refine (ca _).mono ?_
  rintro e w1 ⟨rfl, rfl⟩
  go_wp2_with fail
  refine (cl _).mono ?_
  rintro e w1 ⟨rfl, rfl⟩
  go_wp2_with fail
  refine (cn _).mono ?_
  rintro e w1 ⟨rfl, rfl⟩
  go_wp2_with fail
  refine (cg _).mono ?_
  rintro e w1 ⟨rfl, rfl⟩
  go_wp2_with fail
  refine (cq _).mono ?_
  rintro e w2 ⟨rfl, b2⟩
  have B2 := Lib.hid b2
  clear b2
  go_wp2_with fail
  refine (cu _).mono ?_
  rintro e w3 ⟨rfl, b3⟩
  have B3 := Lib.hid (grew_trans B2.out b3)
  clear b3
  have hA : w3.heap[w.heap.size]? = some (.cells #[.int .u8 0, .string ⟨#[]⟩, .int .i64 0, .int .i64 0] 25 (0, 0)) := by
    rw [B3.out.block w.heap.size (by simp)]
    exact heap_alloc_new w _
  have k0 := cell_of_heap4 hA 0 (.int .u8 0) rfl
  have k1 := cell_of_heap4 hA 1 (.string ⟨#[]⟩) rfl
  have k2 := cell_of_heap4 hA 2 (.int .i64 0) rfl
  have k3 := cell_of_heap4 hA 3 (.int .i64 0) rfl
  have f0 := free_of_heap4 hA 0
  have f1 := free_of_heap4 hA 1
  have f2 := free_of_heap4 hA 2
  have f3 := free_of_heap4 hA 3
  clear hA
  have HB4 := Lib.hid (HB.out.trans (B3.out.mono HB.out.size))
  go_wp2_with fail
  refine bodyPost_ret (v := .tuple #[.agg #[.int .u8 5, .string U, .int .i64 0, .int .i64 0], .int .i64 n, .int .i64 f]) (by simp [results, Tryz.results28, go_sem, k0, k1, k2, k3]) rfl ?_
  exact one_says HO.out (four_set HB4.out (Nat.le_refl _))

set_option maxHeartbeats 4000000 in
set_option maxRecDepth 100000 in
theorem ref_one_bad (s : ByteArray) (i : Nat) (w : World) (hs : s.size ≤ 100000000) (hi : i < s.size) (hn : letterB (hd (s.data.toList.drop i)) = false) (hm : numL (s.data.toList.drop i) = 0) (hl : longL (s.data.toList.drop i) = none) (hq : ¬ (byteAt s i = 34 ∨ byteAt s i = 39)) (hp : startsAt s ⟨#[91, 61]⟩ i = true) :
    Calls Tryz.prog 28 #[.string s, .int .i64 i] w (OneSays (oneL (s.data.toList.drop i)) w) := by
  have ca := fun w => ref_at s i w
  have h9 := hd_lt (s.data.toList.drop i)
  have cl := fun w => ref_letter (hd (s.data.toList.drop i)) w h9
  rw [hn] at cl
  have cn := fun w => ref_numeral s i w (by omega) (by omega)
  have HB := Lib.hid ((Below.refl w.heap.size w).alloc (Nat.le_refl _) (.cells #[.int .u8 0, .string ⟨#[]⟩, .int .i64 0, .int .i64 0] 25))
  rw [hm] at cn
  have cg := fun w => ref_long s i w hs (by omega)
  unfold LongSays longT longN longB at cg
  rw [hl] at cg
  simp only [Option.isSome_none] at cg
  have hx := run_index_at (P := Tryz.prog) 9 s (i : Int) i Tryz.underlying9 hi rfl
  have hh := hd_at hi
  have q1 : (((byteAt s i : Nat) : Int) == 34) = false := by rw [beq_eq_false_iff_ne]; omega
  have q2 : (((byteAt s i : Nat) : Int) == 39) = false := by rw [beq_eq_false_iff_ne]; omega
  have cs := fun w => ref_starts s ⟨#[91, 61]⟩ i w (by omega) (by decide) (by omega)
  have hst : startsAt s ⟨#[91, 61]⟩ i = ([91, 61] : List UInt8).isPrefixOf (s.data.toList.drop i) := rfl
  have hO : oneL (s.data.toList.drop i) = ⟨0, ⟨#[]⟩, 0, 0, 30⟩ := by
    rw [oneL, if_neg (by rw [hn]; decide), if_neg (fun h => h hm), hl]
    simp only []
    rw [if_neg (by rw [hh]; exact hq), if_pos (by rw [← hst]; exact hp)]
  rw [hp] at cs
  have HO := Lib.hid hO
  clear hO hn hm hl h9 hst hp hq hh
  generalize hd (s.data.toList.drop i) = b at *
  generalize byteAt s i = b' at *
  go_enter Tryz.func28, Tryz.ntmps28
  go_wp2_with fail
  refine wp_loop_rounds 1 ?_
  rw [rounds_succ]
  go_wp2_with fail
  refine (ca _).mono ?_
  rintro e w1 ⟨rfl, rfl⟩
  go_wp2_with fail
  refine (cl _).mono ?_
  rintro e w1 ⟨rfl, rfl⟩
  go_wp2_with fail
  refine (cn _).mono ?_
  rintro e w1 ⟨rfl, rfl⟩
  go_wp2_with fail
  refine (cg _).mono ?_
  rintro e w1 ⟨rfl, rfl⟩
  go_wp2_with fail
  refine (cs _).mono ?_
  rintro e w1 ⟨rfl, rfl⟩
  go_wp2_with fail
  refine bodyPost_ret (v := .tuple #[.agg #[.int .u8 0, .string ⟨#[]⟩, .int .i64 0, .int .i64 0], .int .i64 0, .int .i64 30]) (by simp [results, Tryz.results28, go_sem]) rfl ?_
  exact one_says HO.out (by first | exact HB.out | exact (Below.refl _ _).alloc (Nat.le_refl _) _ | exact four_set HB.out (Nat.le_refl _))

set_option maxHeartbeats 4000000 in
set_option maxRecDepth 100000 in
theorem ref_one_sign (s : ByteArray) (i : Nat) (w : World) (hs : s.size ≤ 100000000) (hi : i < s.size) (hn : letterB (hd (s.data.toList.drop i)) = false) (hm : numL (s.data.toList.drop i) = 0) (hl : longL (s.data.toList.drop i) = none) (hq : ¬ (byteAt s i = 34 ∨ byteAt s i = 39)) (hp : startsAt s ⟨#[91, 61]⟩ i = false) :
    Calls Tryz.prog 28 #[.string s, .int .i64 i] w (OneSays (oneL (s.data.toList.drop i)) w) := by
  have ca := fun w => ref_at s i w
  have h9 := hd_lt (s.data.toList.drop i)
  have cl := fun w => ref_letter (hd (s.data.toList.drop i)) w h9
  rw [hn] at cl
  have cn := fun w => ref_numeral s i w (by omega) (by omega)
  have HB := Lib.hid ((Below.refl w.heap.size w).alloc (Nat.le_refl _) (.cells #[.int .u8 0, .string ⟨#[]⟩, .int .i64 0, .int .i64 0] 25))
  rw [hm] at cn
  have cg := fun w => ref_long s i w hs (by omega)
  unfold LongSays longT longN longB at cg
  rw [hl] at cg
  simp only [Option.isSome_none] at cg
  have hx := run_index_at (P := Tryz.prog) 9 s (i : Int) i Tryz.underlying9 hi rfl
  have hh := hd_at hi
  have q1 : (((byteAt s i : Nat) : Int) == 34) = false := by rw [beq_eq_false_iff_ne]; omega
  have q2 : (((byteAt s i : Nat) : Int) == 39) = false := by rw [beq_eq_false_iff_ne]; omega
  have cs := fun w => ref_starts s ⟨#[91, 61]⟩ i w (by omega) (by decide) (by omega)
  have hst : startsAt s ⟨#[91, 61]⟩ i = ([91, 61] : List UInt8).isPrefixOf (s.data.toList.drop i) := rfl
  have hO : oneL (s.data.toList.drop i) = signO (s.data.toList.drop i) := by
    rw [oneL, if_neg (by rw [hn]; decide), if_neg (fun h => h hm), hl]
    simp only []
    rw [if_neg (by rw [hh]; exact hq), if_neg (by rw [← hst, hp]; decide)]
  rw [hp] at cs
  have cz := fun w => ref_sign s i w (by omega) hi
  unfold OneSays at cz
  have HO := Lib.hid hO
  clear hO hn hm hl h9 hst hp hq hh
  generalize hd (s.data.toList.drop i) = b at *
  generalize byteAt s i = b' at *
  generalize signO (s.data.toList.drop i) = O at *
  go_enter Tryz.func28, Tryz.ntmps28
  go_wp2_with fail
  refine wp_loop_rounds 1 ?_
  rw [rounds_succ]
  go_wp2_with fail
  refine (ca _).mono ?_
  rintro e w1 ⟨rfl, rfl⟩
  go_wp2_with fail
  refine (cl _).mono ?_
  rintro e w1 ⟨rfl, rfl⟩
  go_wp2_with fail
  refine (cn _).mono ?_
  rintro e w1 ⟨rfl, rfl⟩
  go_wp2_with fail
  refine (cg _).mono ?_
  rintro e w1 ⟨rfl, rfl⟩
  go_wp2_with fail
  refine (cs _).mono ?_
  rintro e w1 ⟨rfl, rfl⟩
  go_wp2_with fail
  refine (cz _).mono ?_
  rintro e w3 ⟨rfl, b3⟩
  have B3 := Lib.hid b3
  clear b3
  have hA : w3.heap[w.heap.size]? = some (.cells #[.int .u8 0, .string ⟨#[]⟩, .int .i64 0, .int .i64 0] 25 (0, 0)) := by
    rw [B3.out.block w.heap.size (by simp)]
    exact heap_alloc_new w _
  have k0 := cell_of_heap4 hA 0 (.int .u8 0) rfl
  have k1 := cell_of_heap4 hA 1 (.string ⟨#[]⟩) rfl
  have k2 := cell_of_heap4 hA 2 (.int .i64 0) rfl
  have k3 := cell_of_heap4 hA 3 (.int .i64 0) rfl
  have f0 := free_of_heap4 hA 0
  have f1 := free_of_heap4 hA 1
  have f2 := free_of_heap4 hA 2
  have f3 := free_of_heap4 hA 3
  clear hA
  have HB4 := Lib.hid (HB.out.trans (B3.out.mono HB.out.size))
  go_wp2_with fail
  refine bodyPost_ret (v := .tuple #[.agg #[.int .u8 O.k, .string O.s, .int .i64 O.n, .int .i64 0], .int .i64 (O.len : Nat), .int .i64 (O.e : Nat)]) (by simp [results, Tryz.results28, go_sem, k0, k1, k2, k3]) rfl ?_
  exact one_says HO.out (four_set HB4.out (Nat.le_refl _))

end Go.Proofs.YtajeghkmgcpgiaaGreatDoor.Lex
