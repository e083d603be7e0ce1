/-
  twinstepref04.one, by contract.
-/
import Derived.Test.YtajeghkmgcpgiaaGreatDoorLexD
import Derived.Test.YtajeghkmgcpgiaaGreatDoorLexE
import Derived.Test.YtajeghkmgcpgiaaGreatDoorLexF
import Derived.Deep.DeepCutAuto
import Derived.Deep.CutBlock
namespace Go.Proofs.YtajeghkmgcpgiaaGreatDoor.Lex
open Go.RowKit

def nameT (l : List UInt8) : ByteArray := ⟨(l.take (nameL l)).toArray⟩
def numT (l : List UInt8) : ByteArray := ⟨(l.take (numL l)).toArray⟩
def quoteT' (l : List UInt8) : List UInt8 := l.take (quoteN (hd l) (l.drop 1))
/-- What stands at the head: the rows of the chapter's table, from the letter on. -/
def oneL (l : List UInt8) : One :=
  if letterB (hd l) = true then ⟨if wordB (nameT l) = true then 2 else 1, nameT l, 0, nameL l, 0⟩
  else if numL l ≠ 0 then ⟨4, ⟨#[]⟩, numberN (numT l), numL l, numberE (numT l)⟩
  else match longL l with
    | some (some (t, n)) => ⟨5, ⟨t.toArray⟩, 0, n, 0⟩
    | some none => ⟨0, ⟨#[]⟩, 0, 0, 30⟩
    | none =>
      if hd l = 34 ∨ hd l = 39 then ⟨5, unqT (quoteT' l), 0, quoteN (hd l) (l.drop 1), (unqE (quoteT' l)).toNat⟩
      else if ([91, 61] : List UInt8).isPrefixOf l = true then ⟨0, ⟨#[]⟩, 0, 0, 30⟩
      else signO l

/-! ### Names -/
theorem name_yes {s : ByteArray} {p : Nat} (h : (letterB (hd (s.data.toList.drop p)) || digitB (hd (s.data.toList.drop p))) = true) : p < s.size ∧ nameRun (s.data.toList.drop p) = nameRun (s.data.toList.drop (p + 1)) + 1 := by
  by_cases hlt : p < s.size
  · obtain ⟨c, e, hl⟩ := drop_at s p hlt
    refine ⟨hlt, ?_⟩
    rw [hl] at h ⊢
    rw [nameRun, if_pos (show (letterB c.toNat || digitB c.toNat) = true from h)]
  · rw [hd_end (by omega)] at h; exact absurd h (by decide)
theorem name_no {s : ByteArray} {p : Nat} (h : (letterB (hd (s.data.toList.drop p)) || digitB (hd (s.data.toList.drop p))) = false) : nameRun (s.data.toList.drop p) = 0 := by
  cases hl : s.data.toList.drop p with
  | nil => rfl
  | cons c r =>
    rw [hl] at h
    rw [nameRun, if_neg (by rw [show (letterB c.toNat || digitB c.toNat) = false from h]; decide)]
theorem name_le : ∀ l : List UInt8, nameRun l ≤ l.length
  | [] => Nat.le_refl 0
  | c :: r => by
    have := name_le r
    rw [nameRun]
    split
    · simp only [List.length_cons]; omega
    · exact Nat.zero_le _
theorem take_extract {s : ByteArray} {i n : Nat} : s.extract i (i + n) = ⟨((s.data.toList.drop i).take n).toArray⟩ := by
  apply ByteArray.ext
  apply Array.ext'
  rw [Lib.extract_data, show i + n - i = n from by omega]

def zeroTok : Array Value := #[.int .u8 0, .string ⟨#[]⟩, .int .i64 0, .int .i64 0]

set_option maxHeartbeats 4000000 in
set_option maxRecDepth 100000 in
theorem ref_one_name (s : ByteArray) (i : Nat) (w : World) (hs : s.size ≤ 100000000) (hi : i < s.size) (hn : letterB (hd (s.data.toList.drop i)) = true) :
    Calls Tryz.prog 28 #[.string s, .int .i64 i] w (OneSays (oneL (s.data.toList.drop i)) w) := by
  have hO : oneL (s.data.toList.drop i) = ⟨if wordB (nameT (s.data.toList.drop i)) = true then 2 else 1, nameT (s.data.toList.drop i), 0, nameL (s.data.toList.drop i), 0⟩ := by rw [oneL, if_pos hn]
  have hL : nameL (s.data.toList.drop i) = nameRun (s.data.toList.drop i) := by rw [nameL, if_pos hn]
  have hT : s.extract i (i + nameRun (s.data.toList.drop i)) = nameT (s.data.toList.drop i) := by rw [take_extract, nameT, hL]
  have HO := Lib.hid hO
  have HL := Lib.hid hL
  have HT := Lib.hid hT
  clear hO hL hT
  go_enter Tryz.func28, Tryz.ntmps28
  go_upto_block 0 with fail
  go_cut [7] (fun v wx => ∃ n : Nat, v = .int .i64 n ∧ n = nameRun (s.data.toList.drop i) ∧ 0 < n ∧ i + n ≤ s.size ∧ wx = w.alloc (.cells #[.int .u8 0, .string ⟨#[]⟩, .int .i64 0, .int .i64 0] 25))
  case first =>
    go_wp2_with fail
    go_loop [7] (fun v => ∃ n : Nat, v = .int .i64 n ∧ i + n ≤ s.size ∧ n + nameRun (s.data.toList.drop (i + n)) = nameRun (s.data.toList.drop i)) (fun v => s.size - (intOf v).toNat)
    case atStart => exact ⟨0, rfl, by omega, by rw [Nat.add_zero, Nat.zero_add]⟩
    case round =>
      obtain ⟨n, rfl, hnz, hr⟩ := hrel
      have ca := fun w => ref_at s (i + n) w
      rw [show ((i + n : Nat) : Int) = (i : Int) + n from by omega] at ca
      have h9 := hd_lt (s.data.toList.drop (i + n))
      have cl := fun w => ref_letter (hd (s.data.toList.drop (i + n))) w h9
      have cd := fun w => ref_digit (hd (s.data.toList.drop (i + n))) w h9
      have hyes := name_yes (s := s) (p := i + n)
      have hno := name_no (s := s) (p := i + n)
      have h0 : n = 0 → letterB (hd (s.data.toList.drop (i + n))) = true := fun h => by rw [h, Nat.add_zero]; exact hn
      generalize hd (s.data.toList.drop (i + n)) = b at *
      cases hlb : letterB b
      · have hn0 : 0 < n := by
          refine Nat.pos_of_ne_zero fun h => ?_
          rw [h0 h] at hlb; cases hlb
        have hn0' : (0 : Int) < n := by omega
        cases hdb : digitB b
        · have HR := Lib.hid (show n = nameRun (s.data.toList.drop i) by rw [← hr, hno (by rw [hlb, hdb]; rfl), Nat.add_zero])
          rw [hlb] at cl
          rw [hdb] at cd
          clear hyes hno h0 hlb hdb hr
          go_wp2_with fail
          refine (ca _).mono ?_
          rintro e w1 ⟨rfl, rfl⟩
          go_wp2_with fail
          refine (cl _).mono ?_
          rintro e w1 ⟨rfl, rfl⟩
          go_wp2_with fail
          refine (ca _).mono ?_
          rintro e w1 ⟨rfl, rfl⟩
          go_wp2_with fail
          refine (cd _).mono ?_
          rintro e w1 ⟨rfl, rfl⟩
          go_wp2_with fail
          go_meet
          exact ⟨n, rfl, HR.out, hn0, hnz, rfl⟩
        · obtain ⟨hlt, hm⟩ := hyes (by rw [hlb, hdb]; rfl)
          have HR := Lib.hid (show (n + 1) + nameRun (s.data.toList.drop (i + (n + 1))) = nameRun (s.data.toList.drop i) by rw [← hr, hm, show i + n + 1 = i + (n + 1) from rfl]; omega)
          rw [hlb] at cl
          rw [hdb] at cd
          clear hno h0 hlb hdb hr hm hyes
          go_wp2_with fail
          refine (ca _).mono ?_
          rintro e w1 ⟨rfl, rfl⟩
          go_wp2_with fail
          refine (cl _).mono ?_
          rintro e w1 ⟨rfl, rfl⟩
          go_wp2_with fail
          refine (ca _).mono ?_
          rintro e w1 ⟨rfl, rfl⟩
          go_wp2_with fail
          refine (cd _).mono ?_
          rintro e w1 ⟨rfl, rfl⟩
          go_wp2_with fail
          go_round
          case rel => exact ⟨n + 1, by go_num, by omega, HR.out⟩
          case measure => simp only [intOf]; omega
      · obtain ⟨hlt, hm⟩ := hyes (by rw [hlb]; rfl)
        have HR := Lib.hid (show (n + 1) + nameRun (s.data.toList.drop (i + (n + 1))) = nameRun (s.data.toList.drop i) by rw [← hr, hm, show i + n + 1 = i + (n + 1) from rfl]; omega)
        rw [hlb] at cl
        clear hno h0 hlb hr hm hyes cd
        go_wp2_with fail
        refine (ca _).mono ?_
        rintro e w1 ⟨rfl, rfl⟩
        go_wp2_with fail
        refine (cl _).mono ?_
        rintro e w1 ⟨rfl, rfl⟩
        go_wp2_with fail
        go_round
        case rel => exact ⟨n + 1, by go_num, by omega, HR.out⟩
        case measure => simp only [intOf]; omega
  case rest =>
    obtain ⟨n, rfl, hn1, hn0, hnz, rfl⟩ := hcut
    have hsl := run_slice_at (P := Tryz.prog) 9 s (i : Int) ((i : Int) + n) i (i + n) Tryz.underlying9 (by omega) hnz rfl (by omega)
    rw [hn1, HT.out, ← hn1] at hsl
    have hn0' : (0 : Int) < n := by omega
    have HN1 := Lib.hid hn1
    clear hn1
    have HO2 := Lib.hid (show oneL (s.data.toList.drop i) = ⟨if wordB (nameT (s.data.toList.drop i)) = true then 2 else 1, nameT (s.data.toList.drop i), 0, n, 0⟩ by rw [HO.out, HL.out, HN1.out])
    clear HO HL HT
    generalize nameT (s.data.toList.drop i) = T at *
    generalize hg : oneL (s.data.toList.drop i) = O at *
    clear hg HN1
    go_wp2_with fail
    refine (ref_word T _).mono ?_
    rintro e w3 ⟨rfl, hb⟩
    have hA : w3.heap[w.heap.size]? = some (.cells #[.int .u8 0, .string ⟨#[]⟩, .int .i64 0, .int .i64 0] 25 (0, 0)) := by
      rw [hb.block w.heap.size (by simp; omega), heap_alloc2_old]
    have hB : w3.heap[w.heap.size + 1]? = some (.cells #[.int .u8 1, .string T, .int .i64 0, .int .i64 0] 25 (0, 0)) := by
      rw [hb.block (w.heap.size + 1) (by simp), heap_alloc2_new]
    have HB := Lib.hid ((((Below.refl _ w).alloc (Nat.le_refl _) (.cells #[.int .u8 0, .string ⟨#[]⟩, .int .i64 0, .int .i64 0] 25)).alloc (by simp) (.cells #[.int .u8 1, .string T, .int .i64 0, .int .i64 0] 25)).trans (hb.mono (by simp; omega)))
    have k0 := cell_of_heap4 hA 0 (.int .u8 0) rfl
    have k1 := cell_of_heap4 hA 1 (.string ⟨#[]⟩) rfl
    have k2 := cell_of_heap4 hA 2 (.int .i64 0) rfl
    have k3 := cell_of_heap4 hA 3 (.int .i64 0) rfl
    have f0 := free_of_heap4 hA 0
    have f1 := free_of_heap4 hA 1
    have f2 := free_of_heap4 hA 2
    have f3 := free_of_heap4 hA 3
    have l0 := cell_of_heap4 hB 0 (.int .u8 1) rfl
    have l1 := cell_of_heap4 hB 1 (.string T) rfl
    have l2 := cell_of_heap4 hB 2 (.int .i64 0) rfl
    have l3 := cell_of_heap4 hB 3 (.int .i64 0) rfl
    have g0 := free_of_heap4 hB 0
    clear hb hA hB
    cases hw : wordB T
    · rw [hw] at HO2
      have HO3 := Lib.hid (show O = ⟨1, T, 0, n, 0⟩ from HO2.out)
      clear HO2 hw
      go_wp2_with fail
      refine bodyPost_ret (v := .tuple #[.agg #[.int .u8 1, .string T, .int .i64 0, .int .i64 0], .int .i64 n, .int .i64 0]) (by simp [results, Tryz.results28, go_sem, k0, k1, k2, k3]) rfl ?_
      exact one_says HO3.out (four_set HB.out (Nat.le_refl _))
    · rw [hw] at HO2
      have HO3 := Lib.hid (show O = ⟨2, T, 0, n, 0⟩ from HO2.out)
      clear HO2 hw
      go_wp2_with fail
      refine bodyPost_ret (v := .tuple #[.agg #[.int .u8 2, .string T, .int .i64 0, .int .i64 0], .int .i64 n, .int .i64 0]) (by simp [results, Tryz.results28, go_sem, k0, k1, k2, k3]) rfl ?_
      exact one_says HO3.out (four_set (HB.out.setCell (p := ⟨w.heap.size + 1, 0, none⟩) (by simp) _) (Nat.le_refl _))

end Go.Proofs.YtajeghkmgcpgiaaGreatDoor.Lex
