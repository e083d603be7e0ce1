/-
  twinstepref04: Words, Word, Signs, by contracts.
-/
import Derived.Test.YtajeghkmgcpgiaaGreatDoorLexA
import Derived.Deep.LoopGhost
import Derived.Lib.FrozenHead
namespace Go.Proofs.YtajeghkmgcpgiaaGreatDoor.Lex
open Go.RowKit

/-! ### Lists of texts -/
/-- A block that holds these texts, one behind the other. -/
def TextsAt (w : World) (g : Nat) (l : List ByteArray) : Prop := g < w.heap.size ∧ ∀ (k : Nat) (h : k < l.length), w.cell? ⟨g, k, none⟩ = some (.string l[k])
theorem TextsAt.below {w w' : World} {g : Nat} {l : List ByteArray} (h : TextsAt w g l) (hb : Below w.heap.size w w') : TextsAt w' g l :=
  ⟨by have := hb.size; have := h.1; omega, fun k hk => by rw [hb.cell (p := ⟨g, k, none⟩) h.1]; exact h.2 k hk⟩
theorem texts_new (w : World) (l : List ByteArray) (T : TypeId) (cs : Array Value) (h : cs.toList = l.map Value.string) : TextsAt (w.alloc (.cells cs T)) w.heap.size l := by
  refine ⟨by simp, fun k hk => ?_⟩
  rw [World.cell?_alloc_mark]
  have : cs.toList[k]? = some (.string l[k]) := by rw [h, List.getElem?_map, List.getElem?_eq_getElem hk]; rfl
  rw [← Array.getElem?_toList]
  exact this

def wordsT : List ByteArray := [⟨#[97, 110, 100]⟩, ⟨#[98, 114, 101, 97, 107]⟩, ⟨#[100, 111]⟩, ⟨#[101, 108, 115, 101]⟩, ⟨#[101, 108, 115, 101, 105, 102]⟩, ⟨#[101, 110, 100]⟩, ⟨#[102, 97, 108, 115, 101]⟩, ⟨#[102, 111, 114]⟩, ⟨#[102, 117, 110, 99, 116, 105, 111, 110]⟩, ⟨#[103, 111, 116, 111]⟩, ⟨#[105, 102]⟩, ⟨#[105, 110]⟩, ⟨#[108, 111, 99, 97, 108]⟩, ⟨#[110, 105, 108]⟩, ⟨#[110, 111, 116]⟩, ⟨#[111, 114]⟩, ⟨#[114, 101, 112, 101, 97, 116]⟩, ⟨#[114, 101, 116, 117, 114, 110]⟩, ⟨#[116, 104, 101, 110]⟩, ⟨#[116, 114, 117, 101]⟩, ⟨#[117, 110, 116, 105, 108]⟩, ⟨#[119, 104, 105, 108, 101]⟩]
def signsT : List ByteArray := [⟨#[35]⟩, ⟨#[37]⟩, ⟨#[38]⟩, ⟨#[40]⟩, ⟨#[41]⟩, ⟨#[42]⟩, ⟨#[43]⟩, ⟨#[44]⟩, ⟨#[45]⟩, ⟨#[46]⟩, ⟨#[46, 46]⟩, ⟨#[46, 46, 46]⟩, ⟨#[47, 47]⟩, ⟨#[58]⟩, ⟨#[58, 58]⟩, ⟨#[59]⟩, ⟨#[60]⟩, ⟨#[60, 60]⟩, ⟨#[60, 61]⟩, ⟨#[61]⟩, ⟨#[61, 61]⟩, ⟨#[62]⟩, ⟨#[62, 61]⟩, ⟨#[62, 62]⟩, ⟨#[91]⟩, ⟨#[93]⟩, ⟨#[123]⟩, ⟨#[124]⟩, ⟨#[125]⟩, ⟨#[126]⟩, ⟨#[126, 61]⟩]

set_option maxHeartbeats 2000000 in
set_option maxRecDepth 100000 in
theorem ref_words (w : World) :
    Calls Tryz.prog 11 #[] w fun e w' => e = .returned (.slice (some ⟨w.heap.size, 0, none⟩) 22 22) ∧ TextsAt w' w.heap.size wordsT ∧ Below w.heap.size w w' := by
  go_enter Tryz.func11, Tryz.ntmps11
  go_wp2
  go_ret
  exact ⟨rfl, texts_new _ _ _ _ rfl, (Below.refl _ _).alloc (Nat.le_refl _) _⟩

set_option maxHeartbeats 2000000 in
set_option maxRecDepth 100000 in
theorem ref_signs (w : World) :
    Calls Tryz.prog 15 #[] w fun e w' => e = .returned (.slice (some ⟨w.heap.size, 0, none⟩) 31 31) ∧ TextsAt w' w.heap.size signsT ∧ Below w.heap.size w w' := by
  go_enter Tryz.func15, Tryz.ntmps15
  go_wp2
  go_ret
  exact ⟨rfl, texts_new _ _ _ _ rfl, (Below.refl _ _).alloc (Nat.le_refl _) _⟩

/-! ### Word -/
def wordB (s : ByteArray) : Bool := wordsT.any fun t => t.toList == s.toList
theorem words_more {s : ByteArray} {k : Nat} (h : k < 22) (hn : (wordsT[k]'h).toList ≠ s.toList) (ht : (wordsT.take k).any (fun t => t.toList == s.toList) = false) : (wordsT.take (k + 1)).any (fun t => t.toList == s.toList) = false := by
  rw [List.take_succ_eq_append_getElem h, List.any_append, ht]
  simp [hn]
theorem words_hit {s : ByteArray} {k : Nat} (h : k < 22) (he : (wordsT[k]'h).toList = s.toList) : wordB s = true := by
  unfold wordB
  rw [List.any_eq_true]
  exact ⟨wordsT[k]'h, List.getElem_mem h, by simp [he]⟩

set_option maxHeartbeats 1000000 in
theorem ref_word (s : ByteArray) (w : World) :
    Calls Tryz.prog 19 #[.string s] w fun e w' => e = .returned (.bool (wordB s)) ∧ Below w.heap.size w w' := by
  have c := ref_words w
  go_enter Tryz.func19, Tryz.ntmps19
  go_wp2_with fail
  refine c.mono ?_
  rintro e w1 ⟨rfl, ht, hb⟩
  have HT := Lib.hid ht
  have HB := Lib.hid hb
  clear ht hb c
  go_wp2_with fail
  go_loop [4] (fun i => ∃ k : Nat, k ≤ 22 ∧ i = .int .i64 k ∧ (wordsT.take k).any (fun t => t.toList == s.toList) = false) (fun i => 22 - (intOf i).toNat)
  case atStart => exact ⟨0, by omega, rfl, rfl⟩
  case round =>
    obtain ⟨k, hk, rfl, ha⟩ := hrel
    have HA := Lib.hid ha
    clear ha
    by_cases hlt : k < 22
    · have hc := HT.out.2 k hlt
      have hhit := words_hit (s := s) hlt
      have hmore := fun hn => words_more (s := s) hlt hn HA.out
      generalize wordsT[k]'hlt = t at *
      by_cases he : t.toList = s.toList
      · have HH := Lib.hid (hhit he)
        have t1 : (t.toList == s.toList) = true := by rw [beq_iff_eq]; exact he
        clear hhit hmore he
        go_wp2_with fail
        go_ret
        exact ⟨ret_bool HH.out.symm, HB.out⟩
      · have HH := Lib.hid (hmore he)
        have t1 : (t.toList == s.toList) = false := by rw [beq_eq_false_iff_ne]; exact he
        clear hhit hmore he
        go_wp2_with fail
        go_round
        case rel => exact ⟨k + 1, by omega, by go_num, HH.out⟩
        case measure => simp only [intOf]; omega
    · obtain rfl : k = 22 := by omega
      have HH := Lib.hid (show wordB s = false from HA.out)
      go_wp2_with fail
      go_ret
      exact ⟨ret_bool HH.out.symm, HB.out⟩

/-! ### sign -/
/-- What stands at a place: a token, how many bytes, the fault. -/
structure One where
  k : Nat
  s : ByteArray
  n : Int
  len : Nat
  e : Nat
def tokV (k : Nat) (s : ByteArray) (n line : Int) : Value := .agg #[.int .u8 k, .string s, .int .i64 n, .int .i64 line]
def OneSays (o : One) (w : World) (e : Ending) (w' : World) : Prop := e = .returned (.tuple #[.agg #[.int .u8 o.k, .string o.s, .int .i64 o.n, .int .i64 0], .int .i64 (o.len : Nat), .int .i64 (o.e : Nat)]) ∧ Below w.heap.size w w'

theorem one_says {o : One} {k : Nat} {s : ByteArray} {n : Int} {len e : Nat} {w w' : World} (h : o = ⟨k, s, n, len, e⟩) (hb : Below w.heap.size w w') :
    OneSays o w (.returned (.tuple #[.agg #[.int .u8 k, .string s, .int .i64 n, .int .i64 0], .int .i64 (len : Nat), .int .i64 (e : Nat)])) w' := by
  subst h
  exact ⟨rfl, hb⟩

theorem four_set {w0 w : World} {B g : Nat} {v0 v1 v2 v3 : Value} (h : Below B w0 w) (hg : B ≤ g) :
    Below B w0 ((((w.setCell ⟨g, 0, none⟩ v0).setCell ⟨g, 1, none⟩ v1).setCell ⟨g, 2, none⟩ v2).setCell ⟨g, 3, none⟩ v3) :=
  (((h.setCell (p := ⟨g, 0, none⟩) hg _).setCell (p := ⟨g, 1, none⟩) hg _).setCell (p := ⟨g, 2, none⟩) hg _).setCell (p := ⟨g, 3, none⟩) hg _

def bestL (l : List UInt8) : List ByteArray → ByteArray → ByteArray
  | [], b => b
  | t :: r, b => bestL l r (if (t.data.toList.isPrefixOf l && decide (b.size < t.size)) = true then t else b)
def signT (l : List UInt8) : ByteArray := bestL l signsT ⟨#[]⟩
def signO (l : List UInt8) : One :=
  if (signT l).size = 0 then (if hd l = 47 ∨ hd l = 94 then ⟨0, ⟨#[]⟩, 0, 0, 31⟩ else ⟨0, ⟨#[]⟩, 0, 0, 30⟩) else ⟨3, signT l, 0, (signT l).size, 0⟩

theorem best_more {l : List UInt8} {k : Nat} {b : ByteArray} (h : k < 31) : bestL l (signsT.drop k) b = bestL l (signsT.drop (k + 1)) (if ((signsT[k]'h).data.toList.isPrefixOf l && decide (b.size < (signsT[k]'h).size)) = true then signsT[k]'h else b) := by
  rw [List.drop_eq_getElem_cons (show k < signsT.length from h)]; rfl
theorem signs_small : ∀ k (h : k < 31), (signsT[k]'h).size ≤ 3 := by decide

theorem cell_of_heap4 {w : World} {b : Nat} {cs : Array Value} {T : TypeId} (h : w.heap[b]? = some (.cells cs T (0, 0))) (j : Nat) (v : Value) (hv : cs[j]? = some v) : w.cell? ⟨b, j, none⟩ = some v := by
  rw [Lib.cell_of_heap h]; exact hv
theorem free_of_heap4 {w : World} {b : Nat} {cs : Array Value} {T : TypeId} (h : w.heap[b]? = some (.cells cs T (0, 0))) (j : Nat) : w.frozen? ⟨b, j, none⟩ = false := Lib.frozen_of_heap h j
theorem empty_not {t : ByteArray} (h : t.size ≠ 0) : t.toList.isEmpty = false := by
  rw [ByteArray.toList_eq]
  have hl : t.data.toList.length = t.size := rfl
  cases h2 : t.data.toList with
  | nil => rw [h2] at hl; simp at hl; omega
  | cons c r => rfl
theorem empty_yes {t : ByteArray} (h : t.size = 0) : t.toList.isEmpty = true := by
  rw [ByteArray.toList_eq]
  have hl : t.data.toList.length = t.size := rfl
  cases h2 : t.data.toList with
  | nil => rfl
  | cons c r => rw [h2] at hl; simp at hl; omega

set_option maxHeartbeats 2000000 in
set_option maxRecDepth 100000 in
theorem ref_sign (s : ByteArray) (i : Nat) (w : World) (hs : s.size ≤ 1000000000) (hi : i < s.size) :
    Calls Tryz.prog 57 #[.string s, .int .i64 i] w (OneSays (signO (s.data.toList.drop i)) w) := by
  have hx := run_index_at (P := Tryz.prog) 9 s (i : Int) i Tryz.underlying9 hi rfl
  have HO := Lib.hid (hd_at hi)
  go_enter Tryz.func57, Tryz.ntmps57
  go_wp2_with fail
  refine (ref_signs _).mono ?_
  rintro e w1 ⟨rfl, ht, hb⟩
  simp only [World.size_alloc] at ht
  have HT := Lib.hid ht
  have HB := Lib.hid (((Below.refl _ w).alloc (Nat.le_refl _) (.cells #[.int .u8 0, .string ⟨#[]⟩, .int .i64 0, .int .i64 0] 25)).trans (hb.mono (by simp)))
  have hcell : w1.heap[w.heap.size]? = some (.cells #[.int .u8 0, .string ⟨#[]⟩, .int .i64 0, .int .i64 0] 25 (0, 0)) := by
    rw [hb.block w.heap.size (by simp)]
    exact heap_alloc_new w _
  have HCE := Lib.hid hcell
  clear ht hb hcell
  go_wp2_with fail
  generalize hl : s.data.toList.drop i = l at *
  go_loop [7, 9] (fun b k => ∃ (m : Nat) (t : ByteArray), m ≤ 31 ∧ k = .int .i64 m ∧ b = .string t ∧ t.size ≤ 3 ∧ bestL l (signsT.drop m) t = signT l) (fun _ k => 31 - (intOf k).toNat)
  case atStart => exact ⟨0, ⟨#[]⟩, by omega, rfl, rfl, by decide, rfl⟩
  case round =>
    obtain ⟨m, t, hm, rfl, rfl, ht3, hbest⟩ := hrel
    by_cases hlt : m < 31
    · have hc := HT.out.2 m hlt
      have hmore := best_more (l := l) (b := t) hlt
      have hsm := signs_small m hlt
      have HQ := Lib.hid (hmore.symm.trans hbest)
      clear hmore hbest
      generalize signsT[m]'hlt = u at *
      have cs := fun w => ref_starts s u i w hs (by omega) (by omega)
      rw [show startsAt s u i = u.data.toList.isPrefixOf l from by unfold startsAt; rw [hl]] at cs
      cases hp : u.data.toList.isPrefixOf l
      · rw [hp] at cs
        have HR := Lib.hid (show bestL l (signsT.drop (m + 1)) t = signT l by rw [← HQ.out, hp, Bool.false_and, if_neg (by decide)])
        clear hp HQ
        go_wp2_with fail
        refine (cs _).mono ?_
        rintro e w2 ⟨rfl, rfl⟩
        go_wp2_with fail
        go_round
        case rel => exact ⟨m + 1, t, by omega, by go_num, rfl, ht3, HR.out⟩
        case measure => simp only [intOf]; omega
      · rw [hp] at cs
        by_cases hz : t.size < u.size
        · have hz' : (t.size : Int) < u.size := by omega
          have HR := Lib.hid (show bestL l (signsT.drop (m + 1)) u = signT l by rw [← HQ.out, hp, decide_eq_true hz, Bool.true_and, if_pos rfl])
          clear hp HQ
          go_wp2_with fail
          refine (cs _).mono ?_
          rintro e w2 ⟨rfl, rfl⟩
          go_wp2_with fail
          go_round
          case rel => exact ⟨m + 1, u, by omega, by go_num, rfl, hsm, HR.out⟩
          case measure => simp only [intOf]; omega
        · have hz' : ¬ (t.size : Int) < u.size := by omega
          have HR := Lib.hid (show bestL l (signsT.drop (m + 1)) t = signT l by rw [← HQ.out, hp, decide_eq_false hz, Bool.true_and, if_neg (by decide)])
          clear hp HQ
          go_wp2_with fail
          refine (cs _).mono ?_
          rintro e w2 ⟨rfl, rfl⟩
          go_wp2_with fail
          go_round
          case rel => exact ⟨m + 1, t, by omega, by go_num, rfl, ht3, HR.out⟩
          case measure => simp only [intOf]; omega
    · obtain rfl : m = 31 := by omega
      have hS : t = signT l := hbest
      have k0 := cell_of_heap4 HCE.out 0 (.int .u8 0) rfl
      have k1 := cell_of_heap4 HCE.out 1 (.string ⟨#[]⟩) rfl
      have k2 := cell_of_heap4 HCE.out 2 (.int .i64 0) rfl
      have k3 := cell_of_heap4 HCE.out 3 (.int .i64 0) rfl
      have f0 := free_of_heap4 HCE.out 0
      have f1 := free_of_heap4 HCE.out 1
      have f2 := free_of_heap4 HCE.out 2
      have f3 := free_of_heap4 HCE.out 3
      by_cases hz : t.size = 0
      · have he := empty_yes hz
        by_cases h47 : byteAt s i = 47
        · have t1 : (((byteAt s i : Nat) : Int) == 47) = true := by rw [h47]; rfl
          have HO2 := Lib.hid (show signO l = ⟨0, ⟨#[]⟩, 0, 0, 31⟩ by unfold signO; rw [← hS, if_pos hz, HO.out, if_pos (.inl h47)])
          clear hbest hS HO h47
          generalize byteAt s i = b at *
          go_wp2_with fail
          refine bodyPost_ret (v := .tuple #[.agg #[.int .u8 0, .string ⟨#[]⟩, .int .i64 0, .int .i64 0], .int .i64 0, .int .i64 31]) (by simp [results, Tryz.results57, go_sem, k0, k1, k2, k3]) rfl ?_
          exact one_says HO2.out (four_set HB.out (Nat.le_refl _))
        · have t1 : (((byteAt s i : Nat) : Int) == 47) = false := by rw [beq_eq_false_iff_ne]; omega
          by_cases h94 : byteAt s i = 94
          · have t2 : (((byteAt s i : Nat) : Int) == 94) = true := by rw [h94]; rfl
            have HO2 := Lib.hid (show signO l = ⟨0, ⟨#[]⟩, 0, 0, 31⟩ by unfold signO; rw [← hS, if_pos hz, HO.out, if_pos (.inr h94)])
            clear hbest hS HO h47 h94
            generalize byteAt s i = b at *
            go_wp2_with fail
            refine bodyPost_ret (v := .tuple #[.agg #[.int .u8 0, .string ⟨#[]⟩, .int .i64 0, .int .i64 0], .int .i64 0, .int .i64 31]) (by simp [results, Tryz.results57, go_sem, k0, k1, k2, k3]) rfl ?_
            exact one_says HO2.out (four_set HB.out (Nat.le_refl _))
          · have t2 : (((byteAt s i : Nat) : Int) == 94) = false := by rw [beq_eq_false_iff_ne]; omega
            have HO2 := Lib.hid (show signO l = ⟨0, ⟨#[]⟩, 0, 0, 30⟩ by unfold signO; rw [← hS, if_pos hz, HO.out, if_neg (by omega)])
            clear hbest hS HO h47 h94
            generalize byteAt s i = b at *
            go_wp2_with fail
            refine bodyPost_ret (v := .tuple #[.agg #[.int .u8 0, .string ⟨#[]⟩, .int .i64 0, .int .i64 0], .int .i64 0, .int .i64 30]) (by simp [results, Tryz.results57, go_sem, k0, k1, k2, k3]) rfl ?_
            exact one_says HO2.out (four_set HB.out (Nat.le_refl _))
      · have he := empty_not hz
        have HO2 := Lib.hid (show signO l = ⟨3, t, 0, t.size, 0⟩ by unfold signO; rw [← hS, if_neg hz])
        clear hbest hS
        go_wp2_with fail
        refine bodyPost_ret (v := .tuple #[.agg #[.int .u8 3, .string t, .int .i64 0, .int .i64 0], .int .i64 t.size, .int .i64 0]) (by simp [results, Tryz.results57, go_sem, k0, k1, k2, k3]) rfl ?_
        exact one_says HO2.out (four_set HB.out (Nat.le_refl _))

end Go.Proofs.YtajeghkmgcpgiaaGreatDoor.Lex
