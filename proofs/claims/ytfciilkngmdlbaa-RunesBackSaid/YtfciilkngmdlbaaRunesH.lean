/-
  twinstepref01.Each and twinstepref01.Valid, by contracts.
-/
import Derived.Test.YtfciilkngmdlbaaRunesG
import Derived.Test.YtfciilkngmdlbaaRunesD
namespace Go.Proofs.Ytfciilkngmdlbaa
open Go.RowKit

theorem ref_one_is (s : ByteArray) (p : Nat) (c k : Int) (w : World) (hs : s.size ≤ 1000000000) (hp : p < s.size) (h : oneAt s p = (c, k)) :
    Calls Try.prog 27 #[.string s, .int .i64 p] w fun e w' => e = .returned (.tuple #[.int .i32 c, .int .i64 k]) ∧ Below w.heap.size w w' := by
  have := ref_one s p w hs hp
  unfold OnePost at this
  rwa [h] at this

theorem one_cases (s : ByteArray) (p : Nat) (h : p < s.size) :
    (oneAt s p = (((Utf8.decode s p).1 : Int), 0) ∧ (Utf8.decode s p).2 = 1 ∧ (Utf8.decode s p).1 = 65533) ∨ (oneAt s p = (((Utf8.decode s p).1 : Int), ((Utf8.decode s p).2 : Int)) ∧ ¬ ((Utf8.decode s p).1 = 65533 ∧ (Utf8.decode s p).2 = 1)) := by
  have hd := oneAt_dec s p h
  by_cases hc : (Utf8.decode s p).1 = 65533 ∧ (Utf8.decode s p).2 = 1
  · left; rw [if_pos hc] at hd; exact ⟨hd, hc.2, hc.1⟩
  · right; rw [if_neg hc] at hd; exact ⟨hd, hc⟩

def REachRel (s : ByteArray) (w : World) (v u i : Value) (wr : World) : Prop :=
  ∃ (pos : Nat) (acc : List (Int × Int)), i = .int .i64 pos ∧ wr.ownsRow w.heap.size 21 1 v acc.length (runeCells acc) ∧ wr.ownsRow w.heap.size 3 1 u acc.length (placeCells acc) ∧ Below w.heap.size w wr ∧
    acc ++ eachAt s pos = eachAt s 0 ∧ pos ≤ s.size ∧ acc.length ≤ pos

theorem reach_rel {s : ByteArray} {w W w1 w2 : World} {v u v' u' : Value} {pos k : Nat} {c : Int} {acc : List (Int × Int)}
    (hv2 : W.ownsRow w.heap.size 21 1 v acc.length (runeCells acc)) (hb : Below w.heap.size w W)
    (hacc : acc ++ (c, (pos : Int)) :: eachAt s (pos + k) = eachAt s 0) (hps : pos + k ≤ s.size) (hal : acc.length + 1 ≤ pos + k)
    (hv3 : w1.ownsRow w.heap.size 21 1 v' (acc.length + 1) (runeCells acc ++ [.int .i32 c])) (hg1 : (W.alloc (.cells #[.int .i32 c] 21)).grownBy w1 v.ownBlock)
    (hu3 : w1.ownsRow w.heap.size 3 1 u acc.length (placeCells acc))
    (hu4 : w2.ownsRow w.heap.size 3 1 u' (acc.length + 1) (placeCells acc ++ [.int .i64 pos])) (hg2 : (w1.alloc (.cells #[.int .i64 pos] 3)).grownBy w2 u.ownBlock) :
    REachRel s w v' u' (.int .i64 ((pos : Int) + k)) w2 := by
  have b1 := below_appended hv2 hg1 hb.size
  have b2 := below_appended hu3 hg2 (by have := b1.size; have := hb.size; omega)
  refine ⟨pos + k, acc ++ [(c, (pos : Int))], by go_num, ?_, ?_, (hb.trans b1).trans b2, by simpa using hacc, hps, by simpa using hal⟩
  · have := (hv3.alloc (.cells #[.int .i64 pos] 3)).kept hg2 (ownBlock_ne hv3 hu3 (by decide))
    simpa [runeCells] using this
  · simpa [placeCells] using hu4

theorem ownsRow_kept_below {w w' : World} {b : Nat} {e : TypeId} {size : Nat} {v : Value} {n : Nat} {xs : List Value} (h : w.ownsRow b e size v n xs) (hb : Below w.heap.size w w') : w'.ownsRow b e size v n xs := by
  refine ⟨h.1, ?_⟩
  rcases h.2 with hn | ⟨g, cap, cur, rfl, hbg, hg, rest⟩
  · exact .inl hn
  · exact .inr ⟨g, cap, cur, rfl, hbg, (hb.block g (Array.getElem?_eq_some_iff.1 hg).1).trans hg, rest⟩

set_option maxHeartbeats 2000000 in
theorem ref_each (s : ByteArray) (w : World) (hs : s.size ≤ 1000000000) :
    Calls Try.prog 21 #[.string s] w (EachPost s w) := by
  go_enter Try.func21, Try.ntmps21
  go_wp2
  go_loopw [4, 5, 6] (fun v u i wr => REachRel s w v u i wr) (fun _ _ i _ => s.size - (intOf i).toNat)
  case atStart => exact ⟨0, [], rfl, World.ownsRow_nil _ _ _ _, World.ownsRow_nil _ _ _ _, Below.refl _ _, rfl, by omega, by simp⟩
  case round =>
    obtain ⟨pos, acc, rfl, hv, hu, hb, hacc, hps, hal⟩ := hrel
    by_cases hp : pos < s.size
    · have hp' : (pos : Int) < s.size := by omega
      have hwd := dec_width s pos hp
      have hst := eachAt_step s pos hp
      have hcs := one_cases s pos hp
      rw [hst] at hacc
      clear hst
      obtain ⟨c, hc⟩ : ∃ c : Int, c = ((Utf8.decode s pos).1 : Int) := ⟨_, rfl⟩
      rw [← hc] at hacc hcs
      have hcr : c ≤ 1114111 ∧ 0 ≤ c := by omega
      clear hc
      generalize (Utf8.decode s pos).2 = k at *
      generalize (Utf8.decode s pos).1 = cc at *
      have HACC := Lib.hid hacc
      clear hacc
      rcases hcs with ⟨h1, hk, _⟩ | ⟨h1, hk⟩
      · subst hk
        have H1 := Lib.hid h1
        clear h1
        go_wp2_with fail
        refine (ref_one_is s pos _ _ _ hs hp H1.out).mono ?_
        rintro e W ⟨rfl, hb1⟩
        have hv2 := ownsRow_kept_below hv hb1
        have hu2 := ownsRow_kept_below hu hb1
        have hb2 := hb.trans (hb1.mono hb.size)
        have hsz2 := hb2.size
        clear hv hu hb hb1
        go_wp2_with (at_builtin; refine wpList_append_one rfl (.tmp 19) (.tmp 21) 25 rfl w.heap.size 21 (.int .i32 0) 4 Try.underlying25 Try.infoRune rfl _ _ _ rfl hv2 (.int .i32 c) rfl rfl ?h63 ?hby ?hba ?_)
        case h63 => unfold maxLen; omega
        case hby => omega
        case hba => omega
        intro v' w1 hv3 hg1
        have hu3 := (hu2.alloc (.cells #[.int .i32 c] 21)).kept hg1 (ownBlock_ne hu2 hv2 (by decide))
        have hsz3 := hg1.size
        simp only [World.size_alloc] at hsz3
        go_wp2_with (at_builtin; refine wpList_append_one rfl (.tmp 23) (.tmp 25) 26 rfl w.heap.size 3 (.int .i64 0) 8 Try.underlying26 Try.infoInt rfl _ _ _ rfl hu3 (.int .i64 pos) rfl rfl ?h63b ?hbyb ?hbab ?_)
        case h63b => unfold maxLen; omega
        case hbyb => omega
        case hbab => omega
        intro u' w2 hu4 hg2
        have R := Lib.hid (reach_rel (k := 1) hv2 hb2 HACC.out (by omega) (by omega) hv3 hg1 hu3 hu4 hg2)
        clear hv2 hu2 hv3 hg1 hu3 hu4 hg2 hb2
        go_wp2
        go_roundw
        case rel => exact R.out
        case measure => simp only [intOf]; omega
      · have H1 := Lib.hid h1
        have hk0 : ¬ ((k : Int) = 0) := by omega
        clear h1 hk
        go_wp2_with fail
        refine (ref_one_is s pos _ _ _ hs hp H1.out).mono ?_
        rintro e W ⟨rfl, hb1⟩
        have hv2 := ownsRow_kept_below hv hb1
        have hu2 := ownsRow_kept_below hu hb1
        have hb2 := hb.trans (hb1.mono hb.size)
        have hsz2 := hb2.size
        clear hv hu hb hb1
        go_wp2_with (at_builtin; refine wpList_append_one rfl (.tmp 19) (.tmp 21) 25 rfl w.heap.size 21 (.int .i32 0) 4 Try.underlying25 Try.infoRune rfl _ _ _ rfl hv2 (.int .i32 c) rfl rfl ?h63 ?hby ?hba ?_)
        case h63 => unfold maxLen; omega
        case hby => omega
        case hba => omega
        intro v' w1 hv3 hg1
        have hu3 := (hu2.alloc (.cells #[.int .i32 c] 21)).kept hg1 (ownBlock_ne hu2 hv2 (by decide))
        have hsz3 := hg1.size
        simp only [World.size_alloc] at hsz3
        go_wp2_with (at_builtin; refine wpList_append_one rfl (.tmp 23) (.tmp 25) 26 rfl w.heap.size 3 (.int .i64 0) 8 Try.underlying26 Try.infoInt rfl _ _ _ rfl hu3 (.int .i64 pos) rfl rfl ?h63b ?hbyb ?hbab ?_)
        case h63b => unfold maxLen; omega
        case hbyb => omega
        case hbab => omega
        intro u' w2 hu4 hg2
        have R := Lib.hid (reach_rel (k := k) hv2 hb2 HACC.out (by omega) (by omega) hv3 hg1 hu3 hu4 hg2)
        clear hv2 hu2 hv3 hg1 hu3 hu4 hg2 hb2
        go_wp2
        go_roundw
        case rel => exact R.out
        case measure => simp only [intOf]; omega
    · go_wp2
      go_ret2
      rw [eachAt_end s pos hp, List.append_nil] at hacc
      subst hacc
      exact ⟨_, _, rfl, hv, hu, hb⟩

def RvalidRel (s : ByteArray) (w : World) (i : Value) (wr : World) : Prop :=
  ∃ pos : Nat, i = .int .i64 pos ∧ Below w.heap.size w wr ∧ validAt s pos = validAt s 0 ∧ pos ≤ s.size

set_option maxHeartbeats 1000000 in
theorem ref_valid (s : ByteArray) (w : World) (hs : s.size ≤ 1000000000) :
    Calls Try.prog 22 #[.string s] w (ValidPost s w) := by
  go_enter Try.func22, Try.ntmps22
  go_wp2
  go_loopw [3] (fun i wr => RvalidRel s w i wr) (fun i _ => s.size - (intOf i).toNat)
  case atStart => exact ⟨0, rfl, Below.refl _ _, rfl, by omega⟩
  case round =>
    obtain ⟨pos, rfl, hb, hval, hps⟩ := hrel
    have HV := Lib.hid hval
    clear hval
    by_cases hp : pos < s.size
    · have hp' : (pos : Int) < s.size := by omega
      have hwd := dec_width s pos hp
      have hst := validAt_step s pos hp
      have hcs := one_cases s pos hp
      generalize (Utf8.decode s pos).2 = k at *
      generalize (Utf8.decode s pos).1 = cc at *
      rcases hcs with ⟨h1, hk, h65⟩ | ⟨h1, hk⟩
      · have hf : validAt s pos = false := by rw [hst, hk, h65]; rfl
        have HF := Lib.hid hf
        have H1 := Lib.hid h1
        clear hst hk h65 hf h1
        go_wp2_with fail
        refine (ref_one_is s pos _ _ _ hs hp H1.out).mono ?_
        rintro e W ⟨rfl, hb1⟩
        go_wp2
        go_ret
        exact ⟨by rw [← HV.out, HF.out]; rfl, hb.trans (hb1.mono hb.size)⟩
      · have hf : validAt s (pos + k) = validAt s pos := by
          rw [hst]
          by_cases h65 : cc = 65533
          · rw [decide_eq_false (show ¬ k = 1 from fun h => hk ⟨h65, h⟩)]; simp
          · rw [decide_eq_false h65]; simp
        have HF := Lib.hid hf
        have H1 := Lib.hid h1
        have hk0 : ¬ ((k : Int) = 0) := by omega
        clear hst hk hf h1
        go_wp2_with fail
        refine (ref_one_is s pos _ _ _ hs hp H1.out).mono ?_
        rintro e W ⟨rfl, hb1⟩
        go_wp2
        go_roundw
        case rel => exact ⟨pos + k, by go_num, hb.trans (hb1.mono hb.size), HF.out.trans HV.out, by omega⟩
        case measure => simp only [intOf]; omega
    · have hf : validAt s pos = true := validAt_end s pos hp
      have HF := Lib.hid hf
      clear hf
      go_wp2
      go_ret
      exact ⟨by rw [← HV.out, HF.out]; rfl, hb⟩

end Go.Proofs.Ytfciilkngmdlbaa
