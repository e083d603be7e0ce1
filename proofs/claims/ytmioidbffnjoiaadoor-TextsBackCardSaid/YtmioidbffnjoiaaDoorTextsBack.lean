/-
  TextsBack.
-/
import Derived.Test.YtmioidbffnjoiaaDoorTextsBackMath
import Derived.Deep.RegionWith
namespace Go.Proofs.YtmioidbffnjoiaaDoor
open Go.RowKit

theorem run_tail {P : Program} (t : TypeId) (s : ByteArray) (d : Nat) (h : P.underlying t = some .string) (hd : d ≤ s.size) (x : Int) (hx : x = d) (w : World) :
    (Instr.slice t (.string s) (some (.int .i64 x)) none none).run P w = .ok (.string (s.extract d s.size)) w := by
  subst hx
  rw [run_slice_string_from_if w t _ .i64 _ h, if_pos ⟨by omega, by omega⟩]
  rfl
theorem run_head {P : Program} (t : TypeId) (s : ByteArray) (d : Nat) (h : P.underlying t = some .string) (hd : d ≤ s.size) (x : Int) (hx : x = d) (w : World) :
    (Instr.slice t (.string s) none (some (.int .i64 x)) none).run P w = .ok (.string (s.extract 0 d)) w := by
  subst hx
  rw [run_slice_string_to_if w t _ .i64 _ h, if_pos ⟨by omega, by omega⟩]
  rfl

set_option maxHeartbeats 4000000 in
set_option maxRecDepth 100000 in
theorem textsBack_walk (a b : ByteArray) (w : World) :
    Calls Tryd.prog 5 #[.string a, .string b] w fun e w' => e = .returned (.bool true) ∧ Below w.heap.size w w' := by
  by_cases h3 : (3000 : Int) < a.size
  · go_enter Tryd.func5, Tryd.ntmps5
    go_wp2_with fail
    refine (awake_texts _).mono ?_
    rintro e w1 ⟨rfl, b1⟩
    go_wp2
    go_ret
    exact ⟨rfl, b1⟩
  by_cases h4 : (3000 : Int) < b.size
  · go_enter Tryd.func5, Tryd.ntmps5
    go_wp2_with fail
    refine (awake_texts _).mono ?_
    rintro e w1 ⟨rfl, b1⟩
    go_wp2
    go_ret
    exact ⟨rfl, b1⟩
  obtain ⟨sa1, sa2⟩ := quote_le a
  obtain ⟨sb1, sb2⟩ := quote_le b
  obtain ⟨ua, ka⟩ := quote_told a
  have hp := quote_plain a
  have c1 := fun w => own_quote a w (by omega)
  have c2 := fun w => own_quote b w (by omega)
  have h2 := quote_two a b
  have hx := fun (k : Nat) hk => run_index_at (P := Tryd.prog) 9 (quoteT a.data.toList) (k : Int) k Tryd.underlying9 hk rfl
  generalize quoteT a.data.toList = S at *
  generalize quoteT b.data.toList = T at *
  have zS : (S.extract 0 (S.size - 1)).size ≤ 12002 := by rw [ByteArray.size_extract]; omega
  have zT : (T.extract 1 T.size).size ≤ 12002 := by rw [ByteArray.size_extract]; omega
  have x1 := run_head (P := Tryd.prog) 9 S (S.size - 1) Tryd.underlying9 (by omega) ((S.size : Int) - 1) (by omega)
  have x2 := run_tail (P := Tryd.prog) 9 T 1 Tryd.underlying9 (by omega) 1 rfl
  have k1 := fun w => run_string_add_sum (P := Tryd.prog) (w := w) (S.extract 0 (S.size - 1)) (T.extract 1 T.size) (by omega)
  have k2 := fun w => run_string_add_sum (P := Tryd.prog) (w := w) a b (by omega)
  obtain ⟨uu, ku⟩ := two_told a b _ h2
  have zU : (S.extract 0 (S.size - 1) ++ T.extract 1 T.size).size ≤ 30000 := by rw [ByteArray.size_append]; omega
  have c3 := fun w => own_unquote S w (by omega)
  have c4 := fun w => own_unquote (S.extract 0 (S.size - 1) ++ T.extract 1 T.size) w (by omega)
  unfold UnqIs at c3 c4
  rw [ua, ka] at c3
  rw [uu, ku] at c4
  clear ua ka uu ku h2 zS zT zU
  generalize S.extract 0 (S.size - 1) ++ T.extract 1 T.size = U at *
  generalize S.extract 0 (S.size - 1) = S1 at *
  generalize T.extract 1 T.size = T1 at *
  generalize a ++ b = ab at *
  have sS : (S.size : Int) ≤ 12002 := by omega
  have sT : (T.size : Int) ≤ 12002 := by omega
  have sS2 : 2 ≤ (S.size : Int) := by omega
  have sT2 : 2 ≤ (T.size : Int) := by omega
  clear sa1 sa2 sb1 sb2
  have HP := Lib.hid hp
  have HX := Lib.hid hx
  clear hp hx
  go_enter Tryd.func5, Tryd.ntmps5
  go_wp2_with fail
  refine (c1 _).mono ?_
  rintro e w1 ⟨rfl, b1⟩
  go_wp2_with fail
  refine (c2 _).mono ?_
  rintro e w2 ⟨rfl, b2⟩
  have B2 := Lib.hid (trans_below b1 b2)
  clear b1 b2 c1 c2
  go_wp2_with fail
  go_loopw [7] (fun i wr => ∃ k : Nat, k ≤ S.size ∧ i = .int .i64 k ∧ Below w.heap.size w wr) (fun i _ => S.size - (intOf i).toNat)
  case atStart => exact ⟨0, by omega, rfl, B2.out⟩
  case round =>
    obtain ⟨k, hk, rfl, hb⟩ := hrel
    have HB := Lib.hid hb
    clear hb B2
    by_cases hlt : k < S.size
    · have hlt' : (k : Int) < S.size := by omega
      have hx := HX.out k hlt
      obtain ⟨p1, p2⟩ := HP.out k hlt
      generalize byteAt S k = y at *
      have p3 : (32 : Int) ≤ y := by omega
      have p4 : (y : Int) ≤ 126 := by omega
      clear p1 p2 c3 c4 k1 k2 x1 x2 sT sT2
      go_wp2
      go_roundw
      case rel => exact ⟨k + 1, by omega, by go_num, HB.out⟩
      case measure => simp only [intOf]; omega
    · have hlt' : (S.size : Int) ≤ k := by omega
      clear HX HP
      go_wp2_with fail
      refine (c3 _).mono ?_
      rintro e w5 ⟨rfl, b5⟩
      have B5 := Lib.hid (trans_below HB.out b5)
      clear b5 c3
      have wS := IntWalk.i64_in ((S.size : Int) - 1) (by omega)
      go_wp2_with fail
      have B5d := Lib.hid (show Below w.heap.size w w5.drew from below_drewN B5.out 1)
      clear B5
      go_region_with ((go_at_call 7; refine (c4 _).mono ?_; rintro e w6 ⟨rfl, b6⟩; have B6 := Lib.hid (trans_below B5d.out b6); clear b6))
      clear c4 k1 x1 x2
      go_wp2_with fail
      refine (awake_texts _).mono ?_
      rintro e w9 ⟨rfl, b9⟩
      go_wp2
      go_ret
      exact ⟨rfl, trans_below B6.out b9⟩

end Go.Proofs.YtmioidbffnjoiaaDoor
