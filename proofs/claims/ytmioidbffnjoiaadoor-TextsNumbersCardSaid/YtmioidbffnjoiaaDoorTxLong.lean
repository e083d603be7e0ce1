/-
  Package texts: Long, by contract.
-/
import Derived.Test.YtmioidbffnjoiaaDoorTxLevel
import Derived.Test.YtmioidbffnjoiaaDoorShelf
import Derived.Lib.IndexBytes
namespace Go.Proofs.YtmioidbffnjoiaaDoor
open Go.RowKit

theorem byte_index (s : ByteArray) (w : World) :
    Calls Tryd.prog 21 #[.string s, .int .u8 13] w fun e w' => e = .returned (.int .i64 (Lib.indexByte s.data.toList 13)) ∧ w = w' :=
  (Tryd.strings_IndexByte s 13 w).mono fun _ _ ⟨h, h'⟩ => ⟨h, h'.symm⟩
theorem cr_is (l : List UInt8) : cr l = decide (0 ≤ Lib.indexByte l 13) := by
  unfold cr Lib.contains
  rw [Lib.index_one]

theorem closing (s : ByteArray) (k : Nat) : Closed (s ++ ⟨#[93]⟩) k (s ++ (⟨#[93]⟩ : ByteArray)).size ↔ meets s.data.toList k = true := by
  rw [← closed_all, cat_list]; rfl

theorem repeat_eq : ∀ k, Lib.repeatL [61] k = List.replicate k 61
  | 0 => rfl
  | k + 1 => by rw [Lib.repeatL, repeat_eq k, List.replicate_succ]; rfl
theorem equals_is (k : Nat) (w : World) (hk : k ≤ 1000000000) :
    Calls Tryd.prog 22 #[.string ⟨#[61]⟩, .int .i64 k] w fun e w' => e = .returned (.string (eqT k)) ∧ Below w.heap.size w w' := by
  refine (Tryd.strings_Repeat ⟨#[61]⟩ k w (by omega) (by show 1 * k ≤ _; omega)).mono ?_
  rintro e w' ⟨rfl, h⟩
  refine ⟨?_, h⟩
  rw [show (ByteArray.mk #[61]).data.toList = [61] from rfl, repeat_eq]; rfl

theorem long_ret {s T : ByteArray} {b : Bool} {w w' : World} (h1 : longV s.data.toList = T) (h2 : longO s.data.toList = b) (hb : Below w.heap.size w w') : LongIs s (.returned (.tuple #[.string T, .bool b])) ∧ Below w.heap.size w w' := by
  subst h1 h2
  exact ⟨rfl, hb⟩

set_option maxHeartbeats 2000000 in
theorem own_long (s : ByteArray) (w : World) (hs : s.size ≤ 100000000) :
    Calls Tryd.prog 9 #[.string s] w fun e w' => LongIs s e ∧ Below w.heap.size w w' := by
  have c1 := fun w => byte_index s w
  have hcr := cr_is s.data.toList
  have hge := Lib.indexByte_ge s.data.toList 13
  generalize Lib.indexByte s.data.toList 13 = x at *
  by_cases hx : 0 ≤ x
  · have HV := Lib.hid (show longV s.data.toList = ⟨#[]⟩ ∧ longO s.data.toList = false by
      rw [longV, longO, hcr, decide_eq_true hx]; exact ⟨rfl, rfl⟩)
    clear hcr
    go_enter Tryd.func9, Tryd.ntmps9
    go_wp2_with fail
    refine (c1 _).mono ?_
    rintro e w1 ⟨rfl, rfl⟩
    go_wp2_with fail
    go_ret2
    exact long_ret HV.out.1 HV.out.2 (Below.refl _ _)
  · have HV := Lib.hid (show longV s.data.toList = longT s.data.toList ∧ longO s.data.toList = true by
      rw [longV, longO, hcr, decide_eq_false hx]; exact ⟨rfl, rfl⟩)
    obtain ⟨k1, k2, k3⟩ := longK_spec s.data.toList
    have k3 : longK s.data.toList ≤ s.size := k3
    have hl : s.data.toList.length = s.size := rfl
    have hz : (s ++ (⟨#[93]⟩ : ByteArray)).size = s.size + 1 := by rw [ByteArray.size_append]; rfl
    have cl := fun w => own_level (s ++ ⟨#[93]⟩) (longK s.data.toList) w (by omega) (fun k hk => (closing s k).2 (k1 k hk)) (fun h => by rw [closing, k2] at h; cases h) (by omega)
    have HL := Lib.hid (long_list s (longK s.data.toList) rfl)
    clear hcr k1 k2 hl
    generalize longK s.data.toList = k at *
    have hk9 : k ≤ 100000000 := by omega
    have ce := fun w => equals_is k w (by omega)
    have o1 : (⟨#[93]⟩ : ByteArray).size = 1 := rfl
    have o3 : (⟨#[91]⟩ : ByteArray).size = 1 := rfl
    have o4 : (⟨#[91, 10]⟩ : ByteArray).size = 2 := rfl
    have ek := eqT_size k
    have k1 := fun w => run_string_add_sum (P := Tryd.prog) (w := w) s ⟨#[93]⟩ (by omega)
    have j1 := fun w => run_string_add_sum (P := Tryd.prog) (w := w) ⟨#[91]⟩ (eqT k) (by omega)
    have z1 : ((⟨#[91]⟩ : ByteArray) ++ eqT k).size = k + 1 := by rw [ByteArray.size_append]; omega
    have j2 := fun w => run_string_add_sum (P := Tryd.prog) (w := w) (⟨#[91]⟩ ++ eqT k) ⟨#[91, 10]⟩ (by omega)
    have z2 : ((⟨#[91]⟩ : ByteArray) ++ eqT k ++ ⟨#[91, 10]⟩).size = k + 3 := by rw [ByteArray.size_append]; omega
    have j3 := fun w => run_string_add_sum (P := Tryd.prog) (w := w) (⟨#[91]⟩ ++ eqT k ++ ⟨#[91, 10]⟩) s (by omega)
    have z3 : ((⟨#[91]⟩ : ByteArray) ++ eqT k ++ ⟨#[91, 10]⟩ ++ s).size = k + 3 + s.size := by rw [ByteArray.size_append]; omega
    have j4 := fun w => run_string_add_sum (P := Tryd.prog) (w := w) (⟨#[91]⟩ ++ eqT k ++ ⟨#[91, 10]⟩ ++ s) ⟨#[93]⟩ (by omega)
    have z4 : ((⟨#[91]⟩ : ByteArray) ++ eqT k ++ ⟨#[91, 10]⟩ ++ s ++ ⟨#[93]⟩).size = k + 4 + s.size := by rw [ByteArray.size_append]; omega
    have j5 := fun w => run_string_add_sum (P := Tryd.prog) (w := w) (⟨#[91]⟩ ++ eqT k ++ ⟨#[91, 10]⟩ ++ s ++ ⟨#[93]⟩) (eqT k) (by omega)
    have z5 : ((⟨#[91]⟩ : ByteArray) ++ eqT k ++ ⟨#[91, 10]⟩ ++ s ++ ⟨#[93]⟩ ++ eqT k).size = k + 4 + s.size + k := by rw [ByteArray.size_append]; omega
    have j6 := fun w => run_string_add_sum (P := Tryd.prog) (w := w) (⟨#[91]⟩ ++ eqT k ++ ⟨#[91, 10]⟩ ++ s ++ ⟨#[93]⟩ ++ eqT k) ⟨#[93]⟩ (by omega)
    clear o1 o3 o4 z1 z2 z3 z4 z5 hz ek
    generalize (⟨#[91]⟩ : ByteArray) ++ eqT k ++ ⟨#[91, 10]⟩ ++ s ++ ⟨#[93]⟩ ++ eqT k ++ ⟨#[93]⟩ = L7 at *
    generalize (⟨#[91]⟩ : ByteArray) ++ eqT k ++ ⟨#[91, 10]⟩ ++ s ++ ⟨#[93]⟩ ++ eqT k = L6 at *
    generalize (⟨#[91]⟩ : ByteArray) ++ eqT k ++ ⟨#[91, 10]⟩ ++ s ++ ⟨#[93]⟩ = L5 at *
    generalize (⟨#[91]⟩ : ByteArray) ++ eqT k ++ ⟨#[91, 10]⟩ ++ s = L4 at *
    generalize (⟨#[91]⟩ : ByteArray) ++ eqT k ++ ⟨#[91, 10]⟩ = L3 at *
    generalize (⟨#[91]⟩ : ByteArray) ++ eqT k = L2 at *
    generalize s ++ (⟨#[93]⟩ : ByteArray) = S2 at *
    generalize eqT k = E at *
    have hx' : decide ((0 : Int) ≤ x) = false := decide_eq_false hx
    go_enter Tryd.func9, Tryd.ntmps9
    go_wp2_with fail
    refine (c1 _).mono ?_
    rintro e w1 ⟨rfl, rfl⟩
    go_wp2_with fail
    refine (cl _).mono ?_
    rintro e w1 ⟨rfl, b1⟩
    have B1 := Lib.hid b1
    clear b1
    go_wp2_with fail
    refine (ce _).mono ?_
    rintro e w2 ⟨rfl, b2⟩
    have B2 := Lib.hid (grew_trans B1.out b2)
    clear b2
    go_wp2_with fail
    go_ret2
    exact long_ret (HV.out.1.trans HL.out.symm) HV.out.2 B2.out

end Go.Proofs.YtmioidbffnjoiaaDoor
