/-
  twinstepref03: Long, by contract.
-/
import Derived.Test.YtmioidbffnjoiaaDoorTextsG
import Derived.Lib.IndexMore
namespace Go.Proofs.YtmioidbffnjoiaaDoor
open Go.RowKit

def eqT (k : Nat) : ByteArray := ⟨(List.replicate k 61).toArray⟩
def closeL (k : Nat) : List UInt8 := 93 :: (List.replicate k 61 ++ [93])
def meets (l : List UInt8) (k : Nat) : Bool := Lib.contains (l ++ [93]) (closeL k)
def longFrom (l : List UInt8) : Nat → Nat → Nat
  | 0, k => k
  | f + 1, k => if meets l k then longFrom l f (k + 1) else k
def longK (l : List UInt8) : Nat := longFrom l (l.length + 1) 0
def longL (l : List UInt8) : List UInt8 := 91 :: (List.replicate (longK l) 61 ++ ([91, 10] ++ (l ++ closeL (longK l))))
def longT (l : List UInt8) : ByteArray := ⟨(longL l).toArray⟩
def cr (l : List UInt8) : Bool := Lib.contains l [13]

theorem eqT_list (k : Nat) : (eqT k).data.toList = List.replicate k 61 := rfl
theorem eqT_size (k : Nat) : (eqT k).size = k := by show (List.replicate k (61 : UInt8)).length = k; simp
theorem eqT_more (k : Nat) : eqT k ++ ⟨#[61]⟩ = eqT (k + 1) := by
  apply ByteArray.ext
  apply Array.ext'
  rw [cat_list, eqT_list, eqT_list, List.replicate_succ']
theorem meets_room {l : List UInt8} {k : Nat} (h : meets l k = true) : k + 1 ≤ l.length := by
  have h1 : 0 ≤ Lib.index (l ++ [93]) (closeL k) := by simpa [meets, Lib.contains] using h
  have h2 := Lib.index_room _ _ h1
  have h3 : (closeL k).length = k + 2 := by simp [closeL]
  rw [h3, List.length_append] at h2
  have : ([93] : List UInt8).length = 1 := rfl
  omega
theorem close_list (k : Nat) : ((⟨#[93]⟩ : ByteArray) ++ eqT k ++ ⟨#[93]⟩).data.toList = closeL k := by
  rw [cat_list, cat_list, eqT_list]; rfl
theorem meets_of (s : ByteArray) (k : Nat) : Lib.contains (s ++ (⟨#[93]⟩ : ByteArray)).data.toList ((⟨#[93]⟩ : ByteArray) ++ eqT k ++ ⟨#[93]⟩).data.toList = meets s.data.toList k := by
  rw [close_list, cat_list]; rfl
theorem long_list (s : ByteArray) (k : Nat) (h : k = longK s.data.toList) : (⟨#[91]⟩ : ByteArray) ++ eqT k ++ ⟨#[91, 10]⟩ ++ s ++ ⟨#[93]⟩ ++ eqT k ++ ⟨#[93]⟩ = longT s.data.toList := by
  apply ByteArray.ext
  apply Array.ext'
  rw [cat_list, cat_list, cat_list, cat_list, cat_list, cat_list, eqT_list, h]
  simp [longT, longL, closeL]

def longV (l : List UInt8) : ByteArray := if cr l then ⟨#[]⟩ else longT l
def longO (l : List UInt8) : Bool := !cr l
def LongIs (s : ByteArray) (e : Ending) : Prop := e = .returned (.tuple #[.string (longV s.data.toList), .bool (longO s.data.toList)])

set_option maxHeartbeats 2000000 in
set_option maxRecDepth 100000 in
theorem ref_long (s : ByteArray) (w : World) (hs : s.size ≤ 100000000) :
    Calls Tryd.prog 14 #[.string s] w fun e w' => LongIs s e ∧ Below w.heap.size w w' := by
  go_enter Tryd.func14, Tryd.ntmps14
  have c0 := fun w => ref_has s ⟨#[13]⟩ w (by omega) (by decide)
  rw [show Lib.contains s.data.toList (⟨#[13]⟩ : ByteArray).data.toList = cr s.data.toList from rfl] at c0
  go_wp2_with fail
  refine (c0 _).mono ?_
  rintro e w1 ⟨rfl, rfl⟩
  cases hc : cr s.data.toList
  · go_wp2_with fail
    go_loopw [4] (fun v wr => ∃ k : Nat, k ≤ s.size ∧ v = .string (eqT k) ∧ longFrom s.data.toList (s.size + 1 - k) k = longK s.data.toList ∧ Below w.heap.size w wr) (fun v _ => match v with | .string b => s.size + 1 - b.size | _ => 0)
    case atStart => exact ⟨0, by omega, rfl, rfl, Below.refl _ _⟩
    case round =>
      obtain ⟨k, hk, rfl, hf, hb⟩ := hrel
      have HB := Lib.hid hb
      have o1 : (⟨#[93]⟩ : ByteArray).size = 1 := rfl
      have o2 : (⟨#[61]⟩ : ByteArray).size = 1 := rfl
      have o3 : (⟨#[91]⟩ : ByteArray).size = 1 := rfl
      have o4 : (⟨#[91, 10]⟩ : ByteArray).size = 2 := rfl
      have ek := eqT_size k
      have s1 : (s ++ ⟨#[93]⟩).size = s.size + 1 := by rw [ByteArray.size_append]; omega
      have s2 : ((⟨#[93]⟩ : ByteArray) ++ eqT k).size = k + 1 := by rw [ByteArray.size_append]; omega
      have s3 : ((⟨#[93]⟩ : ByteArray) ++ eqT k ++ ⟨#[93]⟩).size = k + 2 := by rw [ByteArray.size_append]; omega
      have k1 := fun w => run_string_add_sum (P := Tryd.prog) (w := w) s ⟨#[93]⟩ (by omega)
      have k2 := fun w => run_string_add_sum (P := Tryd.prog) (w := w) ⟨#[93]⟩ (eqT k) (by omega)
      have k3 := fun w => run_string_add_sum (P := Tryd.prog) (w := w) (⟨#[93]⟩ ++ eqT k) ⟨#[93]⟩ (by omega)
      have k4 := fun w => run_string_add_sum (P := Tryd.prog) (w := w) (eqT k) ⟨#[61]⟩ (by omega)
      rw [eqT_more] at k4
      have c1 := fun w => ref_has (s ++ ⟨#[93]⟩) (⟨#[93]⟩ ++ eqT k ++ ⟨#[93]⟩) w (by omega) (by omega)
      rw [meets_of] at c1
      clear c0
      have hm1 : meets s.data.toList k = true → k + 1 ≤ s.size ∧ longFrom s.data.toList (s.size + 1 - (k + 1)) (k + 1) = longK s.data.toList := by
        intro h
        have h1 : k + 1 ≤ s.size := meets_room h
        refine ⟨h1, ?_⟩
        rw [show s.size + 1 - k = s.size + 1 - (k + 1) + 1 from by omega, longFrom, if_pos h] at hf
        exact hf
      have hm2 : meets s.data.toList k = false → k = longK s.data.toList := by
        intro h
        rw [show s.size + 1 - k = s.size - k + 1 from by omega, longFrom, if_neg (by rw [h]; decide)] at hf
        exact hf
      have hl := long_list s k
      have j1 := fun w => run_string_add_sum (P := Tryd.prog) (w := w) ⟨#[91]⟩ (eqT k) (by omega)
      have z1 : ((⟨#[91]⟩ : ByteArray) ++ eqT k).size = k + 1 := by rw [ByteArray.size_append]; omega
      have j2 := fun w => run_string_add_sum (P := Tryd.prog) (w := w) (⟨#[91]⟩ ++ eqT k) ⟨#[91, 10]⟩ (by omega)
      have z2 : ((⟨#[91]⟩ : ByteArray) ++ eqT k ++ ⟨#[91, 10]⟩).size = k + 3 := by rw [ByteArray.size_append]; omega
      have j3 := fun w => run_string_add_sum (P := Tryd.prog) (w := w) (⟨#[91]⟩ ++ eqT k ++ ⟨#[91, 10]⟩) s (by omega)
      have z3 : ((⟨#[91]⟩ : ByteArray) ++ eqT k ++ ⟨#[91, 10]⟩ ++ s).size = k + 3 + s.size := by rw [ByteArray.size_append]; omega
      have j4 := fun w => run_string_add_sum (P := Tryd.prog) (w := w) (⟨#[91]⟩ ++ eqT k ++ ⟨#[91, 10]⟩ ++ s) ⟨#[93]⟩ (by omega)
      have z4 : ((⟨#[91]⟩ : ByteArray) ++ eqT k ++ ⟨#[91, 10]⟩ ++ s ++ ⟨#[93]⟩).size = k + 4 + s.size := by rw [ByteArray.size_append]; omega
      have j5 := fun w => run_string_add_sum (P := Tryd.prog) (w := w) (⟨#[91]⟩ ++ eqT k ++ ⟨#[91, 10]⟩ ++ s ++ ⟨#[93]⟩) (eqT k) (by omega)
      have z5 : ((⟨#[91]⟩ : ByteArray) ++ eqT k ++ ⟨#[91, 10]⟩ ++ s ++ ⟨#[93]⟩ ++ eqT k).size = k + 4 + s.size + k := by rw [ByteArray.size_append]; omega
      have j6 := fun w => run_string_add_sum (P := Tryd.prog) (w := w) (⟨#[91]⟩ ++ eqT k ++ ⟨#[91, 10]⟩ ++ s ++ ⟨#[93]⟩ ++ eqT k) ⟨#[93]⟩ (by omega)
      clear o1 o2 o3 o4 s1 s2 s3 z1 z2 z3 z4 z5 hf hb
      have ek2 := eqT_size (k + 1)
      have EK := Lib.hid (show eqT (k + 1) = eqT (k + 1) from rfl)
      generalize (⟨#[91]⟩ : ByteArray) ++ eqT k ++ ⟨#[91, 10]⟩ ++ s ++ ⟨#[93]⟩ ++ eqT k ++ ⟨#[93]⟩ = L7 at *
      generalize (⟨#[91]⟩ : ByteArray) ++ eqT k ++ ⟨#[91, 10]⟩ ++ s ++ ⟨#[93]⟩ ++ eqT k = L6 at *
      generalize (⟨#[91]⟩ : ByteArray) ++ eqT k ++ ⟨#[91, 10]⟩ ++ s ++ ⟨#[93]⟩ = L5 at *
      generalize (⟨#[91]⟩ : ByteArray) ++ eqT k ++ ⟨#[91, 10]⟩ ++ s = L4 at *
      generalize (⟨#[91]⟩ : ByteArray) ++ eqT k ++ ⟨#[91, 10]⟩ = L3 at *
      generalize (⟨#[91]⟩ : ByteArray) ++ eqT k = L2 at *
      generalize (⟨#[93]⟩ : ByteArray) ++ eqT k ++ ⟨#[93]⟩ = M3 at *
      generalize (⟨#[93]⟩ : ByteArray) ++ eqT k = M2 at *
      generalize s ++ (⟨#[93]⟩ : ByteArray) = S2 at *
      have HC := Lib.hid hc
      clear hc EK
      go_wp2_with fail
      refine (c1 _).mono ?_
      rintro e w1 ⟨rfl, rfl⟩
      cases hm : meets s.data.toList k
      · have HL := Lib.hid (hl (hm2 hm))
        clear hl hm2 hm1 hm c1 k1 k2 k3 k4
        go_wp2_with fail
        go_ret2
        exact ⟨by unfold LongIs longV longO; rw [HC.out, HL.out]; rfl, HB.out⟩
      · have HM := Lib.hid (hm1 hm)
        clear hl hm2 hm1 hm c1 k1 k2 k3 j1 j2 j3 j4 j5 j6
        go_wp2_with fail
        go_roundw
        case rel => exact ⟨k + 1, HM.out.1, rfl, HM.out.2, HB.out⟩
        case measure => have := HM.out.1; simp only [ek, ek2]; omega
  · go_wp2_with fail
    go_ret2
    exact ⟨by unfold LongIs longV longO; rw [hc]; rfl, Below.refl _ _⟩

end Go.Proofs.YtmioidbffnjoiaaDoor
