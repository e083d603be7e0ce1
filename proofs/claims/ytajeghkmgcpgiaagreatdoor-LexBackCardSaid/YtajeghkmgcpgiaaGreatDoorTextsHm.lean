/-
  Long brackets: mathematics.
-/
import Derived.Test.YtajeghkmgcpgiaaGreatDoorTextsGm
import Derived.Lib.IndexMore
namespace Go.Proofs.YtajeghkmgcpgiaaGreatDoor
open Go.RowKit

def eqT (k : Nat) : ByteArray := ⟨(List.replicate k 61).toArray⟩
def closeL (k : Nat) : List UInt8 := 93 :: (List.replicate k 61 ++ [93])
def meets (l : List UInt8) (k : Nat) : Bool := Lib.contains (l ++ [93]) (closeL k)
def longFrom (l : List UInt8) : Nat → Nat → Nat
  | 0, k => k
  | f + 1, k => if meets l k then longFrom l f (k + 1) else k
def longK (l : List UInt8) : Nat := longFrom l (l.length + 1) 0
def longL (l : List UInt8) : List UInt8 := 91 :: (List.replicate (longK l) 61 ++ ([91, 10] ++ (l ++ closeL (longK l))))
def longT (l : List UInt8) : ByteArray := ⟨(longL l).toArray⟩
def cr (l : List UInt8) : Bool := Lib.contains l [13]

theorem eqT_list (k : Nat) : (eqT k).data.toList = List.replicate k 61 := rfl
theorem eqT_size (k : Nat) : (eqT k).size = k := by show (List.replicate k (61 : UInt8)).length = k; simp
theorem eqT_more (k : Nat) : eqT k ++ ⟨#[61]⟩ = eqT (k + 1) := by
  apply ByteArray.ext
  apply Array.ext'
  rw [cat_list, eqT_list, eqT_list, List.replicate_succ']
theorem meets_room {l : List UInt8} {k : Nat} (h : meets l k = true) : k + 1 ≤ l.length := by
  have h1 : 0 ≤ Lib.index (l ++ [93]) (closeL k) := by simpa [meets, Lib.contains] using h
  have h2 := Lib.index_room _ _ h1
  have h3 : (closeL k).length = k + 2 := by simp [closeL]
  rw [h3, List.length_append] at h2
  have : ([93] : List UInt8).length = 1 := rfl
  omega
theorem close_list (k : Nat) : ((⟨#[93]⟩ : ByteArray) ++ eqT k ++ ⟨#[93]⟩).data.toList = closeL k := by
  rw [cat_list, cat_list, eqT_list]; rfl
theorem meets_of (s : ByteArray) (k : Nat) : Lib.contains (s ++ (⟨#[93]⟩ : ByteArray)).data.toList ((⟨#[93]⟩ : ByteArray) ++ eqT k ++ ⟨#[93]⟩).data.toList = meets s.data.toList k := by
  rw [close_list, cat_list]; rfl
theorem long_list (s : ByteArray) (k : Nat) (h : k = longK s.data.toList) : (⟨#[91]⟩ : ByteArray) ++ eqT k ++ ⟨#[91, 10]⟩ ++ s ++ ⟨#[93]⟩ ++ eqT k ++ ⟨#[93]⟩ = longT s.data.toList := by
  apply ByteArray.ext
  apply Array.ext'
  rw [cat_list, cat_list, cat_list, cat_list, cat_list, cat_list, eqT_list, h]
  simp [longT, longL, closeL]

def longV (l : List UInt8) : ByteArray := if cr l then ⟨#[]⟩ else longT l
def longO (l : List UInt8) : Bool := !cr l
def LongIs (s : ByteArray) (e : Ending) : Prop := e = .returned (.tuple #[.string (longV s.data.toList), .bool (longO s.data.toList)])

end Go.Proofs.YtajeghkmgcpgiaaGreatDoor
