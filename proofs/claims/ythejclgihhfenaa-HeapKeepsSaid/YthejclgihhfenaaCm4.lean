import Derived.WalkKit
import Derived.Laws.IdiomStrings
import Derived.Lib.DecodeN
/-
  Plain arithmetic of characters as bytes: nothing of the program.
-/
namespace Go.Proofs.Ythejclgihhfenaa
open Go

/-- The bytes of a number, by the least form. -/
def encI (n : Int) : List Int :=
  if n < 128 then [n]
  else if n < 2048 then [192 + n / 64, 128 + n % 64]
  else if n < 65536 then [224 + n / 4096, 128 + n / 64 % 64, 128 + n % 64]
  else if n < 2097152 then [240 + n / 262144, 128 + n / 4096 % 64, 128 + n / 64 % 64, 128 + n % 64]
  else if n < 67108864 then [248 + n / 16777216, 128 + n / 262144 % 64, 128 + n / 4096 % 64, 128 + n / 64 % 64, 128 + n % 64]
  else [252 + n / 1073741824, 128 + n / 16777216 % 64, 128 + n / 262144 % 64, 128 + n / 4096 % 64, 128 + n / 64 % 64, 128 + n % 64]

def bytesOf (l : List Int) : ByteArray := ⟨(l.map fun x => UInt8.ofNat x.toNat).toArray⟩

/-- What Encode answers: the text, and the error. -/
def encS (n : Int) : ByteArray := if n < 0 ∨ 2147483647 < n then ⟨#[]⟩ else bytesOf (encI n)
def encE (n : Int) : Int := if n < 0 ∨ 2147483647 < n then 10 else 0

theorem i64_and63 (n : Int) : bits .and .i64 n 63 = n % 64 := by
  have h63 : (BitVec.ofInt 64 63).toNat = 2 ^ 6 - 1 := by decide
  have key : (BitVec.ofInt 64 n &&& BitVec.ofInt 64 63).toNat = (n % ((2 ^ 64 : Nat) : Int)).toNat % 2 ^ 6 := by
    rw [BitVec.toNat_and, BitVec.toNat_ofInt, h63, Nat.and_two_pow_sub_one_eq_mod]
  show IntKind.i64.wrap ((BitVec.ofInt 64 n &&& BitVec.ofInt 64 63).toNat : Nat) = n % 64
  rw [key, IntKind.wrap_i64]
  omega

theorem u8_or248 (y : Int) (h₀ : 0 ≤ y) (h₁ : y < 4) : bits .or .u8 248 y = 248 + y :=
  bits_join .u8 8 (by decide) wraps_u8 2 248 y (by decide) (by decide) (by decide) h₀ h₁ (by omega)
theorem u8_or252 (y : Int) (h₀ : 0 ≤ y) (h₁ : y < 2) : bits .or .u8 252 y = 252 + y :=
  bits_join .u8 8 (by decide) wraps_u8 1 252 y (by decide) (by decide) (by decide) h₀ h₁ (by omega)

theorem foldl_push_bytes : ∀ (l : List Int) (r : ByteArray), l.foldl (fun r n => r.push (UInt8.ofNat n.toNat)) r = ⟨r.data ++ (l.map fun x => UInt8.ofNat x.toNat).toArray⟩
  | [], r => by simp
  | b :: l, r => by
    simp only [List.foldl_cons]
    rw [foldl_push_bytes l]
    simp [ByteArray.push]

/-- 'string(b)' where b's cells hold the numbers l. -/
theorem run_convert_ints {P : Program} (w : World) (src dst e : TypeId) (a : Addr) (cap : Nat) (l : List Int) (hs : P.underlying src = some (.slice e)) (he : P.underlying e = some (.int .u8)) (hd : P.underlying dst = some .string)
    (hc : ∀ j (hj : j < l.length), w.cell? (a.add j) = some (.int .u8 l[j])) :
    (convert src dst (.slice (some a) l.length cap)).run P w = .ok (.string (bytesOf l)) w := by
  rw [run_convert_bytes_string w src dst e (some a) l.length cap hs he hd]
  have hl := run_loadCells_list (P := P) w a (l.map (Value.int .u8)) (fun j v hj => by
    have hj' : j < l.length := by
      have := (List.getElem?_eq_some_iff.1 hj).1
      simpa using this
    rw [hc j hj']
    simp [List.getElem?_eq_getElem hj'] at hj
    rw [← hj])
  simp only [List.length_map] at hl
  rw [run_bytesToString w a l.length cap _ hl, foldl_push_bytes]
  have he0 : ByteArray.empty.data = #[] := rfl
  rw [he0]
  simp [bytesOf]

/-- 'string(b)' where b is a new block that is known whole. -/
theorem run_convert_block {P : Program} (w : World) (src dst e : TypeId) (l : List Int) (fr : Nat × Nat) (hs : P.underlying src = some (.slice e)) (he : P.underlying e = some (.int .u8)) (hd : P.underlying dst = some .string) :
    (convert src dst (.slice (some ⟨w.heap.size, 0, none⟩) l.length l.length)).run P (w.alloc (.cells (l.map (Value.int .u8)).toArray e fr)) = .ok (.string (bytesOf l)) (w.alloc (.cells (l.map (Value.int .u8)).toArray e fr)) :=
  run_convert_ints _ src dst e _ _ l hs he hd (fun j hj => by
    have ha : (⟨w.heap.size, 0, none⟩ : Addr).add j = ⟨w.heap.size, j, none⟩ := by simp [Addr.add]; omega
    rw [ha, World.cell?_alloc_mark]
    simp [hj])

end Go.Proofs.Ythejclgihhfenaa
