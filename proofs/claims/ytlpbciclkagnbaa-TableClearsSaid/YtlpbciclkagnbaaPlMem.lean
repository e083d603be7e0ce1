/-
  Lists of numbers in memory: the type's numbers.
-/
import Derived.Test.YtlpbciclkagnbaaPlMemG
namespace Go.Proofs.Ytlpbciclkagnbaa.Pl
open Go Go.RowKit
theorem infoInt : (Try.prog.info? 3).map (fun i => (i.zero, i.size, i.bytes)) = some (some (.int .i64 0), 1, 8) := by kernel_rfl
theorem elemInts : Try.prog.elem 44 = 3 := by kernel_rfl
theorem sizeInt (w : World) : (Go.sizeOf 3).run Try.prog w = .ok 1 w := by simp
end Go.Proofs.Ytlpbciclkagnbaa.Pl
