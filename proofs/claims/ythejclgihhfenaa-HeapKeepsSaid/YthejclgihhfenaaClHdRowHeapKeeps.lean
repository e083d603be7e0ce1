/-
  What is put into a cell or under a key stays there, and no two objects share a number: the law HeapKeeps returns true for every row that it may be handed. No condition.
-/
import Derived.Test.YthejclgihhfenaaClK12
import Derived.Test.YthejclgihhfenaaCm35
namespace Go.Proofs.Ythejclgihhfenaa.heapKeeps
theorem proved : Rows.HeapKeepsSaid := over Hd.HP Hd.heap_says
end Go.Proofs.Ythejclgihhfenaa.heapKeeps
