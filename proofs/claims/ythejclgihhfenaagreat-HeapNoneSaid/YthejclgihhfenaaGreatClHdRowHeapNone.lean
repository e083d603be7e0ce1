/-
  Missing heaps are refused, and tell nothing: the law HeapNone returns true for every value and every text. No condition.
-/
import Derived.Test.YthejclgihhfenaaGreatCm6
import Derived.Test.YthejclgihhfenaaGreatCm36
import Derived.Test.YthejclgihhfenaaGreatCm38
namespace Go.Proofs.YthejclgihhfenaaGreat.heapNone
theorem proved : Rows.HeapNoneSaid := over Hd.HP Hd.heap_says Hd.Dead Hd.dead_says
end Go.Proofs.YthejclgihhfenaaGreat.heapNone
