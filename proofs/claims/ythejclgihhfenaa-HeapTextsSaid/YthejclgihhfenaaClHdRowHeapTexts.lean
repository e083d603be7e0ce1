/-
  The same bytes are always the same text, other bytes another one: the law HeapTexts returns true for every row that it may be handed. No condition.
-/
import Derived.Test.YthejclgihhfenaaClT3
import Derived.Test.YthejclgihhfenaaCm35
namespace Go.Proofs.Ythejclgihhfenaa.heapTexts
theorem proved : Rows.HeapTextsSaid := over Hd.HP Hd.heap_says
end Go.Proofs.Ythejclgihhfenaa.heapTexts
