import Derived.Test.YthejclgihhfenaaGreatCm37
import Derived.Test.YthejclgihhfenaaGreatCm5
/-
  Layer 14: what the developers' calls say of a heap that is none, together.
-/
namespace Go.Proofs.YthejclgihhfenaaGreat.Hd
open Go Go.RowKit Go.Proofs.YthejclgihhfenaaGreat.Pl Go.Proofs.YthejclgihhfenaaGreat.Tb Go.Proofs.YthejclgihhfenaaGreat.Vm Go.Proofs.YthejclgihhfenaaGreat.Hp Go.Proofs.YthejclgihhfenaaGreat.Td

theorem dead_says : Hp.DeadSays Dead where
  keep h hb := h.below hb
  str s h := dead_str s h
  table h := dead_table h
  cell v h _ := dead_cell v h
  func h := dead_func h
  thread h := dead_thread h
  next v k h _ _ := dead_next v k h
  text v h _ := dead_text v h
  proto v h _ := dead_proto v h
  known s h := dead_known s h
  watch h := dead_watch h
  set v k x h _ _ _ := dead_set v k x h
  setMeta v k h _ _ := dead_setmeta v k h
  store v k h _ _ := dead_store v k h
  free v h _ := dead_free v h
  state v h _ := dead_state v h
  has v h _ := dead_has v h
  used h := dead_used h
  max h := dead_max h
  objects h := dead_objects h
  kids v h _ := dead_kids v h
  dirty h := dead_dirty h
  cells v h _ := dead_cells v h
  len v h _ := dead_len v h
  serial v h _ := dead_serial v h
  get v k h _ _ := dead_get v k h
  met v h _ := dead_meta v h
  load v h _ := dead_load v h
  nil _ := .inl rfl
  zero w := .inr ⟨w.heap.size, rfl, cell_of (new_block w _) 0 _ rfl⟩
end Go.Proofs.YthejclgihhfenaaGreat.Hd
