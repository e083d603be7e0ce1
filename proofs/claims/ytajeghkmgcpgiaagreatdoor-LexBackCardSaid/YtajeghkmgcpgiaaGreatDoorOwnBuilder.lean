/-
  strings.Builder: its methods by contracts, of a builder that the call has made.
-/
import Derived.Test.YtajeghkmgcpgiaaGreatDoorShelf
import Derived.Test.YtajeghkmgcpgiaaGreatDoorRows
import Derived.Shelf.Strings.BuilderK
import Derived.WalkKit
import Derived.BigCall
import Derived.Lib.Hide
import Derived.Test.YtajeghkmgcpgiaaGreatDoorRunesKit
namespace Go.Proofs
open Go.Shelf Go.RowKit

def Tryz.laysB_ren : Go.Shelf.Ren := ⟨fun | 166 => 60 | 167 => 59 | 240 => 83 | 276 => 106 | n => n, fun | 0 => 0 | 3 => 3 | 4 => 4 | 5 => 5 | 9 => 9 | 20 => 20 | 37 => 30 | 70 => 72 | 72 => 74 | 75 => 76 | 76 => 78 | 80 => 45 | 164 => 108 | n => n, fun | n => n⟩
theorem Tryz.laysB240 : Go.Proofs.Lays.n240 Tryz.prog Tryz.laysB_ren := {
  mixed := by kernel_rfl
  f240 := Tryz.func83.trans (congrArg some (by kernel_rfl))
  f276 := Tryz.func106.trans (congrArg some (by kernel_rfl))
  t0 := Tryz.underlying0
  a0 := Tryz.isAgg0
  z0 := Tryz.sizeOf0
  v0 := Tryz.zeroValue0
  t4 := Tryz.underlying4
  a4 := Tryz.isAgg4
  z4 := Tryz.sizeOf4
  v4 := Tryz.zeroValue4
  t9 := Tryz.underlying9
  a9 := Tryz.isAgg9
  z9 := Tryz.sizeOf9
  v9 := Tryz.zeroValue9
  t20 := Tryz.underlying20
  a20 := Tryz.isAgg20
  z20 := Tryz.sizeOf20
  v20 := Tryz.zeroValue20
  t70 := Tryz.underlying72
  a70 := Tryz.isAgg72
  z70 := Tryz.sizeOf72
  v70 := Tryz.zeroValue72
  t72 := Tryz.underlying74
  a72 := Tryz.isAgg74
  z72 := Tryz.sizeOf74
  v72 := Tryz.zeroValue74
  t164 := Tryz.underlying108
  a164 := Tryz.isAgg108
  z164 := Tryz.sizeOf108
  v164 := Tryz.zeroValue108 }
theorem Tryz.laysB166 : Go.Proofs.Lays.n166 Tryz.prog Tryz.laysB_ren := {
  mixed := by kernel_rfl
  f166 := Tryz.func60.trans (congrArg some (by kernel_rfl))
  f240 := Tryz.func83.trans (congrArg some (by kernel_rfl))
  f276 := Tryz.func106.trans (congrArg some (by kernel_rfl))
  t0 := Tryz.underlying0
  a0 := Tryz.isAgg0
  z0 := Tryz.sizeOf0
  v0 := Tryz.zeroValue0
  t3 := Tryz.underlying3
  a3 := Tryz.isAgg3
  z3 := Tryz.sizeOf3
  v3 := Tryz.zeroValue3
  t4 := Tryz.underlying4
  a4 := Tryz.isAgg4
  z4 := Tryz.sizeOf4
  v4 := Tryz.zeroValue4
  t9 := Tryz.underlying9
  a9 := Tryz.isAgg9
  z9 := Tryz.sizeOf9
  v9 := Tryz.zeroValue9
  t20 := Tryz.underlying20
  a20 := Tryz.isAgg20
  z20 := Tryz.sizeOf20
  v20 := Tryz.zeroValue20
  t37 := Tryz.underlying30
  a37 := Tryz.isAgg30
  z37 := Tryz.sizeOf30
  v37 := Tryz.zeroValue30
  t70 := Tryz.underlying72
  a70 := Tryz.isAgg72
  z70 := Tryz.sizeOf72
  v70 := Tryz.zeroValue72
  t72 := Tryz.underlying74
  a72 := Tryz.isAgg74
  z72 := Tryz.sizeOf74
  v72 := Tryz.zeroValue74
  t75 := Tryz.underlying76
  a75 := Tryz.isAgg76
  z75 := Tryz.sizeOf76
  v75 := Tryz.zeroValue76
  t164 := Tryz.underlying108
  a164 := Tryz.isAgg108
  z164 := Tryz.sizeOf108
  v164 := Tryz.zeroValue108 }
theorem Tryz.laysB167 : Go.Proofs.Lays.n167 Tryz.prog Tryz.laysB_ren := {
  mixed := by kernel_rfl
  f167 := Tryz.func59.trans (congrArg some (by kernel_rfl))
  f240 := Tryz.func83.trans (congrArg some (by kernel_rfl))
  f276 := Tryz.func106.trans (congrArg some (by kernel_rfl))
  t0 := Tryz.underlying0
  a0 := Tryz.isAgg0
  z0 := Tryz.sizeOf0
  v0 := Tryz.zeroValue0
  t4 := Tryz.underlying4
  a4 := Tryz.isAgg4
  z4 := Tryz.sizeOf4
  v4 := Tryz.zeroValue4
  t5 := Tryz.underlying5
  a5 := Tryz.isAgg5
  z5 := Tryz.sizeOf5
  v5 := Tryz.zeroValue5
  t9 := Tryz.underlying9
  a9 := Tryz.isAgg9
  z9 := Tryz.sizeOf9
  v9 := Tryz.zeroValue9
  t20 := Tryz.underlying20
  a20 := Tryz.isAgg20
  z20 := Tryz.sizeOf20
  v20 := Tryz.zeroValue20
  t37 := Tryz.underlying30
  a37 := Tryz.isAgg30
  z37 := Tryz.sizeOf30
  v37 := Tryz.zeroValue30
  t70 := Tryz.underlying72
  a70 := Tryz.isAgg72
  z70 := Tryz.sizeOf72
  v70 := Tryz.zeroValue72
  t72 := Tryz.underlying74
  a72 := Tryz.isAgg74
  z72 := Tryz.sizeOf74
  v72 := Tryz.zeroValue74
  t75 := Tryz.underlying76
  a75 := Tryz.isAgg76
  z75 := Tryz.sizeOf76
  v75 := Tryz.zeroValue76
  t164 := Tryz.underlying108
  a164 := Tryz.isAgg108
  z164 := Tryz.sizeOf108
  v164 := Tryz.zeroValue108 }
theorem Tryz.builderX : Builder.Extra Tryz.prog Tryz.laysB_ren := {
  sizeBuilder := by kernel_rfl
  liesBuilder := by kernel_rfl
  t5 := Tryz.underlying5
  a5 := Tryz.isAgg5
  z5 := Tryz.sizeOf5
  v5 := Tryz.zeroValue5
  infoByte := by kernel_rfl
  cellsByte := by kernel_rfl
  sizeByte := by kernel_rfl
  neB5 := by decide }
end Go.Proofs
namespace Go.Proofs.YtajeghkmgcpgiaaGreatDoor
open Go.RowKit Go.Shelf

/-- A builder of the call's own, in block b, that holds the bytes l; what was there at w0 stands. -/
structure Bld (w0 : World) (b : Nat) (l : List UInt8) (w : World) : Prop where
  is : Lib.IsBuilderF 74 5 w0.heap.size b (Lib.byteCells l) w
  low : Below w0.heap.size w0 w

theorem Bld.fresh (w : World) : Bld w w.heap.size [] (w.alloc (.cells #[.pointer none, .slice none 0 0] 74)) :=
  ⟨Lib.IsBuilderF.of (Lib.fresh_isBuilder _ _ w), (Below.refl _ w).alloc (Nat.le_refl _) _⟩

theorem builderAt_below {T e : TypeId} {B b : Nat} {p : Value} {bs : List Value} {w w' : World} (h : Lib.BuilderAtF T e B b p bs w) (hb : Below w.heap.size w w') : Lib.BuilderAtF T e B b p bs w' := by
  obtain ⟨h1, v, hv, hown, hne⟩ := h
  have hlt : b < w.heap.size := (Array.getElem?_eq_some_iff.1 hv).1
  refine ⟨h1, v, by rw [hb.block b hlt]; exact hv, ⟨hown.1, ?_⟩, hne⟩
  rcases hown.2 with hn | ⟨g, cap, cur, fz, rfl, hbg, hg, r⟩
  · exact .inl hn
  · exact .inr ⟨g, cap, cur, fz, rfl, hbg, by rw [hb.block g (Array.getElem?_eq_some_iff.1 hg).1]; exact hg, r⟩

/-- What a callee does that leaves all that was there as it was. -/
theorem Bld.below {w0 : World} {b : Nat} {l : List UInt8} {w w' : World} (h : Bld w0 b l w) (hb : Below w.heap.size w w') : Bld w0 b l w' :=
  ⟨h.is.elim (fun h => .inl (builderAt_below h hb)) (fun h => .inr (builderAt_below h hb)), h.low.trans (hb.mono h.low.size)⟩

theorem Bld.alloc {w0 : World} {b : Nat} {l : List UInt8} {w : World} (h : Bld w0 b l w) (o : Obj) : Bld w0 b l (w.alloc o) := h.below ((Below.refl _ w).alloc (Nat.le_refl _) o)
theorem Bld.drew {w0 : World} {b : Nat} {l : List UInt8} {w : World} (h : Bld w0 b l w) : Bld w0 b l w.drew := h.below (Below.refl _ w).drew

theorem Bld.lt {w0 : World} {b : Nat} {l : List UInt8} {w : World} (h : Bld w0 b l w) : b < w.heap.size := h.is.elim (fun h => h.lt) (fun h => h.lt)

theorem bytes_snoc (l : List UInt8) (c : Nat) (hc : c < 256) : Lib.byteCells l ++ [.int .u8 (c : Int)] = Lib.byteCells (l ++ [UInt8.ofNat c]) := by
  have e : (UInt8.ofNat c).toNat = c := by rw [UInt8.toNat_ofNat']; omega
  rw [Lib.byteCells_append]
  simp [Lib.byteCells, e]

theorem write_byte (w0 : World) (b : Nat) (l : List UInt8) (c : Nat) (W : World) (h : Bld w0 b l W) (hc : c < 256) (hl : l.length ≤ 1000000000) :
    Calls Tryz.prog 59 #[.pointer (some ⟨b, 0, none⟩), .int .u8 c] W fun e w' => e = .returned .nilIface ∧ Bld w0 b (l ++ [UInt8.ofNat c]) w' := by
  refine Calls.mono (Any.Builder_WriteByte_k Tryz.laysB167 Tryz.builderX w0.heap.size b (Lib.byteCells l) c W h.is (by rw [Lib.byteCells_length]; omega) h.low.size) ?_
  rintro e w' ⟨rfl, h1, h2, _⟩
  rw [bytes_snoc l c hc] at h1
  exact ⟨rfl, .inr h1, h.low.trans h2⟩

theorem write_text (w0 : World) (b : Nat) (l : List UInt8) (s : ByteArray) (W : World) (h : Bld w0 b l W) (hl : l.length ≤ 1000000000) (hs : s.size ≤ 1000000000) :
    Calls Tryz.prog 60 #[.pointer (some ⟨b, 0, none⟩), .string s] W fun e w' => e = .returned (.tuple #[.int .i64 s.size, .nilIface]) ∧ Bld w0 b (l ++ s.data.toList) w' := by
  refine Calls.mono (Any.Builder_WriteString_k Tryz.laysB166 Tryz.builderX w0.heap.size b (Lib.byteCells l) s W h.is (by rw [Lib.byteCells_length]; omega) h.low.size) ?_
  rintro e w' ⟨rfl, h1, h2, _⟩
  rw [Lib.strCells_eq, ← Lib.byteCells_append] at h1
  exact ⟨rfl, .inr h1, h.low.trans h2⟩

theorem builder_text (w0 : World) (b : Nat) (l : List UInt8) (W : World) (h : Bld w0 b l W) :
    Calls Tryz.prog 62 #[.pointer (some ⟨b, 0, none⟩)] W fun e w' => e = .returned (.string ⟨l.toArray⟩) ∧ Bld w0 b l w' := by
  refine (Tryz.Builder_String_any_f w0.heap.size b l W h.is h.low.size).mono ?_
  rintro e w' ⟨rfl, h1, h2⟩
  exact ⟨rfl, h1, h.low.trans h2⟩

/-- copyCheck: it turns the builder's own block alone. -/
theorem copy_check (w0 : World) (b : Nat) (l : List UInt8) (W : World) (h : Bld w0 b l W) :
    Calls Tryz.prog 83 #[.pointer (some ⟨b, 0, none⟩)] W fun e w' => e = .returned (.tuple #[]) ∧ Lib.BuilderAtF 74 5 w0.heap.size b (.pointer (some ⟨b, 0, none⟩)) (Lib.byteCells l) w' ∧ Below w0.heap.size W w' ∧ (∀ k, k ≠ b → w'.heap[k]? = W.heap[k]?) ∧ w'.heap.size = W.heap.size := by
  rcases h.is with h1 | h1
  · refine Calls.mono (Any.Builder_copyCheck_fresh Tryz.laysB240 Tryz.builderX.toX72 b W h1.cell0 h1.shape h1.frozen0) ?_
    rintro e w' ⟨rfl, rfl⟩
    exact ⟨rfl, h1.used _, (Below.refl _ W).setCell (p := ⟨b, 0, none⟩) h1.1 _, fun k hk => Below.heap_setCell _ _ _ _ hk, by simp⟩
  · refine Calls.mono (Any.Builder_copyCheck_used Tryz.laysB240 Tryz.builderX.toX72 b W h1.cell0) ?_
    rintro e w' ⟨rfl, rfl⟩
    exact ⟨rfl, h1, Below.refl _ _, fun _ _ => rfl, rfl⟩

set_option maxHeartbeats 2000000 in
set_option maxRecDepth 100000 in
/-- Write: the bytes ns, which stand in a block of their own. -/
theorem write_bytes (w0 : World) (b : Nat) (l : List UInt8) (g : Nat) (cap : Nat) (ns : List UInt8) (W : World) (h : Bld w0 b l W) (hl : l.length ≤ 1000000000) (hn : ns.length ≤ 1000000000)
    (hns : ∀ (j : Nat) u, (Lib.byteCells ns)[j]? = some u → W.cell? ⟨g, j, none⟩ = some u) (hgb : g ≠ b) :
    Calls Tryz.prog 61 #[.pointer (some ⟨b, 0, none⟩), .slice (some ⟨g, 0, none⟩) ns.length cap] W fun e w' => e = .returned (.tuple #[.int .i64 ns.length, .nilIface]) ∧ Bld w0 b (l ++ ns) w' := by
  obtain ⟨i0, hi, hz0, hz1, hz2⟩ := info_parts Tryz.builderX.infoByte
  have HL := Lib.hid h.low
  have HN := Lib.hid hns
  have cc := copy_check w0 b l W h
  clear hns h
  go_enter Tryz.func61, Tryz.ntmps61
  go_wp2_with fail
  refine cc.mono ?_
  rintro e w1 ⟨rfl, ⟨hB, v, hbk, hown, hne⟩, hb1, hk1, hz⟩
  have c0 : w1.cell? ⟨b, 0, none⟩ = some (.pointer (some ⟨b, 0, none⟩)) := by rw [Lib.cell_of_heap hbk]; rfl
  have c1 : w1.cell? ⟨b, 1, none⟩ = some v := by rw [Lib.cell_of_heap hbk]; rfl
  have hg : ∀ (j : Nat) u, (Lib.byteCells ns)[j]? = some u → w1.cell? ((⟨g, 0, none⟩ : Addr).add j) = some u := by
    intro j u hj
    rw [← HN.out j u hj]
    rw [show (⟨g, 0, none⟩ : Addr).add j = ⟨g, j, none⟩ from by simp [Addr.add]; omega]
    simp only [World.cell?, hk1 g hgb]
  have HG := Lib.hid hg
  have HK := Lib.hid hk1
  have HZ := Lib.hid hz
  clear hg hk1 hz
  go_wp2_with (at_builtin; refine wpList_append_ownF _ rfl _ _ 30 rfl w0.heap.size 5 i0 (.int .u8 0) 1 1 Tryz.underlying30 hi hz0 hz1 hz2 rfl (by decide) _ _ _ rfl hown ⟨g, 0, none⟩ ns.length cap (Lib.byteCells ns) rfl ?c0 HG.out ?c2 ?c3 ?c4 ?c5 ?_)
  case c0 => rw [Lib.byteCells_length]; omega
  case c2 => intro u hu; simp [Lib.byteCells] at hu; obtain ⟨x, _, rfl⟩ := hu; rfl
  case c3 => unfold maxLen; rw [Lib.byteCells_length]; omega
  case c4 => rw [Lib.byteCells_length]; omega
  case c5 => have := HL.out.size; have := HZ.out; omega
  intro v' w2 hown' hgrow _
  have hlt : b < w1.heap.size := (Array.getElem?_eq_some_iff.1 hbk).1
  have hb2 : w2.heap[b]? = some (.cells #[.pointer (some ⟨b, 0, none⟩), v] 74 (0, 0)) := by
    rw [hgrow.block b hlt (fun e => hne e.symm)]
    exact hbk
  have d0 : w2.cell? ⟨b, 0, none⟩ = some (.pointer (some ⟨b, 0, none⟩)) := by rw [Lib.cell_of_heap hb2]; rfl
  have d1 : w2.cell? ⟨b, 1, none⟩ = some v := by rw [Lib.cell_of_heap hb2]; rfl
  have f1 : w2.frozen? ⟨b, 1, none⟩ = false := Lib.frozen_of_heap hb2 1
  obtain ⟨ao, n', cap', rfl⟩ : ∃ ao n' cap', v' = .slice ao n' cap' := by
    rcases hown'.2 with ⟨hv, _⟩ | ⟨g, cap, cur, fz, hv, _⟩
    · exact ⟨_, _, _, hv⟩
    · exact ⟨_, _, _, hv⟩
  have hw : Below w0.heap.size w0 w2 := HL.out.trans (hb1.grown hgrow (by have := HL.out.size; have := HZ.out; omega) (fun k hk => (hown.lt k hk).1))
  have HW := Lib.hid hw
  clear hw
  go_wp2
  go_ret2
  refine ⟨rfl, .inr ?_, HW.out.setCell (p := ⟨b, 1, none⟩) hB _⟩
  exact Lib.BuilderAtF.put (T := 74) (e := 5) hB hb2 (bs' := Lib.byteCells (l ++ ns)) (by rw [Lib.byteCells_append]; simpa [Lib.byteCells_length] using hown') Tryz.builderX.neB5

end Go.Proofs.YtajeghkmgcpgiaaGreatDoor
