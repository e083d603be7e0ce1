import Derived.Test.YthejclgihhfenaaGreatCm4
/-
  Layer 14: the law HeapNone, over what the calls say of a heap that New did not make (written by hp-none.py).
-/
namespace Go.Proofs.YthejclgihhfenaaGreat.Hp
open Go Go.RowKit Go.Proofs.YthejclgihhfenaaGreat.Pl Go.Proofs.YthejclgihhfenaaGreat.Tb

/-- The zero heap: ITS CELLS ARE THE DEVELOPERS' STRUCT'S: change this line with it. -/
def zeroHeap : Array Value := #[.pointer none, .int .i64 0, .pointer none, .map none, .map none, .int .i64 0, .map none]
/-- What the calls say of a heap that is none. -/
structure DeadSays (DH : World → Value → Prop) : Prop where
  keep : ∀ {w w' p}, DH w p → Below w.heap.size w w' → DH w' p
  str : ∀ {w p} (s : ByteArray), DH w p → Calls Tryz.prog 10 #[p, .string s] w (fun e w' => e = .returned (.tuple #[.agg #[.int .u8 0, .int .i64 0], .int .i64 1]) ∧ Below w.heap.size w w')
  table : ∀ {w p} , DH w p → Calls Tryz.prog 12 #[p] w (fun e w' => e = .returned (.tuple #[.agg #[.int .u8 0, .int .i64 0], .int .i64 1]) ∧ Below w.heap.size w w')
  cell : ∀ {w p} (v : Vl), DH w p → v.In → Calls Tryz.prog 16 #[p, v.val] w (fun e w' => e = .returned (.tuple #[.agg #[.int .u8 0, .int .i64 0], .int .i64 1]) ∧ Below w.heap.size w w')
  func : ∀ {w p} , DH w p → Calls Tryz.prog 14 #[p, .int .i64 1, .slice none 0 0] w (fun e w' => e = .returned (.tuple #[.agg #[.int .u8 0, .int .i64 0], .int .i64 1]) ∧ Below w.heap.size w w')
  thread : ∀ {w p} , DH w p → Calls Tryz.prog 18 #[p] w (fun e w' => e = .returned (.tuple #[.agg #[.int .u8 0, .int .i64 0], .int .i64 1]) ∧ Below w.heap.size w w')
  next : ∀ {w p} (v k : Vl), DH w p → v.In → k.In → Calls Tryz.prog 43 #[p, v.val, k.val] w (fun e w' => e = .returned (.tuple #[.agg #[.int .u8 0, .int .i64 0], .agg #[.int .u8 0, .int .i64 0], .int .i64 1]) ∧ Below w.heap.size w w')
  text : ∀ {w p} (v : Vl), DH w p → v.In → Calls Tryz.prog 44 #[p, v.val] w (fun e w' => e = .returned (.tuple #[.string ByteArray.empty, .bool false]) ∧ Below w.heap.size w w')
  proto : ∀ {w p} (v : Vl), DH w p → v.In → Calls Tryz.prog 45 #[p, v.val] w (fun e w' => e = .returned (.tuple #[.int .i64 0, .bool false]) ∧ Below w.heap.size w w')
  known : ∀ {w p} (s : ByteArray), DH w p → Calls Tryz.prog 36 #[p, .string s] w (fun e w' => e = .returned (.tuple #[.agg #[.int .u8 0, .int .i64 0], .bool false]) ∧ Below w.heap.size w w')
  watch : ∀ {w p} , DH w p → Calls Tryz.prog 28 #[p, .bool true] w (fun e w' => e = .returned (.tuple #[]) ∧ Below w.heap.size w w')
  set : ∀ {w p} (v k x : Vl), DH w p → v.In → k.In → x.In → Calls Tryz.prog 20 #[p, v.val, k.val, x.val] w (fun e w' => e = .returned (.int .i64 1) ∧ Below w.heap.size w w')
  setMeta : ∀ {w p} (v k : Vl), DH w p → v.In → k.In → Calls Tryz.prog 22 #[p, v.val, k.val] w (fun e w' => e = .returned (.int .i64 1) ∧ Below w.heap.size w w')
  store : ∀ {w p} (v k : Vl), DH w p → v.In → k.In → Calls Tryz.prog 24 #[p, v.val, k.val] w (fun e w' => e = .returned (.int .i64 1) ∧ Below w.heap.size w w')
  free : ∀ {w p} (v : Vl), DH w p → v.In → Calls Tryz.prog 26 #[p, v.val] w (fun e w' => e = .returned (.int .i64 1) ∧ Below w.heap.size w w')
  state : ∀ {w p} (v : Vl), DH w p → v.In → Calls Tryz.prog 33 #[p, v.val] w (fun e w' => e = .returned (.pointer none) ∧ Below w.heap.size w w')
  has : ∀ {w p} (v : Vl), DH w p → v.In → Calls Tryz.prog 46 #[p, v.val] w (fun e w' => e = .returned (.bool false) ∧ Below w.heap.size w w')
  used : ∀ {w p} , DH w p → Calls Tryz.prog 38 #[p] w (fun e w' => e = .returned (.int .i64 0) ∧ Below w.heap.size w w')
  max : ∀ {w p} , DH w p → Calls Tryz.prog 42 #[p] w (fun e w' => e = .returned (.int .i64 0) ∧ Below w.heap.size w w')
  objects : ∀ {w p} , DH w p → Calls Tryz.prog 41 #[p] w (fun e w' => (∃ ao cap, e = .returned (.slice ao 0 cap)) ∧ Below w.heap.size w w')
  kids : ∀ {w p} (v : Vl), DH w p → v.In → Calls Tryz.prog 47 #[p, v.val] w (fun e w' => (∃ ao cap, e = .returned (.slice ao 0 cap)) ∧ Below w.heap.size w w')
  dirty : ∀ {w p} , DH w p → Calls Tryz.prog 31 #[p] w (fun e w' => (∃ ao cap, e = .returned (.slice ao 0 cap)) ∧ Below w.heap.size w w')
  cells : ∀ {w p} (v : Vl), DH w p → v.In → Calls Tryz.prog 48 #[p, v.val] w (fun e w' => (∃ ao cap, e = .returned (.slice ao 0 cap)) ∧ Below w.heap.size w w')
  len : ∀ {w p} (v : Vl), DH w p → v.In → Calls Tryz.prog 49 #[p, v.val] w (fun e w' => e = .returned (.int .i64 0) ∧ Below w.heap.size w w')
  serial : ∀ {w p} (v : Vl), DH w p → v.In → Calls Tryz.prog 50 #[p, v.val] w (fun e w' => e = .returned (.int .i64 0) ∧ Below w.heap.size w w')
  get : ∀ {w p} (v k : Vl), DH w p → v.In → k.In → Calls Tryz.prog 51 #[p, v.val, k.val] w (fun e w' => e = .returned (.agg #[.int .u8 0, .int .i64 0]) ∧ Below w.heap.size w w')
  met : ∀ {w p} (v : Vl), DH w p → v.In → Calls Tryz.prog 52 #[p, v.val] w (fun e w' => e = .returned (.agg #[.int .u8 0, .int .i64 0]) ∧ Below w.heap.size w w')
  load : ∀ {w p} (v : Vl), DH w p → v.In → Calls Tryz.prog 53 #[p, v.val] w (fun e w' => e = .returned (.agg #[.int .u8 0, .int .i64 0]) ∧ Below w.heap.size w w')
  nil : ∀ w, DH w (.pointer none)
  zero : ∀ (w : World), DH (w.alloc (.cells zeroHeap 69)) (.pointer (some ⟨w.heap.size, 0, none⟩))

set_option maxHeartbeats 8000000 in
set_option maxRecDepth 100000 in
theorem none_walk (HP : HeapP) (H : HeapSays HP) (DH : World → Value → Prop) (D : DeadSays DH) (v : Vl) (hv : v.In) (s : ByteArray) (w : World) :
    Calls Tryz.prog 4 #[v.val, .string s] w (fun e w' => e = .returned (.bool true) ∧ Below w.heap.size w w') := by
  obtain ⟨vk, vn⟩ := v
  have HV := Lib.hid hv
  clear hv
  show Calls _ _ #[.agg #[.int .u8 (vk : Int), .int .i64 vn], .string s] _ _
  go_enter Tryz.func4, Tryz.ntmps4
  go_wp2_with fail
  have hal0 : Below w.heap.size w (((w.alloc (.cells #[.int .u8 (vk : Int), .int .i64 vn] 37)).alloc (.cells zeroHeap 69)).alloc (.cells #[.pointer none, .pointer (some ⟨w.heap.size + 1, 0, none⟩)] 23)) := (((Below.refl _ _).alloc (Nat.le_refl _) _).alloc (by simp) _).alloc (by simp; omega) _
  have hv0 : (((w.alloc (.cells #[.int .u8 (vk : Int), .int .i64 vn] 37)).alloc (.cells zeroHeap 69)).alloc (.cells #[.pointer none, .pointer (some ⟨w.heap.size + 1, 0, none⟩)] 23)).heap[w.heap.size]? = some (.cells #[.int .u8 (vk : Int), .int .i64 vn] 37 (0, 0)) := by
    rw [heap_alloc_old _ _ (by simp; omega), heap_alloc_old _ _ (by simp)]
    exact new_block w _
  have hl0 := new_block ((w.alloc (.cells #[.int .u8 (vk : Int), .int .i64 vn] 37)).alloc (.cells zeroHeap 69)) (.cells #[.pointer none, .pointer (some ⟨w.heap.size + 1, 0, none⟩)] 23)
  rw [show ((w.alloc (.cells #[.int .u8 (vk : Int), .int .i64 vn] 37)).alloc (.cells zeroHeap 69)).heap.size = w.heap.size + 1 + 1 from by simp] at hl0
  have hz0 := D.zero (w.alloc (.cells #[.int .u8 (vk : Int), .int .i64 vn] 37))
  rw [show (w.alloc (.cells #[.int .u8 (vk : Int), .int .i64 vn] 37)).heap.size = w.heap.size + 1 from by simp] at hz0
  have hz1 := D.keep hz0 ((Below.refl _ _).alloc (Nat.le_refl _) (.cells #[.pointer none, .pointer (some ⟨w.heap.size + 1, 0, none⟩)] 23))
  have HL0 := Lib.hid hal0
  have HV0 := Lib.hid hv0
  have HLL := Lib.hid hl0
  have HZ := Lib.hid hz1
  clear hal0 hv0 hl0 hz0 hz1
  unfold zeroHeap at HL0 HV0 HLL HZ
  generalize ((w.alloc (.cells #[.int .u8 (vk : Int), .int .i64 vn] 37)).alloc (.cells #[.pointer none, .int .i64 0, .pointer none, .map none, .map none, .int .i64 0, .map none] 69)).alloc (.cells #[.pointer none, .pointer (some ⟨w.heap.size + 1, 0, none⟩)] 23) = W at *
  generalize hvb : w.heap.size = vb at *
  have HVB := Lib.hid hvb
  clear hvb
  have HC := Lib.hid (show ∀ w', Below W.heap.size W w' → w'.cell? ⟨vb, 0, none⟩ = some (.int .u8 (vk : Int)) ∧ w'.cell? ⟨vb, 1, none⟩ = some (.int .i64 vn) from fun w' hb => ⟨(hb.cell (p := ⟨vb, 0, none⟩) (lt_of_get HV0.out)).trans (cell_of HV0.out 0 _ rfl), (hb.cell (p := ⟨vb, 1, none⟩) (lt_of_get HV0.out)).trans (cell_of HV0.out 1 _ rfl)⟩)
  go_loopg [34] 2 (fun r i wr => ∃ k : Nat, r = 2 - k ∧ i = .int .i64 k ∧ k ≤ 2 ∧ Below W.heap.size W wr)
  case atStart => exact ⟨0, rfl, rfl, Nat.zero_le _, Below.refl _ _⟩
  case round =>
    obtain ⟨k, rfl, rfl, hk, hbw⟩ := hrel
    by_cases hlt : k < 2
    · have hlt' : (k : Int) < 2 := by omega
      have e0 := IntWalk.i64_in ((k : Int) + 1) (by omega)
      obtain ⟨p, hp, hdp⟩ : ∃ p, W.cell? ⟨vb + 1 + 1, k, none⟩ = some p ∧ DH W p := by
        match k, hlt with
        | 0, _ => exact ⟨_, cell_of HLL.out 0 _ rfl, D.nil W⟩
        | 1, _ => exact ⟨_, cell_of HLL.out 1 _ rfl, HZ.out⟩
      rw [← hbw.cell (p := ⟨vb + 1 + 1, k, none⟩) (lt_of_get HLL.out)] at hp
      generalize wr = w0 at *
      have HD0 := Lib.hid (D.keep hdp hbw)
      have HB0 := Lib.hid hbw
      clear hdp hbw
      have hb' := HB0.out.trans ((Below.refl w0.heap.size w0).mono HB0.out.size)
      have HB' := Lib.hid hb'
      have HD' := Lib.hid (D.keep HD0.out (Below.refl w0.heap.size w0))
      have cA := (HC.out w0 hb').1
      have cB := (HC.out w0 hb').2
      clear hb'
      go_wp2_with fail
      refine (D.str s HD'.out ).mono ?_
      rintro e w1 ⟨rfl, b'⟩
      have HB1 := Lib.hid (HB'.out.trans (b'.mono HB'.out.size))
      have HD1 := Lib.hid (D.keep HD'.out b')
      clear b' cA cB HB' HD'
      have hb' := HB1.out.trans (((Below.refl w1.heap.size w1).alloc (Nat.le_refl _) (.cells #[.int .u8 0, .int .i64 0] 37)).mono HB1.out.size)
      have HB' := Lib.hid hb'
      have HD' := Lib.hid (D.keep HD1.out ((Below.refl w1.heap.size w1).alloc (Nat.le_refl _) (.cells #[.int .u8 0, .int .i64 0] 37)))
      have cA := (HC.out (w1.alloc (.cells #[.int .u8 0, .int .i64 0] 37)) hb').1
      have cB := (HC.out (w1.alloc (.cells #[.int .u8 0, .int .i64 0] 37)) hb').2
      clear hb'
      go_wp2_with fail
      refine (D.table  HD'.out ).mono ?_
      rintro e w2 ⟨rfl, b'⟩
      have HB2 := Lib.hid (HB'.out.trans (b'.mono HB'.out.size))
      have HD2 := Lib.hid (D.keep HD'.out b')
      clear b' cA cB HB' HD'
      have hb' := HB2.out.trans (((Below.refl w2.heap.size w2).alloc (Nat.le_refl _) (.cells #[.int .u8 0, .int .i64 0] 37)).mono HB2.out.size)
      have HB' := Lib.hid hb'
      have HD' := Lib.hid (D.keep HD2.out ((Below.refl w2.heap.size w2).alloc (Nat.le_refl _) (.cells #[.int .u8 0, .int .i64 0] 37)))
      have cA := (HC.out (w2.alloc (.cells #[.int .u8 0, .int .i64 0] 37)) hb').1
      have cB := (HC.out (w2.alloc (.cells #[.int .u8 0, .int .i64 0] 37)) hb').2
      clear hb'
      go_wp2_with fail
      refine (D.cell ⟨vk, vn⟩ HD'.out HV.out).mono ?_
      rintro e w3 ⟨rfl, b'⟩
      have HB3 := Lib.hid (HB'.out.trans (b'.mono HB'.out.size))
      have HD3 := Lib.hid (D.keep HD'.out b')
      clear b' cA cB HB' HD'
      have hb' := HB3.out.trans (((Below.refl w3.heap.size w3).alloc (Nat.le_refl _) (.cells #[.int .u8 0, .int .i64 0] 37)).mono HB3.out.size)
      have HB' := Lib.hid hb'
      have HD' := Lib.hid (D.keep HD3.out ((Below.refl w3.heap.size w3).alloc (Nat.le_refl _) (.cells #[.int .u8 0, .int .i64 0] 37)))
      have cA := (HC.out (w3.alloc (.cells #[.int .u8 0, .int .i64 0] 37)) hb').1
      have cB := (HC.out (w3.alloc (.cells #[.int .u8 0, .int .i64 0] 37)) hb').2
      clear hb'
      go_wp2_with fail
      refine (D.func  HD'.out ).mono ?_
      rintro e w4 ⟨rfl, b'⟩
      have HB4 := Lib.hid (HB'.out.trans (b'.mono HB'.out.size))
      have HD4 := Lib.hid (D.keep HD'.out b')
      clear b' cA cB HB' HD'
      have hb' := HB4.out.trans (((Below.refl w4.heap.size w4).alloc (Nat.le_refl _) (.cells #[.int .u8 0, .int .i64 0] 37)).mono HB4.out.size)
      have HB' := Lib.hid hb'
      have HD' := Lib.hid (D.keep HD4.out ((Below.refl w4.heap.size w4).alloc (Nat.le_refl _) (.cells #[.int .u8 0, .int .i64 0] 37)))
      have cA := (HC.out (w4.alloc (.cells #[.int .u8 0, .int .i64 0] 37)) hb').1
      have cB := (HC.out (w4.alloc (.cells #[.int .u8 0, .int .i64 0] 37)) hb').2
      clear hb'
      go_wp2_with fail
      refine (D.thread  HD'.out ).mono ?_
      rintro e w5 ⟨rfl, b'⟩
      have HB5 := Lib.hid (HB'.out.trans (b'.mono HB'.out.size))
      have HD5 := Lib.hid (D.keep HD'.out b')
      clear b' cA cB HB' HD'
      have hb' := HB5.out.trans (((Below.refl w5.heap.size w5).alloc (Nat.le_refl _) (.cells #[.int .u8 0, .int .i64 0] 37)).mono HB5.out.size)
      have HB' := Lib.hid hb'
      have HD' := Lib.hid (D.keep HD5.out ((Below.refl w5.heap.size w5).alloc (Nat.le_refl _) (.cells #[.int .u8 0, .int .i64 0] 37)))
      have cA := (HC.out (w5.alloc (.cells #[.int .u8 0, .int .i64 0] 37)) hb').1
      have cB := (HC.out (w5.alloc (.cells #[.int .u8 0, .int .i64 0] 37)) hb').2
      clear hb'
      go_wp2_with fail
      refine (D.next ⟨vk, vn⟩ ⟨vk, vn⟩ HD'.out HV.out HV.out).mono ?_
      rintro e w6 ⟨rfl, b'⟩
      have HB6 := Lib.hid (HB'.out.trans (b'.mono HB'.out.size))
      have HD6 := Lib.hid (D.keep HD'.out b')
      clear b' cA cB HB' HD'
      have hb' := HB6.out.trans ((((Below.refl w6.heap.size w6).alloc (Nat.le_refl _) (.cells #[.int .u8 0, .int .i64 0] 37)).alloc (by simp) (.cells #[.int .u8 0, .int .i64 0] 37)).mono HB6.out.size)
      have HB' := Lib.hid hb'
      have HD' := Lib.hid (D.keep HD6.out (((Below.refl w6.heap.size w6).alloc (Nat.le_refl _) (.cells #[.int .u8 0, .int .i64 0] 37)).alloc (by simp) (.cells #[.int .u8 0, .int .i64 0] 37)))
      have cA := (HC.out ((w6.alloc (.cells #[.int .u8 0, .int .i64 0] 37)).alloc (.cells #[.int .u8 0, .int .i64 0] 37)) hb').1
      have cB := (HC.out ((w6.alloc (.cells #[.int .u8 0, .int .i64 0] 37)).alloc (.cells #[.int .u8 0, .int .i64 0] 37)) hb').2
      clear hb'
      go_wp2_with fail
      refine (D.text ⟨vk, vn⟩ HD'.out HV.out).mono ?_
      rintro e w7 ⟨rfl, b'⟩
      have HB7 := Lib.hid (HB'.out.trans (b'.mono HB'.out.size))
      have HD7 := Lib.hid (D.keep HD'.out b')
      clear b' cA cB HB' HD'
      have hb' := HB7.out.trans ((Below.refl w7.heap.size w7).mono HB7.out.size)
      have HB' := Lib.hid hb'
      have HD' := Lib.hid (D.keep HD7.out (Below.refl w7.heap.size w7))
      have cA := (HC.out w7 hb').1
      have cB := (HC.out w7 hb').2
      clear hb'
      go_wp2_with fail
      refine (D.proto ⟨vk, vn⟩ HD'.out HV.out).mono ?_
      rintro e w8 ⟨rfl, b'⟩
      have HB8 := Lib.hid (HB'.out.trans (b'.mono HB'.out.size))
      have HD8 := Lib.hid (D.keep HD'.out b')
      clear b' cA cB HB' HD'
      have hb' := HB8.out.trans ((Below.refl w8.heap.size w8).mono HB8.out.size)
      have HB' := Lib.hid hb'
      have HD' := Lib.hid (D.keep HD8.out (Below.refl w8.heap.size w8))
      have cA := (HC.out w8 hb').1
      have cB := (HC.out w8 hb').2
      clear hb'
      go_wp2_with fail
      refine (D.known s HD'.out ).mono ?_
      rintro e w9 ⟨rfl, b'⟩
      have HB9 := Lib.hid (HB'.out.trans (b'.mono HB'.out.size))
      have HD9 := Lib.hid (D.keep HD'.out b')
      clear b' cA cB HB' HD'
      have hb' := HB9.out.trans (((Below.refl w9.heap.size w9).alloc (Nat.le_refl _) (.cells #[.int .u8 0, .int .i64 0] 37)).mono HB9.out.size)
      have HB' := Lib.hid hb'
      have HD' := Lib.hid (D.keep HD9.out ((Below.refl w9.heap.size w9).alloc (Nat.le_refl _) (.cells #[.int .u8 0, .int .i64 0] 37)))
      have cA := (HC.out (w9.alloc (.cells #[.int .u8 0, .int .i64 0] 37)) hb').1
      have cB := (HC.out (w9.alloc (.cells #[.int .u8 0, .int .i64 0] 37)) hb').2
      clear hb'
      go_wp2_with fail
      refine (D.watch  HD'.out ).mono ?_
      rintro e w10 ⟨rfl, b'⟩
      have HB10 := Lib.hid (HB'.out.trans (b'.mono HB'.out.size))
      have HD10 := Lib.hid (D.keep HD'.out b')
      clear b' cA cB HB' HD'
      go_upto_region 20 with fail
      have hw00 : IntKind.i64.wrap 0 = 0 := by decide
      simp only [List.append_eq, List.cons_append, List.nil_append]
      have HB11 := Lib.hid (HB10.out.trans ((Below.refl w10.heap.size w10).drew.mono HB10.out.size))
      have HD11 := Lib.hid (D.keep HD10.out ((Below.refl w10.heap.size w10).drew))
      refine wp_region_held_drew (S := fun w' => w'.cell? ⟨vb, 0, none⟩ = some (.int .u8 (vk : Int)) ∧ w'.cell? ⟨vb, 1, none⟩ = some (.int .i64 vn)) mixed (HC.out _ HB11.out) (fun hS => ?_)
      refine wpAnyH_take (i := 0) (v := ?vta0) rfl (by kernel_rfl) (by kernel_rfl) (by kernel_rfl) (fun _ _ _ h => h) (.inl ⟨by rfl, ?hta0⟩) hS ?rta0
      case hta0 =>
        intro w' hs
        (try dsimp only at hs)
        go_split_ands
        go_simp
        try with_reducible rfl
      simp only [List.getElem_toArray, List.getElem_cons_zero, Act.put, List.setIfInBounds_toArray, List.set_cons_zero, List.set_cons_succ]
      refine wpAnyH_take (i := 1) (v := ?vta1) rfl (by kernel_rfl) (by kernel_rfl) (by kernel_rfl) (fun _ _ _ h => h) (.inl ⟨by rfl, ?hta1⟩) hS ?rta1
      case hta1 =>
        intro w' hs
        (try dsimp only at hs)
        go_split_ands
        go_simp
        try with_reducible rfl
      simp only [List.getElem_toArray, List.getElem_cons_succ, List.getElem_cons_zero, Act.put, List.setIfInBounds_toArray, List.set_cons_zero, List.set_cons_succ]
      refine wpAnyH_take (i := 2) (v := ?vta2) rfl (by kernel_rfl) (by kernel_rfl) (by kernel_rfl) (fun _ _ _ h => h) (.inl ⟨by rfl, ?hta2⟩) hS ?rta2
      case hta2 =>
        intro w' hs
        (try dsimp only at hs)
        go_split_ands
        go_simp
        try with_reducible rfl
      simp only [List.getElem_toArray, List.getElem_cons_succ, List.getElem_cons_zero, Act.put, List.setIfInBounds_toArray, List.set_cons_zero, List.set_cons_succ]
      refine wpAnyH_take (i := 3) (v := ?vta3) rfl (by kernel_rfl) (by kernel_rfl) (by kernel_rfl) (fun _ _ _ h => h) (.inl ⟨by rfl, ?hta3⟩) hS ?rta3
      case hta3 =>
        intro w' hs
        (try dsimp only at hs)
        go_split_ands
        go_simp
        try with_reducible rfl
      simp only [List.getElem_toArray, List.getElem_cons_succ, List.getElem_cons_zero, Act.put, List.setIfInBounds_toArray, List.set_cons_zero, List.set_cons_succ]
      refine wpAnyH_ready (rs := [4]) (by kernel_rfl) (by simp) (AllReadyH.cons rfl (fun K hK => ?_) AllReadyH.nil)
      go_simp
      go_at_call 20
      refine (show Calls _ _ #[p, .agg #[.int .u8 (vk : Int), .int .i64 vn], .agg #[.int .u8 (vk : Int), .int .i64 vn], .agg #[.int .u8 (vk : Int), .int .i64 vn]] _ (fun e w' => e = .returned (.int .i64 1) ∧ Below _ _ w') from D.set ⟨vk, vn⟩ ⟨vk, vn⟩ ⟨vk, vn⟩ HD11.out HV.out HV.out HV.out).mono ?_
      rintro e w12 ⟨rfl, b'⟩
      have HB12 := Lib.hid (HB11.out.trans (b'.mono HB11.out.size))
      have HD12 := Lib.hid (D.keep HD11.out b')
      clear b'
      go_wp2_with fail
      refine hK.out _ _ (HC.out _ HB12.out) (fun hS => ?_)
      clear hK
      as_aux_lemma =>
      refine wpAnyH_take (i := 5) (v := ?vtb5) rfl (by kernel_rfl) (by kernel_rfl) (by kernel_rfl) (fun _ _ _ h => h) (.inl ⟨by rfl, ?htb5⟩) hS ?rtb5
      case htb5 =>
        intro w' hs
        (try dsimp only at hs)
        go_split_ands
        go_simp
        try with_reducible rfl
      simp only [List.getElem_toArray, List.getElem_cons_succ, List.getElem_cons_zero, Act.put, List.setIfInBounds_toArray, List.set_cons_zero, List.set_cons_succ]
      refine wpAnyH_take (i := 6) (v := ?vtb6) rfl (by kernel_rfl) (by kernel_rfl) (by kernel_rfl) (fun _ _ _ h => h) (.inl ⟨by rfl, ?htb6⟩) hS ?rtb6
      case htb6 =>
        intro w' hs
        (try dsimp only at hs)
        go_split_ands
        go_simp
        try with_reducible rfl
      simp only [List.getElem_toArray, List.getElem_cons_succ, List.getElem_cons_zero, Act.put, List.setIfInBounds_toArray, List.set_cons_zero, List.set_cons_succ]
      refine wpAnyH_take (i := 7) (v := ?vtb7) rfl (by kernel_rfl) (by kernel_rfl) (by kernel_rfl) (fun _ _ _ h => h) (.inl ⟨by rfl, ?htb7⟩) hS ?rtb7
      case htb7 =>
        intro w' hs
        (try dsimp only at hs)
        go_split_ands
        go_simp
        try with_reducible rfl
      simp only [List.getElem_toArray, List.getElem_cons_succ, List.getElem_cons_zero, Act.put, List.setIfInBounds_toArray, List.set_cons_zero, List.set_cons_succ]
      refine wpAnyH_take (i := 8) (v := ?vtb8) rfl (by kernel_rfl) (by kernel_rfl) (by kernel_rfl) (fun _ _ _ h => h) (.inl ⟨by rfl, ?htb8⟩) hS ?rtb8
      case htb8 =>
        intro w' hs
        (try dsimp only at hs)
        go_split_ands
        go_simp
        try with_reducible rfl
      simp only [List.getElem_toArray, List.getElem_cons_succ, List.getElem_cons_zero, Act.put, List.setIfInBounds_toArray, List.set_cons_zero, List.set_cons_succ]
      refine wpAnyH_take (i := 9) (v := ?vtb9) rfl (by kernel_rfl) (by kernel_rfl) (by kernel_rfl) (fun _ _ _ h => h) (.inl ⟨by rfl, ?htb9⟩) hS ?rtb9
      case htb9 =>
        intro w' hs
        (try dsimp only at hs)
        go_split_ands
        go_simp
        try with_reducible rfl
      simp only [List.getElem_toArray, List.getElem_cons_succ, List.getElem_cons_zero, Act.put, List.setIfInBounds_toArray, List.set_cons_zero, List.set_cons_succ]
      refine wpAnyH_ready (rs := [10]) (by kernel_rfl) (by simp) (AllReadyH.cons rfl (fun K hK => ?_) AllReadyH.nil)
      go_simp
      go_at_call 22
      refine (show Calls _ _ #[p, .agg #[.int .u8 (vk : Int), .int .i64 vn], .agg #[.int .u8 (vk : Int), .int .i64 vn]] _ (fun e w' => e = .returned (.int .i64 1) ∧ Below _ _ w') from D.setMeta ⟨vk, vn⟩ ⟨vk, vn⟩ HD12.out HV.out HV.out).mono ?_
      rintro e w13 ⟨rfl, b'⟩
      have HB13 := Lib.hid (HB12.out.trans (b'.mono HB12.out.size))
      have HD13 := Lib.hid (D.keep HD12.out b')
      clear b'
      go_wp2_with fail
      refine hK.out _ _ (HC.out _ HB13.out) (fun hS => ?_)
      clear hK
      as_aux_lemma =>
      refine wpAnyH_take (i := 11) (v := ?vtc11) rfl (by kernel_rfl) (by kernel_rfl) (by kernel_rfl) (fun _ _ _ h => h) (.inl ⟨by rfl, ?htc11⟩) hS ?rtc11
      case htc11 =>
        intro w' hs
        (try dsimp only at hs)
        go_split_ands
        go_simp
        try with_reducible rfl
      simp only [List.getElem_toArray, List.getElem_cons_succ, List.getElem_cons_zero, Act.put, List.setIfInBounds_toArray, List.set_cons_zero, List.set_cons_succ]
      refine wpAnyH_take (i := 12) (v := ?vtc12) rfl (by kernel_rfl) (by kernel_rfl) (by kernel_rfl) (fun _ _ _ h => h) (.inl ⟨by rfl, ?htc12⟩) hS ?rtc12
      case htc12 =>
        intro w' hs
        (try dsimp only at hs)
        go_split_ands
        go_simp
        try with_reducible rfl
      simp only [List.getElem_toArray, List.getElem_cons_succ, List.getElem_cons_zero, Act.put, List.setIfInBounds_toArray, List.set_cons_zero, List.set_cons_succ]
      refine wpAnyH_take (i := 13) (v := ?vtc13) rfl (by kernel_rfl) (by kernel_rfl) (by kernel_rfl) (fun _ _ _ h => h) (.inl ⟨by rfl, ?htc13⟩) hS ?rtc13
      case htc13 =>
        intro w' hs
        (try dsimp only at hs)
        go_split_ands
        go_simp
        try with_reducible rfl
      simp only [List.getElem_toArray, List.getElem_cons_succ, List.getElem_cons_zero, Act.put, List.setIfInBounds_toArray, List.set_cons_zero, List.set_cons_succ]
      refine wpAnyH_take (i := 14) (v := ?vtc14) rfl (by kernel_rfl) (by kernel_rfl) (by kernel_rfl) (fun _ _ _ h => h) (.inl ⟨by rfl, ?htc14⟩) hS ?rtc14
      case htc14 =>
        intro w' hs
        (try dsimp only at hs)
        go_split_ands
        go_simp
        try with_reducible rfl
      simp only [List.getElem_toArray, List.getElem_cons_succ, List.getElem_cons_zero, Act.put, List.setIfInBounds_toArray, List.set_cons_zero, List.set_cons_succ]
      refine wpAnyH_take (i := 15) (v := ?vtc15) rfl (by kernel_rfl) (by kernel_rfl) (by kernel_rfl) (fun _ _ _ h => h) (.inl ⟨by rfl, ?htc15⟩) hS ?rtc15
      case htc15 =>
        intro w' hs
        (try dsimp only at hs)
        go_split_ands
        go_simp
        try with_reducible rfl
      simp only [List.getElem_toArray, List.getElem_cons_succ, List.getElem_cons_zero, Act.put, List.setIfInBounds_toArray, List.set_cons_zero, List.set_cons_succ]
      refine wpAnyH_take (i := 16) (v := ?vtc16) rfl (by kernel_rfl) (by kernel_rfl) (by kernel_rfl) (fun _ _ _ h => h) (.inl ⟨by rfl, ?htc16⟩) hS ?rtc16
      case htc16 =>
        intro w' hs
        (try dsimp only at hs)
        go_split_ands
        go_simp
        try with_reducible rfl
      simp only [List.getElem_toArray, List.getElem_cons_succ, List.getElem_cons_zero, Act.put, List.setIfInBounds_toArray, List.set_cons_zero, List.set_cons_succ]
      refine wpAnyH_ready (rs := [17]) (by kernel_rfl) (by simp) (AllReadyH.cons rfl (fun K hK => ?_) AllReadyH.nil)
      go_simp
      go_at_call 24
      refine (show Calls _ _ #[p, .agg #[.int .u8 (vk : Int), .int .i64 vn], .agg #[.int .u8 (vk : Int), .int .i64 vn]] _ (fun e w' => e = .returned (.int .i64 1) ∧ Below _ _ w') from D.store ⟨vk, vn⟩ ⟨vk, vn⟩ HD13.out HV.out HV.out).mono ?_
      rintro e w14 ⟨rfl, b'⟩
      have HB14 := Lib.hid (HB13.out.trans (b'.mono HB13.out.size))
      have HD14 := Lib.hid (D.keep HD13.out b')
      clear b'
      go_wp2_with fail
      refine hK.out _ _ (HC.out _ HB14.out) (fun hS => ?_)
      clear hK
      as_aux_lemma =>
      refine wpAnyH_take (i := 18) (v := ?vtd18) rfl (by kernel_rfl) (by kernel_rfl) (by kernel_rfl) (fun _ _ _ h => h) (.inl ⟨by rfl, ?htd18⟩) hS ?rtd18
      case htd18 =>
        intro w' hs
        (try dsimp only at hs)
        go_split_ands
        go_simp
        try with_reducible rfl
      simp only [List.getElem_toArray, List.getElem_cons_succ, List.getElem_cons_zero, Act.put, List.setIfInBounds_toArray, List.set_cons_zero, List.set_cons_succ]
      refine wpAnyH_take (i := 19) (v := ?vtd19) rfl (by kernel_rfl) (by kernel_rfl) (by kernel_rfl) (fun _ _ _ h => h) (.inl ⟨by rfl, ?htd19⟩) hS ?rtd19
      case htd19 =>
        intro w' hs
        (try dsimp only at hs)
        go_split_ands
        go_simp
        try with_reducible rfl
      simp only [List.getElem_toArray, List.getElem_cons_succ, List.getElem_cons_zero, Act.put, List.setIfInBounds_toArray, List.set_cons_zero, List.set_cons_succ]
      refine wpAnyH_take (i := 20) (v := ?vtd20) rfl (by kernel_rfl) (by kernel_rfl) (by kernel_rfl) (fun _ _ _ h => h) (.inl ⟨by rfl, ?htd20⟩) hS ?rtd20
      case htd20 =>
        intro w' hs
        (try dsimp only at hs)
        go_split_ands
        go_simp
        try with_reducible rfl
      simp only [List.getElem_toArray, List.getElem_cons_succ, List.getElem_cons_zero, Act.put, List.setIfInBounds_toArray, List.set_cons_zero, List.set_cons_succ]
      refine wpAnyH_take (i := 21) (v := ?vtd21) rfl (by kernel_rfl) (by kernel_rfl) (by kernel_rfl) (fun _ _ _ h => h) (.inl ⟨by rfl, ?htd21⟩) hS ?rtd21
      case htd21 =>
        intro w' hs
        (try dsimp only at hs)
        go_split_ands
        go_simp
        try with_reducible rfl
      simp only [List.getElem_toArray, List.getElem_cons_succ, List.getElem_cons_zero, Act.put, List.setIfInBounds_toArray, List.set_cons_zero, List.set_cons_succ]
      refine wpAnyH_take (i := 22) (v := ?vtd22) rfl (by kernel_rfl) (by kernel_rfl) (by kernel_rfl) (fun _ _ _ h => h) (.inl ⟨by rfl, ?htd22⟩) hS ?rtd22
      case htd22 =>
        intro w' hs
        (try dsimp only at hs)
        go_split_ands
        go_simp
        try with_reducible rfl
      simp only [List.getElem_toArray, List.getElem_cons_succ, List.getElem_cons_zero, Act.put, List.setIfInBounds_toArray, List.set_cons_zero, List.set_cons_succ]
      refine wpAnyH_ready (rs := [23]) (by kernel_rfl) (by simp) (AllReadyH.cons rfl (fun K hK => ?_) AllReadyH.nil)
      go_simp
      go_at_call 26
      refine (show Calls _ _ #[p, .agg #[.int .u8 (vk : Int), .int .i64 vn]] _ (fun e w' => e = .returned (.int .i64 1) ∧ Below _ _ w') from D.free ⟨vk, vn⟩ HD14.out HV.out).mono ?_
      rintro e w15 ⟨rfl, b'⟩
      have HB15 := Lib.hid (HB14.out.trans (b'.mono HB14.out.size))
      have HD15 := Lib.hid (D.keep HD14.out b')
      clear b'
      go_wp2_with fail
      refine hK.out _ _ (HC.out _ HB15.out) (fun hS => ?_)
      clear hK
      as_aux_lemma =>
      refine wpAnyH_take (i := 24) (v := ?vte24) rfl (by kernel_rfl) (by kernel_rfl) (by kernel_rfl) (fun _ _ _ h => h) (.inl ⟨by rfl, ?hte24⟩) hS ?rte24
      case hte24 =>
        intro w' hs
        (try dsimp only at hs)
        go_split_ands
        go_simp
        try with_reducible rfl
      simp only [List.getElem_toArray, List.getElem_cons_succ, List.getElem_cons_zero, Act.put, List.setIfInBounds_toArray, List.set_cons_zero, List.set_cons_succ]
      refine wpAnyH_take (i := 25) (v := ?vte25) rfl (by kernel_rfl) (by kernel_rfl) (by kernel_rfl) (fun _ _ _ h => h) (.inl ⟨by rfl, ?hte25⟩) hS ?rte25
      case hte25 =>
        intro w' hs
        (try dsimp only at hs)
        go_split_ands
        go_simp
        try with_reducible rfl
      simp only [List.getElem_toArray, List.getElem_cons_succ, List.getElem_cons_zero, Act.put, List.setIfInBounds_toArray, List.set_cons_zero, List.set_cons_succ]
      refine wpAnyH_take (i := 26) (v := ?vte26) rfl (by kernel_rfl) (by kernel_rfl) (by kernel_rfl) (fun _ _ _ h => h) (.inl ⟨by rfl, ?hte26⟩) hS ?rte26
      case hte26 =>
        intro w' hs
        (try dsimp only at hs)
        go_split_ands
        go_simp
        try with_reducible rfl
      simp only [List.getElem_toArray, List.getElem_cons_succ, List.getElem_cons_zero, Act.put, List.setIfInBounds_toArray, List.set_cons_zero, List.set_cons_succ]
      refine wpAnyH_take (i := 27) (v := ?vte27) rfl (by kernel_rfl) (by kernel_rfl) (by kernel_rfl) (fun _ _ _ h => h) (.inl ⟨by rfl, ?hte27⟩) hS ?rte27
      case hte27 =>
        intro w' hs
        (try dsimp only at hs)
        go_split_ands
        go_simp
        try with_reducible rfl
      simp only [List.getElem_toArray, List.getElem_cons_succ, List.getElem_cons_zero, Act.put, List.setIfInBounds_toArray, List.set_cons_zero, List.set_cons_succ]
      refine wpAnyH_take (i := 28) (v := ?vte28) rfl (by kernel_rfl) (by kernel_rfl) (by kernel_rfl) (fun _ _ _ h => h) (.inl ⟨by rfl, ?hte28⟩) hS ?rte28
      case hte28 =>
        intro w' hs
        (try dsimp only at hs)
        go_split_ands
        go_simp
        try with_reducible rfl
      simp only [List.getElem_toArray, List.getElem_cons_succ, List.getElem_cons_zero, Act.put, List.setIfInBounds_toArray, List.set_cons_zero, List.set_cons_succ]
      refine wpAnyH_ready (rs := [29]) (by kernel_rfl) (by simp) (AllReadyH.cons rfl (fun K hK => ?_) AllReadyH.nil)
      go_simp
      go_at_call 33
      refine (show Calls _ _ #[p, .agg #[.int .u8 (vk : Int), .int .i64 vn]] _ (fun e w' => e = .returned (.pointer none) ∧ Below _ _ w') from D.state ⟨vk, vn⟩ HD15.out HV.out).mono ?_
      rintro e w16 ⟨rfl, b'⟩
      have HB16 := Lib.hid (HB15.out.trans (b'.mono HB15.out.size))
      have HD16 := Lib.hid (D.keep HD15.out b')
      clear b'
      go_wp2_with fail
      refine hK.out _ _ (HC.out _ HB16.out) (fun hS => ?_)
      clear hK
      as_aux_lemma =>
      refine wpAnyH_take (i := 30) (v := ?vtf30) rfl (by kernel_rfl) (by kernel_rfl) (by kernel_rfl) (fun _ _ _ h => h) (.inl ⟨by rfl, ?htf30⟩) hS ?rtf30
      case htf30 =>
        intro w' hs
        (try dsimp only at hs)
        go_split_ands
        go_simp
        try with_reducible rfl
      simp only [List.getElem_toArray, List.getElem_cons_succ, List.getElem_cons_zero, Act.put, List.setIfInBounds_toArray, List.set_cons_zero, List.set_cons_succ]
      refine wpAnyH_take (i := 31) (v := ?vtf31) rfl (by kernel_rfl) (by kernel_rfl) (by kernel_rfl) (fun _ _ _ h => h) (.inl ⟨by rfl, ?htf31⟩) hS ?rtf31
      case htf31 =>
        intro w' hs
        (try dsimp only at hs)
        go_split_ands
        go_simp
        try with_reducible rfl
      simp only [List.getElem_toArray, List.getElem_cons_succ, List.getElem_cons_zero, Act.put, List.setIfInBounds_toArray, List.set_cons_zero, List.set_cons_succ]
      refine wpAnyH_take (i := 32) (v := ?vtf32) rfl (by kernel_rfl) (by kernel_rfl) (by kernel_rfl) (fun _ _ _ h => h) (.inl ⟨by rfl, ?htf32⟩) hS ?rtf32
      case htf32 =>
        intro w' hs
        (try dsimp only at hs)
        go_split_ands
        go_simp
        try with_reducible rfl
      simp only [List.getElem_toArray, List.getElem_cons_succ, List.getElem_cons_zero, Act.put, List.setIfInBounds_toArray, List.set_cons_zero, List.set_cons_succ]
      refine wpAnyH_take (i := 33) (v := ?vtf33) rfl (by kernel_rfl) (by kernel_rfl) (by kernel_rfl) (fun _ _ _ h => h) (.inl ⟨by rfl, ?htf33⟩) hS ?rtf33
      case htf33 =>
        intro w' hs
        (try dsimp only at hs)
        go_split_ands
        go_simp
        try with_reducible rfl
      simp only [List.getElem_toArray, List.getElem_cons_succ, List.getElem_cons_zero, Act.put, List.setIfInBounds_toArray, List.set_cons_zero, List.set_cons_succ]
      refine wpAnyH_take (i := 34) (v := ?vtf34) rfl (by kernel_rfl) (by kernel_rfl) (by kernel_rfl) (fun _ _ _ h => h) (.inl ⟨by rfl, ?htf34⟩) hS ?rtf34
      case htf34 =>
        intro w' hs
        (try dsimp only at hs)
        go_split_ands
        go_simp
        try with_reducible rfl
      simp only [List.getElem_toArray, List.getElem_cons_succ, List.getElem_cons_zero, Act.put, List.setIfInBounds_toArray, List.set_cons_zero, List.set_cons_succ]
      refine wpAnyH_ready (rs := [35]) (by kernel_rfl) (by simp) (AllReadyH.cons rfl (fun K hK => ?_) AllReadyH.nil)
      go_simp
      go_at_call 46
      refine (show Calls _ _ #[p, .agg #[.int .u8 (vk : Int), .int .i64 vn]] _ (fun e w' => e = .returned (.bool false) ∧ Below _ _ w') from D.has ⟨vk, vn⟩ HD16.out HV.out).mono ?_
      rintro e w17 ⟨rfl, b'⟩
      have HB17 := Lib.hid (HB16.out.trans (b'.mono HB16.out.size))
      have HD17 := Lib.hid (D.keep HD16.out b')
      clear b'
      go_wp2_with fail
      refine hK.out _ _ (HC.out _ HB17.out) (fun hS => ?_)
      clear hK
      as_aux_lemma =>
      refine wpAnyH_take (i := 36) (v := ?vtg36) rfl (by kernel_rfl) (by kernel_rfl) (by kernel_rfl) (fun _ _ _ h => h) (.inl ⟨by rfl, ?htg36⟩) hS ?rtg36
      case htg36 =>
        intro w' hs
        (try dsimp only at hs)
        go_split_ands
        go_simp
        try with_reducible rfl
      simp only [List.getElem_toArray, List.getElem_cons_succ, List.getElem_cons_zero, Act.put, List.setIfInBounds_toArray, List.set_cons_zero, List.set_cons_succ]
      refine wpAnyH_take (i := 37) (v := ?vtg37) rfl (by kernel_rfl) (by kernel_rfl) (by kernel_rfl) (fun _ _ _ h => h) (.inl ⟨by rfl, ?htg37⟩) hS ?rtg37
      case htg37 =>
        intro w' hs
        (try dsimp only at hs)
        go_split_ands
        go_simp
        try with_reducible rfl
      simp only [List.getElem_toArray, List.getElem_cons_succ, List.getElem_cons_zero, Act.put, List.setIfInBounds_toArray, List.set_cons_zero, List.set_cons_succ]
      refine wpAnyH_take (i := 38) (v := ?vtg38) rfl (by kernel_rfl) (by kernel_rfl) (by kernel_rfl) (fun _ _ _ h => h) (.inl ⟨by rfl, ?htg38⟩) hS ?rtg38
      case htg38 =>
        intro w' hs
        (try dsimp only at hs)
        go_split_ands
        go_simp
        try with_reducible rfl
      simp only [List.getElem_toArray, List.getElem_cons_succ, List.getElem_cons_zero, Act.put, List.setIfInBounds_toArray, List.set_cons_zero, List.set_cons_succ]
      refine wpAnyH_take (i := 40) (v := ?vtg40) rfl (by kernel_rfl) (by kernel_rfl) (by kernel_rfl) (fun _ _ _ h => h) (.inl ⟨by rfl, ?htg40⟩) hS ?rtg40
      case htg40 =>
        intro w' hs
        (try dsimp only at hs)
        go_split_ands
        go_simp
        try with_reducible rfl
      simp only [List.getElem_toArray, List.getElem_cons_succ, List.getElem_cons_zero, Act.put, List.setIfInBounds_toArray, List.set_cons_zero, List.set_cons_succ]
      refine wpAnyH_ready (rs := [39]) (by kernel_rfl) (by simp) (AllReadyH.cons rfl (fun K hK => ?_) AllReadyH.nil)
      go_simp
      go_at_call 38
      refine (show Calls _ _ #[p] _ (fun e w' => e = .returned (.int .i64 0) ∧ Below _ _ w') from D.used  HD17.out ).mono ?_
      rintro e w18 ⟨rfl, b'⟩
      have HB18 := Lib.hid (HB17.out.trans (b'.mono HB17.out.size))
      have HD18 := Lib.hid (D.keep HD17.out b')
      clear b'
      go_wp2_with fail
      refine hK.out _ _ (HC.out _ HB18.out) (fun hS => ?_)
      clear hK
      as_aux_lemma =>
      refine wpAnyH_ready (rs := [41]) (by kernel_rfl) (by simp) (AllReadyH.cons rfl (fun K hK => ?_) AllReadyH.nil)
      go_simp
      go_at_call 42
      refine (show Calls _ _ #[p] _ (fun e w' => e = .returned (.int .i64 0) ∧ Below _ _ w') from D.max  HD18.out ).mono ?_
      rintro e w19 ⟨rfl, b'⟩
      have HB19 := Lib.hid (HB18.out.trans (b'.mono HB18.out.size))
      have HD19 := Lib.hid (D.keep HD18.out b')
      clear b'
      go_wp2_with fail
      refine hK.out _ _ (HC.out _ HB19.out) (fun hS => ?_)
      clear hK
      as_aux_lemma =>
      refine wpAnyH_take (i := 42) (v := ?vti42) rfl (by kernel_rfl) (by kernel_rfl) (by kernel_rfl) (fun _ _ _ h => h) (.inl ⟨by rfl, ?hti42⟩) hS ?rti42
      case hti42 =>
        intro w' hs
        (try dsimp only at hs)
        go_split_ands
        go_simp
        try with_reducible rfl
      simp only [List.getElem_toArray, List.getElem_cons_succ, List.getElem_cons_zero, Act.put, List.setIfInBounds_toArray, List.set_cons_zero, List.set_cons_succ]
      refine wpAnyH_take (i := 43) (v := ?vti43) rfl (by kernel_rfl) (by kernel_rfl) (by kernel_rfl) (fun _ _ _ h => h) (.inl ⟨by rfl, ?hti43⟩) hS ?rti43
      case hti43 =>
        intro w' hs
        (try dsimp only at hs)
        go_split_ands
        go_simp
        try with_reducible rfl
      simp only [List.getElem_toArray, List.getElem_cons_succ, List.getElem_cons_zero, Act.put, List.setIfInBounds_toArray, List.set_cons_zero, List.set_cons_succ]
      refine wpAnyH_take (i := 44) (v := ?vti44) rfl (by kernel_rfl) (by kernel_rfl) (by kernel_rfl) (fun _ _ _ h => h) (.inl ⟨by rfl, ?hti44⟩) hS ?rti44
      case hti44 =>
        intro w' hs
        (try dsimp only at hs)
        go_split_ands
        go_simp
        try with_reducible rfl
      simp only [List.getElem_toArray, List.getElem_cons_succ, List.getElem_cons_zero, Act.put, List.setIfInBounds_toArray, List.set_cons_zero, List.set_cons_succ]
      refine wpAnyH_take (i := 45) (v := ?vti45) rfl (by kernel_rfl) (by kernel_rfl) (by kernel_rfl) (fun _ _ _ h => h) (.inl ⟨by rfl, ?hti45⟩) hS ?rti45
      case hti45 =>
        intro w' hs
        (try dsimp only at hs)
        go_split_ands
        go_simp
        try with_reducible rfl
      simp only [List.getElem_toArray, List.getElem_cons_succ, List.getElem_cons_zero, Act.put, List.setIfInBounds_toArray, List.set_cons_zero, List.set_cons_succ]
      refine wpAnyH_take (i := 46) (v := ?vti46) rfl (by kernel_rfl) (by kernel_rfl) (by kernel_rfl) (fun _ _ _ h => h) (.inl ⟨by rfl, ?hti46⟩) hS ?rti46
      case hti46 =>
        intro w' hs
        (try dsimp only at hs)
        go_split_ands
        go_simp
        try with_reducible rfl
      simp only [List.getElem_toArray, List.getElem_cons_succ, List.getElem_cons_zero, Act.put, List.setIfInBounds_toArray, List.set_cons_zero, List.set_cons_succ]
      refine wpAnyH_take (i := 49) (v := ?vti49) rfl (by kernel_rfl) (by kernel_rfl) (by kernel_rfl) (fun _ _ _ h => h) (.inl ⟨by rfl, ?hti49⟩) hS ?rti49
      case hti49 =>
        intro w' hs
        (try dsimp only at hs)
        go_split_ands
        go_simp
        try with_reducible rfl
      simp only [List.getElem_toArray, List.getElem_cons_succ, List.getElem_cons_zero, Act.put, List.setIfInBounds_toArray, List.set_cons_zero, List.set_cons_succ]
      refine wpAnyH_take (i := 50) (v := ?vti50) rfl (by kernel_rfl) (by kernel_rfl) (by kernel_rfl) (fun _ _ _ h => h) (.inl ⟨by rfl, ?hti50⟩) hS ?rti50
      case hti50 =>
        intro w' hs
        (try dsimp only at hs)
        go_split_ands
        go_simp
        try with_reducible rfl
      simp only [List.getElem_toArray, List.getElem_cons_succ, List.getElem_cons_zero, Act.put, List.setIfInBounds_toArray, List.set_cons_zero, List.set_cons_succ]
      refine wpAnyH_take (i := 54) (v := ?vti54) rfl (by kernel_rfl) (by kernel_rfl) (by kernel_rfl) (fun _ _ _ h => h) (.inl ⟨by rfl, ?hti54⟩) hS ?rti54
      case hti54 =>
        intro w' hs
        (try dsimp only at hs)
        go_split_ands
        go_simp
        try with_reducible rfl
      simp only [List.getElem_toArray, List.getElem_cons_succ, List.getElem_cons_zero, Act.put, List.setIfInBounds_toArray, List.set_cons_zero, List.set_cons_succ]
      refine wpAnyH_take (i := 58) (v := ?vti58) rfl (by kernel_rfl) (by kernel_rfl) (by kernel_rfl) (fun _ _ _ h => h) (.inl ⟨by rfl, ?hti58⟩) hS ?rti58
      case hti58 =>
        intro w' hs
        (try dsimp only at hs)
        go_split_ands
        go_simp
        try with_reducible rfl
      simp only [List.getElem_toArray, List.getElem_cons_succ, List.getElem_cons_zero, Act.put, List.setIfInBounds_toArray, List.set_cons_zero, List.set_cons_succ]
      refine wpAnyH_take (i := 59) (v := ?vti59) rfl (by kernel_rfl) (by kernel_rfl) (by kernel_rfl) (fun _ _ _ h => h) (.inl ⟨by rfl, ?hti59⟩) hS ?rti59
      case hti59 =>
        intro w' hs
        (try dsimp only at hs)
        go_split_ands
        go_simp
        try with_reducible rfl
      simp only [List.getElem_toArray, List.getElem_cons_succ, List.getElem_cons_zero, Act.put, List.setIfInBounds_toArray, List.set_cons_zero, List.set_cons_succ]
      refine wpAnyH_ready (rs := [47]) (by kernel_rfl) (by simp) (AllReadyH.cons rfl (fun K hK => ?_) AllReadyH.nil)
      go_simp
      go_at_call 41
      refine (show Calls _ _ #[p] _ (fun e w' => (∃ ao cap, e = .returned (.slice ao 0 cap)) ∧ Below _ _ w') from D.objects  HD19.out ).mono ?_
      rintro e w20 ⟨⟨ao, cap, rfl⟩, b'⟩
      have HB20 := Lib.hid (HB19.out.trans (b'.mono HB19.out.size))
      have HD20 := Lib.hid (D.keep HD19.out b')
      clear b'
      go_wp2_with fail
      refine hK.out _ _ (HC.out _ HB20.out) (fun hS => ?_)
      clear hK
      as_aux_lemma =>
      refine wpAnyH_take (i := 48) (v := ?vtj48) rfl (by kernel_rfl) (by kernel_rfl) (by kernel_rfl) (fun _ _ _ h => h) (.inl ⟨by rfl, ?htj48⟩) hS ?rtj48
      case htj48 =>
        intro w' hs
        (try dsimp only at hs)
        go_split_ands
        go_simp
        try with_reducible rfl
      simp only [List.getElem_toArray, List.getElem_cons_succ, List.getElem_cons_zero, Act.put, List.setIfInBounds_toArray, List.set_cons_zero, List.set_cons_succ]
      refine wpAnyH_ready (rs := [51]) (by kernel_rfl) (by simp) (AllReadyH.cons rfl (fun K hK => ?_) AllReadyH.nil)
      go_simp
      go_at_call 47
      refine (show Calls _ _ #[p, .agg #[.int .u8 (vk : Int), .int .i64 vn]] _ (fun e w' => (∃ ao cap, e = .returned (.slice ao 0 cap)) ∧ Below _ _ w') from D.kids ⟨vk, vn⟩ HD20.out HV.out).mono ?_
      rintro e w21 ⟨⟨ao, cap, rfl⟩, b'⟩
      have HB21 := Lib.hid (HB20.out.trans (b'.mono HB20.out.size))
      have HD21 := Lib.hid (D.keep HD20.out b')
      clear b'
      go_wp2_with fail
      refine hK.out _ _ (HC.out _ HB21.out) (fun hS => ?_)
      clear hK
      as_aux_lemma =>
      refine wpAnyH_take (i := 52) (v := ?vtk52) rfl (by kernel_rfl) (by kernel_rfl) (by kernel_rfl) (fun _ _ _ h => h) (.inl ⟨by rfl, ?htk52⟩) hS ?rtk52
      case htk52 =>
        intro w' hs
        (try dsimp only at hs)
        go_split_ands
        go_simp
        try with_reducible rfl
      simp only [List.getElem_toArray, List.getElem_cons_succ, List.getElem_cons_zero, Act.put, List.setIfInBounds_toArray, List.set_cons_zero, List.set_cons_succ]
      refine wpAnyH_take (i := 53) (v := ?vtk53) rfl (by kernel_rfl) (by kernel_rfl) (by kernel_rfl) (fun _ _ _ h => h) (.inl ⟨by rfl, ?htk53⟩) hS ?rtk53
      case htk53 =>
        intro w' hs
        (try dsimp only at hs)
        go_split_ands
        go_simp
        try with_reducible rfl
      simp only [List.getElem_toArray, List.getElem_cons_succ, List.getElem_cons_zero, Act.put, List.setIfInBounds_toArray, List.set_cons_zero, List.set_cons_succ]
      refine wpAnyH_ready (rs := [55]) (by kernel_rfl) (by simp) (AllReadyH.cons rfl (fun K hK => ?_) AllReadyH.nil)
      go_simp
      go_at_call 31
      refine (show Calls _ _ #[p] _ (fun e w' => (∃ ao cap, e = .returned (.slice ao 0 cap)) ∧ Below _ _ w') from D.dirty  HD21.out ).mono ?_
      rintro e w22 ⟨⟨ao, cap, rfl⟩, b'⟩
      have HB22 := Lib.hid (HB21.out.trans (b'.mono HB21.out.size))
      have HD22 := Lib.hid (D.keep HD21.out b')
      clear b'
      go_wp2_with fail
      refine hK.out _ _ (HC.out _ HB22.out) (fun hS => ?_)
      clear hK
      as_aux_lemma =>
      refine wpAnyH_take (i := 56) (v := ?vtl56) rfl (by kernel_rfl) (by kernel_rfl) (by kernel_rfl) (fun _ _ _ h => h) (.inl ⟨by rfl, ?htl56⟩) hS ?rtl56
      case htl56 =>
        intro w' hs
        (try dsimp only at hs)
        go_split_ands
        go_simp
        try with_reducible rfl
      simp only [List.getElem_toArray, List.getElem_cons_succ, List.getElem_cons_zero, Act.put, List.setIfInBounds_toArray, List.set_cons_zero, List.set_cons_succ]
      refine wpAnyH_take (i := 57) (v := ?vtl57) rfl (by kernel_rfl) (by kernel_rfl) (by kernel_rfl) (fun _ _ _ h => h) (.inl ⟨by rfl, ?htl57⟩) hS ?rtl57
      case htl57 =>
        intro w' hs
        (try dsimp only at hs)
        go_split_ands
        go_simp
        try with_reducible rfl
      simp only [List.getElem_toArray, List.getElem_cons_succ, List.getElem_cons_zero, Act.put, List.setIfInBounds_toArray, List.set_cons_zero, List.set_cons_succ]
      refine wpAnyH_ready (rs := [60]) (by kernel_rfl) (by simp) (AllReadyH.cons rfl (fun K hK => ?_) AllReadyH.nil)
      go_simp
      go_at_call 48
      refine (show Calls _ _ #[p, .agg #[.int .u8 (vk : Int), .int .i64 vn]] _ (fun e w' => (∃ ao cap, e = .returned (.slice ao 0 cap)) ∧ Below _ _ w') from D.cells ⟨vk, vn⟩ HD22.out HV.out).mono ?_
      rintro e w23 ⟨⟨ao, cap, rfl⟩, b'⟩
      have HB23 := Lib.hid (HB22.out.trans (b'.mono HB22.out.size))
      have HD23 := Lib.hid (D.keep HD22.out b')
      clear b'
      go_wp2_with fail
      refine hK.out _ _ (HC.out _ HB23.out) (fun hS => ?_)
      clear hK
      as_aux_lemma =>
      refine wpAnyH_take (i := 61) (v := ?vtm61) rfl (by kernel_rfl) (by kernel_rfl) (by kernel_rfl) (fun _ _ _ h => h) (.inl ⟨by rfl, ?htm61⟩) hS ?rtm61
      case htm61 =>
        intro w' hs
        (try dsimp only at hs)
        go_split_ands
        go_simp
        try with_reducible rfl
      simp only [List.getElem_toArray, List.getElem_cons_succ, List.getElem_cons_zero, Act.put, List.setIfInBounds_toArray, List.set_cons_zero, List.set_cons_succ]
      refine wpAnyH_take (i := 62) (v := ?vtm62) rfl (by kernel_rfl) (by kernel_rfl) (by kernel_rfl) (fun _ _ _ h => h) (.inl ⟨by rfl, ?htm62⟩) hS ?rtm62
      case htm62 =>
        intro w' hs
        (try dsimp only at hs)
        go_split_ands
        go_simp
        try with_reducible rfl
      simp only [List.getElem_toArray, List.getElem_cons_succ, List.getElem_cons_zero, Act.put, List.setIfInBounds_toArray, List.set_cons_zero, List.set_cons_succ]
      refine wpAnyH_take (i := 63) (v := ?vtm63) rfl (by kernel_rfl) (by kernel_rfl) (by kernel_rfl) (fun _ _ _ h => h) (.inl ⟨by rfl, ?htm63⟩) hS ?rtm63
      case htm63 =>
        intro w' hs
        (try dsimp only at hs)
        go_split_ands
        go_simp
        try with_reducible rfl
      simp only [List.getElem_toArray, List.getElem_cons_succ, List.getElem_cons_zero, Act.put, List.setIfInBounds_toArray, List.set_cons_zero, List.set_cons_succ]
      refine wpAnyH_take (i := 64) (v := ?vtm64) rfl (by kernel_rfl) (by kernel_rfl) (by kernel_rfl) (fun _ _ _ h => h) (.inl ⟨by rfl, ?htm64⟩) hS ?rtm64
      case htm64 =>
        intro w' hs
        (try dsimp only at hs)
        go_split_ands
        go_simp
        try with_reducible rfl
      simp only [List.getElem_toArray, List.getElem_cons_succ, List.getElem_cons_zero, Act.put, List.setIfInBounds_toArray, List.set_cons_zero, List.set_cons_succ]
      refine wpAnyH_take (i := 65) (v := ?vtm65) rfl (by kernel_rfl) (by kernel_rfl) (by kernel_rfl) (fun _ _ _ h => h) (.inl ⟨by rfl, ?htm65⟩) hS ?rtm65
      case htm65 =>
        intro w' hs
        (try dsimp only at hs)
        go_split_ands
        go_simp
        try with_reducible rfl
      simp only [List.getElem_toArray, List.getElem_cons_succ, List.getElem_cons_zero, Act.put, List.setIfInBounds_toArray, List.set_cons_zero, List.set_cons_succ]
      refine wpAnyH_take (i := 66) (v := ?vtm66) rfl (by kernel_rfl) (by kernel_rfl) (by kernel_rfl) (fun _ _ _ h => h) (.inl ⟨by rfl, ?htm66⟩) hS ?rtm66
      case htm66 =>
        intro w' hs
        (try dsimp only at hs)
        go_split_ands
        go_simp
        try with_reducible rfl
      simp only [List.getElem_toArray, List.getElem_cons_succ, List.getElem_cons_zero, Act.put, List.setIfInBounds_toArray, List.set_cons_zero, List.set_cons_succ]
      refine wpAnyH_take (i := 67) (v := ?vtm67) rfl (by kernel_rfl) (by kernel_rfl) (by kernel_rfl) (fun _ _ _ h => h) (.inl ⟨by rfl, ?htm67⟩) hS ?rtm67
      case htm67 =>
        intro w' hs
        (try dsimp only at hs)
        go_split_ands
        go_simp
        try with_reducible rfl
      simp only [List.getElem_toArray, List.getElem_cons_succ, List.getElem_cons_zero, Act.put, List.setIfInBounds_toArray, List.set_cons_zero, List.set_cons_succ]
      refine wpAnyH_take (i := 69) (v := ?vtm69) rfl (by kernel_rfl) (by kernel_rfl) (by kernel_rfl) (fun _ _ _ h => h) (.inl ⟨by rfl, ?htm69⟩) hS ?rtm69
      case htm69 =>
        intro w' hs
        (try dsimp only at hs)
        go_split_ands
        go_simp
        try with_reducible rfl
      simp only [List.getElem_toArray, List.getElem_cons_succ, List.getElem_cons_zero, Act.put, List.setIfInBounds_toArray, List.set_cons_zero, List.set_cons_succ]
      refine wpAnyH_take (i := 70) (v := ?vtm70) rfl (by kernel_rfl) (by kernel_rfl) (by kernel_rfl) (fun _ _ _ h => h) (.inl ⟨by rfl, ?htm70⟩) hS ?rtm70
      case htm70 =>
        intro w' hs
        (try dsimp only at hs)
        go_split_ands
        go_simp
        try with_reducible rfl
      simp only [List.getElem_toArray, List.getElem_cons_succ, List.getElem_cons_zero, Act.put, List.setIfInBounds_toArray, List.set_cons_zero, List.set_cons_succ]
      refine wpAnyH_ready (rs := [68]) (by kernel_rfl) (by simp) (AllReadyH.cons rfl (fun K hK => ?_) AllReadyH.nil)
      go_simp
      go_at_call 49
      refine (show Calls _ _ #[p, .agg #[.int .u8 (vk : Int), .int .i64 vn]] _ (fun e w' => e = .returned (.int .i64 0) ∧ Below _ _ w') from D.len ⟨vk, vn⟩ HD23.out HV.out).mono ?_
      rintro e w24 ⟨rfl, b'⟩
      have HB24 := Lib.hid (HB23.out.trans (b'.mono HB23.out.size))
      have HD24 := Lib.hid (D.keep HD23.out b')
      clear b'
      go_wp2_with fail
      refine hK.out _ _ (HC.out _ HB24.out) (fun hS => ?_)
      clear hK
      as_aux_lemma =>
      refine wpAnyH_ready (rs := [71]) (by kernel_rfl) (by simp) (AllReadyH.cons rfl (fun K hK => ?_) AllReadyH.nil)
      go_simp
      go_at_call 50
      refine (show Calls _ _ #[p, .agg #[.int .u8 (vk : Int), .int .i64 vn]] _ (fun e w' => e = .returned (.int .i64 0) ∧ Below _ _ w') from D.serial ⟨vk, vn⟩ HD24.out HV.out).mono ?_
      rintro e w25 ⟨rfl, b'⟩
      have HB25 := Lib.hid (HB24.out.trans (b'.mono HB24.out.size))
      have HD25 := Lib.hid (D.keep HD24.out b')
      clear b'
      go_wp2_with fail
      refine hK.out _ _ (HC.out _ HB25.out) (fun hS => ?_)
      clear hK
      as_aux_lemma =>
      refine wpAnyH_take (i := 72) (v := ?vto72) rfl (by kernel_rfl) (by kernel_rfl) (by kernel_rfl) (fun _ _ _ h => h) (.inl ⟨by rfl, ?hto72⟩) hS ?rto72
      case hto72 =>
        intro w' hs
        (try dsimp only at hs)
        go_split_ands
        go_simp
        try with_reducible rfl
      simp only [List.getElem_toArray, List.getElem_cons_succ, List.getElem_cons_zero, Act.put, List.setIfInBounds_toArray, List.set_cons_zero, List.set_cons_succ]
      refine wpAnyH_take (i := 73) (v := ?vto73) rfl (by kernel_rfl) (by kernel_rfl) (by kernel_rfl) (fun _ _ _ h => h) (.inl ⟨by rfl, ?hto73⟩) hS ?rto73
      case hto73 =>
        intro w' hs
        (try dsimp only at hs)
        go_split_ands
        go_simp
        try with_reducible rfl
      simp only [List.getElem_toArray, List.getElem_cons_succ, List.getElem_cons_zero, Act.put, List.setIfInBounds_toArray, List.set_cons_zero, List.set_cons_succ]
      refine wpAnyH_take (i := 74) (v := ?vto74) rfl (by kernel_rfl) (by kernel_rfl) (by kernel_rfl) (fun _ _ _ h => h) (.inl ⟨by rfl, ?hto74⟩) hS ?rto74
      case hto74 =>
        intro w' hs
        (try dsimp only at hs)
        go_split_ands
        go_simp
        try with_reducible rfl
      simp only [List.getElem_toArray, List.getElem_cons_succ, List.getElem_cons_zero, Act.put, List.setIfInBounds_toArray, List.set_cons_zero, List.set_cons_succ]
      refine wpAnyH_take (i := 75) (v := ?vto75) rfl (by kernel_rfl) (by kernel_rfl) (by kernel_rfl) (fun _ _ _ h => h) (.inl ⟨by rfl, ?hto75⟩) hS ?rto75
      case hto75 =>
        intro w' hs
        (try dsimp only at hs)
        go_split_ands
        go_simp
        try with_reducible rfl
      simp only [List.getElem_toArray, List.getElem_cons_succ, List.getElem_cons_zero, Act.put, List.setIfInBounds_toArray, List.set_cons_zero, List.set_cons_succ]
      refine wpAnyH_take (i := 76) (v := ?vto76) rfl (by kernel_rfl) (by kernel_rfl) (by kernel_rfl) (fun _ _ _ h => h) (.inl ⟨by rfl, ?hto76⟩) hS ?rto76
      case hto76 =>
        intro w' hs
        (try dsimp only at hs)
        go_split_ands
        go_simp
        try with_reducible rfl
      simp only [List.getElem_toArray, List.getElem_cons_succ, List.getElem_cons_zero, Act.put, List.setIfInBounds_toArray, List.set_cons_zero, List.set_cons_succ]
      refine wpAnyH_take (i := 77) (v := ?vto77) rfl (by kernel_rfl) (by kernel_rfl) (by kernel_rfl) (fun _ _ _ h => h) (.inl ⟨by rfl, ?hto77⟩) hS ?rto77
      case hto77 =>
        intro w' hs
        (try dsimp only at hs)
        go_split_ands
        go_simp
        try with_reducible rfl
      simp only [List.getElem_toArray, List.getElem_cons_succ, List.getElem_cons_zero, Act.put, List.setIfInBounds_toArray, List.set_cons_zero, List.set_cons_succ]
      refine wpAnyH_take (i := 78) (v := ?vto78) rfl (by kernel_rfl) (by kernel_rfl) (by kernel_rfl) (fun _ _ _ h => h) (.inl ⟨by rfl, ?hto78⟩) hS ?rto78
      case hto78 =>
        intro w' hs
        (try dsimp only at hs)
        go_split_ands
        go_simp
        try with_reducible rfl
      simp only [List.getElem_toArray, List.getElem_cons_succ, List.getElem_cons_zero, Act.put, List.setIfInBounds_toArray, List.set_cons_zero, List.set_cons_succ]
      refine wpAnyH_take (i := 80) (v := ?vto80) rfl (by kernel_rfl) (by kernel_rfl) (by kernel_rfl) (fun _ _ _ h => h) (.inl ⟨by rfl, ?hto80⟩) hS ?rto80
      case hto80 =>
        intro w' hs
        (try dsimp only at hs)
        go_split_ands
        go_simp
        try with_reducible rfl
      simp only [List.getElem_toArray, List.getElem_cons_succ, List.getElem_cons_zero, Act.put, List.setIfInBounds_toArray, List.set_cons_zero, List.set_cons_succ]
      refine wpAnyH_ready (rs := [79]) (by kernel_rfl) (by simp) (AllReadyH.cons rfl (fun K hK => ?_) AllReadyH.nil)
      go_simp
      go_at_call 51
      refine (show Calls _ _ #[p, .agg #[.int .u8 (vk : Int), .int .i64 vn], .agg #[.int .u8 (vk : Int), .int .i64 vn]] _ (fun e w' => e = .returned (.agg #[.int .u8 0, .int .i64 0]) ∧ Below _ _ w') from D.get ⟨vk, vn⟩ ⟨vk, vn⟩ HD25.out HV.out HV.out).mono ?_
      rintro e w26 ⟨rfl, b'⟩
      have HB26 := Lib.hid (HB25.out.trans (b'.mono HB25.out.size))
      have HD26 := Lib.hid (D.keep HD25.out b')
      clear b'
      go_wp2_with fail
      refine hK.out _ _ (HC.out _ HB26.out) (fun hS => ?_)
      clear hK
      as_aux_lemma =>
      refine wpAnyH_take (i := 81) (v := ?vtp81) rfl (by kernel_rfl) (by kernel_rfl) (by kernel_rfl) (fun _ _ _ h => h) (.inl ⟨by rfl, ?htp81⟩) hS ?rtp81
      case htp81 =>
        intro w' hs
        (try dsimp only at hs)
        go_split_ands
        go_simp
        try with_reducible rfl
      simp only [List.getElem_toArray, List.getElem_cons_succ, List.getElem_cons_zero, Act.put, List.setIfInBounds_toArray, List.set_cons_zero, List.set_cons_succ]
      refine wpAnyH_take (i := 82) (v := ?vtp82) rfl (by kernel_rfl) (by kernel_rfl) (by kernel_rfl) (fun _ _ _ h => h) (.inl ⟨by rfl, ?htp82⟩) hS ?rtp82
      case htp82 =>
        intro w' hs
        (try dsimp only at hs)
        go_split_ands
        go_simp
        try with_reducible rfl
      simp only [List.getElem_toArray, List.getElem_cons_succ, List.getElem_cons_zero, Act.put, List.setIfInBounds_toArray, List.set_cons_zero, List.set_cons_succ]
      refine wpAnyH_take (i := 83) (v := ?vtp83) rfl (by kernel_rfl) (by kernel_rfl) (by kernel_rfl) (fun _ _ _ h => h) (.inl ⟨by rfl, ?htp83⟩) hS ?rtp83
      case htp83 =>
        intro w' hs
        (try dsimp only at hs)
        go_split_ands
        go_simp
        try with_reducible rfl
      simp only [List.getElem_toArray, List.getElem_cons_succ, List.getElem_cons_zero, Act.put, List.setIfInBounds_toArray, List.set_cons_zero, List.set_cons_succ]
      refine wpAnyH_take (i := 84) (v := ?vtp84) rfl (by kernel_rfl) (by kernel_rfl) (by kernel_rfl) (fun _ _ _ h => h) (.inl ⟨by rfl, ?htp84⟩) hS ?rtp84
      case htp84 =>
        intro w' hs
        (try dsimp only at hs)
        go_split_ands
        go_simp
        try with_reducible rfl
      simp only [List.getElem_toArray, List.getElem_cons_succ, List.getElem_cons_zero, Act.put, List.setIfInBounds_toArray, List.set_cons_zero, List.set_cons_succ]
      refine wpAnyH_take (i := 85) (v := ?vtp85) rfl (by kernel_rfl) (by kernel_rfl) (by kernel_rfl) (fun _ _ _ h => h) (.inl ⟨by rfl, ?htp85⟩) hS ?rtp85
      case htp85 =>
        intro w' hs
        (try dsimp only at hs)
        go_split_ands
        go_simp
        try with_reducible rfl
      simp only [List.getElem_toArray, List.getElem_cons_succ, List.getElem_cons_zero, Act.put, List.setIfInBounds_toArray, List.set_cons_zero, List.set_cons_succ]
      refine wpAnyH_take (i := 87) (v := ?vtp87) rfl (by kernel_rfl) (by kernel_rfl) (by kernel_rfl) (fun _ _ _ h => h) (.inl ⟨by rfl, ?htp87⟩) hS ?rtp87
      case htp87 =>
        intro w' hs
        (try dsimp only at hs)
        go_split_ands
        go_simp
        try with_reducible rfl
      simp only [List.getElem_toArray, List.getElem_cons_succ, List.getElem_cons_zero, Act.put, List.setIfInBounds_toArray, List.set_cons_zero, List.set_cons_succ]
      refine wpAnyH_ready (rs := [86]) (by kernel_rfl) (by simp) (AllReadyH.cons rfl (fun K hK => ?_) AllReadyH.nil)
      go_simp
      go_at_call 52
      refine (show Calls _ _ #[p, .agg #[.int .u8 (vk : Int), .int .i64 vn]] _ (fun e w' => e = .returned (.agg #[.int .u8 0, .int .i64 0]) ∧ Below _ _ w') from D.met ⟨vk, vn⟩ HD26.out HV.out).mono ?_
      rintro e w27 ⟨rfl, b'⟩
      have HB27 := Lib.hid (HB26.out.trans (b'.mono HB26.out.size))
      have HD27 := Lib.hid (D.keep HD26.out b')
      clear b'
      go_wp2_with fail
      refine hK.out _ _ (HC.out _ HB27.out) (fun hS => ?_)
      clear hK
      as_aux_lemma =>
      refine wpAnyH_take (i := 88) (v := ?vtq88) rfl (by kernel_rfl) (by kernel_rfl) (by kernel_rfl) (fun _ _ _ h => h) (.inl ⟨by rfl, ?htq88⟩) hS ?rtq88
      case htq88 =>
        intro w' hs
        (try dsimp only at hs)
        go_split_ands
        go_simp
        try with_reducible rfl
      simp only [List.getElem_toArray, List.getElem_cons_succ, List.getElem_cons_zero, Act.put, List.setIfInBounds_toArray, List.set_cons_zero, List.set_cons_succ]
      refine wpAnyH_take (i := 89) (v := ?vtq89) rfl (by kernel_rfl) (by kernel_rfl) (by kernel_rfl) (fun _ _ _ h => h) (.inl ⟨by rfl, ?htq89⟩) hS ?rtq89
      case htq89 =>
        intro w' hs
        (try dsimp only at hs)
        go_split_ands
        go_simp
        try with_reducible rfl
      simp only [List.getElem_toArray, List.getElem_cons_succ, List.getElem_cons_zero, Act.put, List.setIfInBounds_toArray, List.set_cons_zero, List.set_cons_succ]
      refine wpAnyH_take (i := 90) (v := ?vtq90) rfl (by kernel_rfl) (by kernel_rfl) (by kernel_rfl) (fun _ _ _ h => h) (.inl ⟨by rfl, ?htq90⟩) hS ?rtq90
      case htq90 =>
        intro w' hs
        (try dsimp only at hs)
        go_split_ands
        go_simp
        try with_reducible rfl
      simp only [List.getElem_toArray, List.getElem_cons_succ, List.getElem_cons_zero, Act.put, List.setIfInBounds_toArray, List.set_cons_zero, List.set_cons_succ]
      refine wpAnyH_take (i := 91) (v := ?vtq91) rfl (by kernel_rfl) (by kernel_rfl) (by kernel_rfl) (fun _ _ _ h => h) (.inl ⟨by rfl, ?htq91⟩) hS ?rtq91
      case htq91 =>
        intro w' hs
        (try dsimp only at hs)
        go_split_ands
        go_simp
        try with_reducible rfl
      simp only [List.getElem_toArray, List.getElem_cons_succ, List.getElem_cons_zero, Act.put, List.setIfInBounds_toArray, List.set_cons_zero, List.set_cons_succ]
      refine wpAnyH_take (i := 92) (v := ?vtq92) rfl (by kernel_rfl) (by kernel_rfl) (by kernel_rfl) (fun _ _ _ h => h) (.inl ⟨by rfl, ?htq92⟩) hS ?rtq92
      case htq92 =>
        intro w' hs
        (try dsimp only at hs)
        go_split_ands
        go_simp
        try with_reducible rfl
      simp only [List.getElem_toArray, List.getElem_cons_succ, List.getElem_cons_zero, Act.put, List.setIfInBounds_toArray, List.set_cons_zero, List.set_cons_succ]
      refine wpAnyH_take (i := 94) (v := ?vtq94) rfl (by kernel_rfl) (by kernel_rfl) (by kernel_rfl) (fun _ _ _ h => h) (.inl ⟨by rfl, ?htq94⟩) hS ?rtq94
      case htq94 =>
        intro w' hs
        (try dsimp only at hs)
        go_split_ands
        go_simp
        try with_reducible rfl
      simp only [List.getElem_toArray, List.getElem_cons_succ, List.getElem_cons_zero, Act.put, List.setIfInBounds_toArray, List.set_cons_zero, List.set_cons_succ]
      refine wpAnyH_ready (rs := [93]) (by kernel_rfl) (by simp) (AllReadyH.cons rfl (fun K hK => ?_) AllReadyH.nil)
      go_simp
      go_at_call 53
      refine (show Calls _ _ #[p, .agg #[.int .u8 (vk : Int), .int .i64 vn]] _ (fun e w' => e = .returned (.agg #[.int .u8 0, .int .i64 0]) ∧ Below _ _ w') from D.load ⟨vk, vn⟩ HD27.out HV.out).mono ?_
      rintro e w28 ⟨rfl, b'⟩
      have HB28 := Lib.hid (HB27.out.trans (b'.mono HB27.out.size))
      have HD28 := Lib.hid (D.keep HD27.out b')
      clear b'
      go_wp2_with fail
      refine hK.out _ _ (HC.out _ HB28.out) (fun hS => ?_)
      clear hK
      as_aux_lemma =>
      refine wpAnyH_take (i := 95) (v := ?vtz95) rfl (by kernel_rfl) (by kernel_rfl) (by kernel_rfl) (fun _ _ _ h => h) (.inl ⟨by rfl, ?htz95⟩) hS ?rtz95
      case htz95 =>
        intro w' hs
        (try dsimp only at hs)
        go_split_ands
        go_simp
        try with_reducible rfl
      simp only [List.getElem_toArray, List.getElem_cons_succ, List.getElem_cons_zero, Act.put, List.setIfInBounds_toArray, List.set_cons_zero, List.set_cons_succ]
      refine wpAnyH_take (i := 96) (v := ?vtz96) rfl (by kernel_rfl) (by kernel_rfl) (by kernel_rfl) (fun _ _ _ h => h) (.inl ⟨by rfl, ?htz96⟩) hS ?rtz96
      case htz96 =>
        intro w' hs
        (try dsimp only at hs)
        go_split_ands
        go_simp
        try with_reducible rfl
      simp only [List.getElem_toArray, List.getElem_cons_succ, List.getElem_cons_zero, Act.put, List.setIfInBounds_toArray, List.set_cons_zero, List.set_cons_succ]
      refine wpAnyH_done (by kernel_rfl) ?_ _
      clear hS
      go_wp2_with fail
      go_roundg (2 - (k + 1))
      case measure => omega
      case rel => exact ⟨k + 1, rfl, by go_num, by omega, HB28.out⟩
    · have hnl : ¬ (k : Int) < 2 := by omega
      have HBW := Lib.hid hbw
      clear hbw
      go_wp2_with fail
      refine (awake_fn HP H wr).mono ?_
      rintro e w9 ⟨rfl, b9⟩
      have hls := HL0.out.size
      rw [HVB.out] at hls
      have HB9 := Lib.hid (HL0.out.trans ((HBW.out.trans (b9.mono HBW.out.size)).mono hls))
      clear hls
      clear b9
      go_wp2_with fail
      go_ret
      exact ⟨rfl, by rw [HVB.out]; exact HB9.out⟩
end Go.Proofs.YthejclgihhfenaaGreat.Hp
