/-
  Layer 13: the law TableNone, over what the calls say of a table that New did not make (written by tb-none.py).
-/
import Derived.Test.YtlpbciclkagnbaaTbAwake
namespace Go.Proofs.Ytlpbciclkagnbaa.Tb
open Go Go.RowKit Go.Proofs.Ytlpbciclkagnbaa.Pl

/-- The zero table: ITS CELLS ARE THE DEVELOPERS' STRUCT'S: change this line with it. -/
def zeroTable : Array Value := #[.pointer none, .map none, .int .u8 0, .int .i64 0, .int .u8 0, .int .i64 0, .pointer none, .pointer none, .bool false, .slice none 0 0, .int .i64 0, .int .i64 0]
/-- What the calls say of a table that is none. -/
structure DeadSays (DP : World → Value → Prop) : Prop where
  keep : ∀ {w w' p}, DP w p → Below w.heap.size w w' → DP w' p
  next : ∀ {w p} (k : Vl), DP w p → k.In → Calls Try.prog 7 #[p, k.val] w (fun e w' => e = .returned (.tuple #[nilV.val, nilV.val, .int .i64 1]) ∧ Below w.heap.size w w')
  set : ∀ {w p} (k v : Vl), DP w p → k.In → v.In → Calls Try.prog 8 #[p, k.val, v.val] w (fun e w' => e = .returned (.int .i64 1) ∧ Below w.heap.size w w')
  get : ∀ {w p} (k : Vl), DP w p → k.In → Calls Try.prog 9 #[p, k.val] w (fun e w' => e = .returned nilV.val ∧ Below w.heap.size w w')
  len : ∀ {w p}, DP w p → Calls Try.prog 10 #[p] w (fun e w' => e = .returned (.int .i64 0) ∧ Below w.heap.size w w')
  count : ∀ {w p}, DP w p → Calls Try.prog 11 #[p] w (fun e w' => e = .returned (.int .i64 0) ∧ Below w.heap.size w w')
  values : ∀ {w p}, DP w p → Calls Try.prog 12 #[p] w (fun e w' => ∃ ao cap, e = .returned (.slice ao 0 cap) ∧ Below w.heap.size w w')
  nil : ∀ w, DP w (.pointer none)
  zero : ∀ (w : World), DP (w.alloc (.cells zeroTable 32)) (.pointer (some ⟨w.heap.size, 0, none⟩))

set_option maxHeartbeats 4000000 in
set_option maxRecDepth 100000 in
theorem none_walk (TA : TableP) (H : TableSays TA) (DP : World → Value → Prop) (D : DeadSays DP) (k v : Vl) (h1 : k.In) (h2 : v.In) (w : World) :
    Calls Try.prog 3 #[k.val, v.val] w (fun e w' => e = .returned (.bool true) ∧ Below w.heap.size w w') := by
  obtain ⟨kk, kn⟩ := k
  obtain ⟨vk, vn⟩ := v
  have HI1 := Lib.hid h1
  have HI2 := Lib.hid h2
  clear h1 h2
  show Calls Try.prog 3 #[.agg #[.int .u8 (kk : Int), .int .i64 kn], .agg #[.int .u8 (vk : Int), .int .i64 vn]] w _
  obtain ⟨β, hβ⟩ : ∃ β, β = w.heap.size := ⟨_, rfl⟩
  have hK := new_block w (.cells #[.int .u8 (kk : Int), .int .i64 kn] 24)
  have hV := new_block (w.alloc (.cells #[.int .u8 (kk : Int), .int .i64 kn] 24)) (.cells #[.int .u8 (vk : Int), .int .i64 vn] 24)
  have hd := D.zero ((w.alloc (.cells #[.int .u8 (kk : Int), .int .i64 kn] 24)).alloc (.cells #[.int .u8 (vk : Int), .int .i64 vn] 24))
  rw [show (w.alloc (.cells #[.int .u8 (kk : Int), .int .i64 kn] 24)).heap.size = w.heap.size + 1 from by simp] at hV
  rw [show ((w.alloc (.cells #[.int .u8 (kk : Int), .int .i64 kn] 24)).alloc (.cells #[.int .u8 (vk : Int), .int .i64 vn] 24)).heap.size = w.heap.size + 1 + 1 from by simp] at hd
  have hb1 : Below w.heap.size w (w.alloc (.cells #[.int .u8 (kk : Int), .int .i64 kn] 24)) := (Below.refl _ _).alloc (Nat.le_refl _) _
  have hb2 := (Below.refl (w.alloc (.cells #[.int .u8 (kk : Int), .int .i64 kn] 24)).heap.size _).alloc (Nat.le_refl _) (.cells #[.int .u8 (vk : Int), .int .i64 vn] 24)
  have hK := (hb2.block _ (lt_of_get hK)).trans hK
  have hb3 := (Below.refl ((w.alloc (.cells #[.int .u8 (kk : Int), .int .i64 kn] 24)).alloc (.cells #[.int .u8 (vk : Int), .int .i64 vn] 24)).heap.size _).alloc (Nat.le_refl _) (.cells zeroTable 32)
  have HK := Lib.hid ((hb3.block _ (lt_of_get hK)).trans hK)
  have HV := Lib.hid ((hb3.block _ (lt_of_get hV)).trans hV)
  have HD := Lib.hid hd
  have HB0 := Lib.hid ((hb1.trans (hb2.mono hb1.size)).trans (hb3.mono (hb1.trans (hb2.mono hb1.size)).size))
  unfold zeroTable at HK HV HD HB0
  clear hK hV hd hb1 hb2 hb3
  rw [← hβ] at HK HV HD
  have HBE := Lib.hid hβ
  clear hβ
  go_enter Try.func3, Try.ntmps3
  go_upto_region 3 with fail
  rw [← HBE.out]
  generalize hW : ((w.alloc (.cells #[.int .u8 (kk : Int), .int .i64 kn] 24)).alloc (.cells #[.int .u8 (vk : Int), .int .i64 vn] 24)).alloc (.cells #[.pointer none, .map none, .int .u8 0, .int .i64 0, .int .u8 0, .int .i64 0, .pointer none, .pointer none, .bool false, .slice none 0 0, .int .i64 0, .int .i64 0] 32) = w0 at *
  clear hW
  have HW0 := Lib.hid (Below.refl w0.heap.size w0)
  have HL := Lib.hid (And.intro (lt_of_get HK.out) (lt_of_get HV.out))
  have x0 := cell_of ((HW0.out.block _ HL.out.1).trans HK.out) 0 _ rfl
  have x1 := cell_of ((HW0.out.block _ HL.out.1).trans HK.out) 1 _ rfl
  go_wp2_with fail
  clear x0 x1
  refine (show Calls _ _ #[_, .agg #[.int .u8 (kk : Int), .int .i64 kn]] w0 (fun e w' => e = .returned (.tuple #[.agg #[.int .u8 0, .int .i64 0], .agg #[.int .u8 0, .int .i64 0], .int .i64 1]) ∧ Below w0.heap.size w0 w') from D.next ⟨kk, kn⟩ (D.nil _) HI1.out).mono ?_
  rintro e w1 ⟨rfl, hb⟩
  go_upto_region 4 with fail
  have hb2 := (hb.alloc hb.size (.cells #[.int .u8 0, .int .i64 0] 24)).alloc (by have := hb.size; simp; omega) (.cells #[.int .u8 0, .int .i64 0] 24)
  generalize (w1.alloc (.cells #[.int .u8 0, .int .i64 0] 24)).alloc (.cells #[.int .u8 0, .int .i64 0] 24) = y1 at *
  have HW1 := Lib.hid (HW0.out.trans (hb2.mono HW0.out.size))
  clear hb hb2
  have x0 := cell_of ((HW1.out.block _ HL.out.1).trans HK.out) 0 _ rfl
  have x1 := cell_of ((HW1.out.block _ HL.out.1).trans HK.out) 1 _ rfl
  go_wp2_with fail
  clear x0 x1
  refine (show Calls _ _ #[_, .agg #[.int .u8 (kk : Int), .int .i64 kn]] y1 (fun e w' => e = .returned (.tuple #[.agg #[.int .u8 0, .int .i64 0], .agg #[.int .u8 0, .int .i64 0], .int .i64 1]) ∧ Below y1.heap.size y1 w') from D.next ⟨kk, kn⟩ (D.keep HD.out HW1.out) HI1.out).mono ?_
  rintro e w2 ⟨rfl, hb⟩
  go_upto_region 5 with fail
  have hb2 := (hb.alloc hb.size (.cells #[.int .u8 0, .int .i64 0] 24)).alloc (by have := hb.size; simp; omega) (.cells #[.int .u8 0, .int .i64 0] 24)
  generalize (w2.alloc (.cells #[.int .u8 0, .int .i64 0] 24)).alloc (.cells #[.int .u8 0, .int .i64 0] 24) = y2 at *
  have HW2 := Lib.hid (HW1.out.trans (hb2.mono HW1.out.size))
  clear hb hb2
  have x0 := cell_of ((HW2.out.block _ HL.out.1).trans HK.out) 0 _ rfl
  have x1 := cell_of ((HW2.out.block _ HL.out.1).trans HK.out) 1 _ rfl
  have z0 := cell_of ((HW2.out.block _ HL.out.2).trans HV.out) 0 _ rfl
  have z1 := cell_of ((HW2.out.block _ HL.out.2).trans HV.out) 1 _ rfl
  go_wp2_with fail
  clear x0 x1
  clear z0 z1
  refine (show Calls _ _ #[_, .agg #[.int .u8 (kk : Int), .int .i64 kn], .agg #[.int .u8 (vk : Int), .int .i64 vn]] y2 _ from D.set ⟨kk, kn⟩ ⟨vk, vn⟩ (D.nil _) HI1.out HI2.out).mono ?_
  rintro e w3 ⟨rfl, hb⟩
  have HW3 := Lib.hid (HW2.out.trans (hb.mono HW2.out.size))
  clear hb
  have x0 := cell_of ((HW3.out.block _ HL.out.1).trans HK.out) 0 _ rfl
  have x1 := cell_of ((HW3.out.block _ HL.out.1).trans HK.out) 1 _ rfl
  have z0 := cell_of ((HW3.out.block _ HL.out.2).trans HV.out) 0 _ rfl
  have z1 := cell_of ((HW3.out.block _ HL.out.2).trans HV.out) 1 _ rfl
  go_wp2_with fail
  clear x0 x1
  clear z0 z1
  refine (show Calls _ _ #[_, .agg #[.int .u8 (kk : Int), .int .i64 kn], .agg #[.int .u8 (vk : Int), .int .i64 vn]] w3 _ from D.set ⟨kk, kn⟩ ⟨vk, vn⟩ (D.keep HD.out HW3.out) HI1.out HI2.out).mono ?_
  rintro e w4 ⟨rfl, hb⟩
  have HW4 := Lib.hid (HW3.out.trans (hb.mono HW3.out.size))
  clear hb
  have x0 := cell_of ((HW4.out.block _ HL.out.1).trans HK.out) 0 _ rfl
  have x1 := cell_of ((HW4.out.block _ HL.out.1).trans HK.out) 1 _ rfl
  go_wp2_with fail
  clear x0 x1
  refine (show Calls _ _ #[_, .agg #[.int .u8 (kk : Int), .int .i64 kn]] w4 (fun e w' => e = .returned (.agg #[.int .u8 0, .int .i64 0]) ∧ Below w4.heap.size w4 w') from D.get ⟨kk, kn⟩ (D.nil _) HI1.out).mono ?_
  rintro e w5 ⟨rfl, hb⟩
  have HW5 := Lib.hid (HW4.out.trans (hb.mono HW4.out.size))
  clear hb
  go_wp2_with fail
  refine (D.len (D.keep HD.out HW5.out)).mono ?_
  rintro e w6 ⟨rfl, hb⟩
  have HW6 := Lib.hid (HW5.out.trans (hb.mono HW5.out.size))
  clear hb
  go_wp2_with fail
  refine (D.count (D.nil _)).mono ?_
  rintro e w7 ⟨rfl, hb⟩
  have HW7 := Lib.hid (HW6.out.trans (hb.mono HW6.out.size))
  clear hb
  go_wp2_with fail
  refine (D.values (D.nil _)).mono ?_
  rintro e w8 ⟨ao, cap, rfl, hb⟩
  have HW8 := Lib.hid (HW7.out.trans (hb.mono HW7.out.size))
  clear hb
  go_wp2_with fail
  refine (D.values (D.keep HD.out HW8.out)).mono ?_
  rintro e w9 ⟨ao2, cap2, rfl, hb⟩
  have HW9 := Lib.hid (HW8.out.trans (hb.mono HW8.out.size))
  clear hb
  go_wp2_with fail
  refine (awake_fn TA H _).mono ?_
  rintro e w10 ⟨rfl, hb⟩
  have HE := Lib.hid (HB0.out.trans ((HW9.out.trans (hb.mono HW9.out.size)).mono HB0.out.size))
  clear hb
  go_wp2_with fail
  go_ret
  exact ⟨rfl, HE.out⟩
end Go.Proofs.Ytlpbciclkagnbaa.Tb
