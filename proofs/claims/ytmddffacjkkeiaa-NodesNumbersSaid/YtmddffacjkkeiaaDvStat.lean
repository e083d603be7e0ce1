/-
  Layer 5: what kids a statement may have: statKidsFit, kind by kind (written by gen-dv-stat.py).
-/
import Derived.Test.YtmddffacjkkeiaaDvPairs
namespace Go.Proofs.Ytmddffacjkkeiaa.Nd
open Go Go.RowKit Go.ChangeShapes Go.WideShapes Go.Shelf

set_option maxHeartbeats 4000000 in
set_option maxRecDepth 100000 in
theorem stat5 (x li : Int) (s : ByteArray) (an ak : Option Addr) (ln cn lk ck : Nat) (v : Value) (ks : List Nat) (w : World) (hK : Kl w v ks) :
    Calls Try.prog 37 #[.agg #[.int .u8 5, .int .i64 x, .string s, .slice an ln cn, .slice ak lk ck, .int .i64 li], v] w fun e w' => e = .returned (.bool (rowL ks [blockP])) ∧ Below w.heap.size w w' := by
  have HK := Lib.hid hK
  obtain ⟨ao, cap, rfl, hl, hc2, _, hr⟩ := hK
  clear hr
  have hcap : ks.length ≤ 1000000000 := by omega
  obtain ⟨Z, hZ⟩ : ∃ Z, (rowL ks [blockP]) = Z := ⟨_, rfl⟩
  rw [hZ]
  have HZ := Lib.hid hZ
  clear hZ
  go_enter Try.func37, Try.ntmps37
  go_wp2_with fail
  refine (own_of _ [1] _ (kl_lit _ _ _ [1] _ _ (by rfl) (by decide) (by decide) (by simp) (by rfl))).mono ?_
  rintro e w2 ⟨fv, rfl, hF, b2⟩
  have HF := Lib.hid hF
  obtain ⟨f, caps, rfl, hE, hC⟩ := hF
  clear hE hC
  obtain ⟨hbox, hB⟩ := boxed_then b2
  have HB := Lib.hid hB
  clear hB b2
  have c0 := cell_of hbox 0 _ rfl
  have c1 := cell_of hbox 1 _ rfl
  clear hbox
  go_wp2_with fail
  refine (own_row _ _ ks [blockP] _ ((HK.out.below HB.out).below ((Below.refl _ _).alloc (Nat.le_refl _) _)) (fs_lit _ _ _ [blockP] _ _ (by decide) (by simp) (by rfl) (by intro j hj; match j, hj with | 0, _ => exact ⟨_, rfl, HF.out⟩))).mono ?_
  rintro e w3 ⟨rfl, b3⟩
  have HB3 := Lib.hid (below_lit HB.out b3)
  clear b3
  generalize rowL ks [blockP] = R at *
  go_wp2_with fail
  go_ret
  exact ⟨ret_bool HZ.out, HB3.out⟩

set_option maxHeartbeats 4000000 in
set_option maxRecDepth 100000 in
theorem stat6 (x li : Int) (s : ByteArray) (an ak : Option Addr) (ln cn lk ck : Nat) (v : Value) (ks : List Nat) (w : World) (hK : Kl w v ks) :
    Calls Try.prog 37 #[.agg #[.int .u8 6, .int .i64 x, .string s, .slice an ln cn, .slice ak lk ck, .int .i64 li], v] w fun e w' => e = .returned (.bool (rowL ks [exprK, blockP])) ∧ Below w.heap.size w w' := by
  have HK := Lib.hid hK
  obtain ⟨ao, cap, rfl, hl, hc2, _, hr⟩ := hK
  clear hr
  have hcap : ks.length ≤ 1000000000 := by omega
  obtain ⟨Z, hZ⟩ : ∃ Z, (rowL ks [exprK, blockP]) = Z := ⟨_, rfl⟩
  rw [hZ]
  have HZ := Lib.hid hZ
  clear hZ
  go_enter Try.func37, Try.ntmps37
  go_wp2_with fail
  refine (own_of _ [1] _ (kl_lit _ _ _ [1] _ _ (by rfl) (by decide) (by decide) (by simp) (by rfl))).mono ?_
  rintro e w2 ⟨fv, rfl, hF, b2⟩
  have HF := Lib.hid hF
  obtain ⟨f, caps, rfl, hE, hC⟩ := hF
  clear hE hC
  obtain ⟨hbox, hB⟩ := boxed_then b2
  have HB := Lib.hid hB
  clear hB b2
  have c0 := cell_of hbox 0 _ rfl
  have c1 := cell_of hbox 1 _ rfl
  clear hbox
  go_wp2_with fail
  refine (own_row _ _ ks [exprK, blockP] _ ((HK.out.below HB.out).below ((Below.refl _ _).alloc (Nat.le_refl _) _)) (fs_lit _ _ _ [exprK, blockP] _ _ (by decide) (by simp) (by rfl) (by intro j hj; match j, hj with | 0, _ => exact ⟨_, rfl, fn_expr _⟩ | 1, _ => exact ⟨_, rfl, HF.out⟩))).mono ?_
  rintro e w3 ⟨rfl, b3⟩
  have HB3 := Lib.hid (below_lit HB.out b3)
  clear b3
  generalize rowL ks [exprK, blockP] = R at *
  go_wp2_with fail
  go_ret
  exact ⟨ret_bool HZ.out, HB3.out⟩

set_option maxHeartbeats 4000000 in
set_option maxRecDepth 100000 in
theorem stat7 (x li : Int) (s : ByteArray) (an ak : Option Addr) (ln cn lk ck : Nat) (v : Value) (ks : List Nat) (w : World) (hK : Kl w v ks) :
    Calls Try.prog 37 #[.agg #[.int .u8 7, .int .i64 x, .string s, .slice an ln cn, .slice ak lk ck, .int .i64 li], v] w fun e w' => e = .returned (.bool (rowL ks [blockP, exprK])) ∧ Below w.heap.size w w' := by
  have HK := Lib.hid hK
  obtain ⟨ao, cap, rfl, hl, hc2, _, hr⟩ := hK
  clear hr
  have hcap : ks.length ≤ 1000000000 := by omega
  obtain ⟨Z, hZ⟩ : ∃ Z, (rowL ks [blockP, exprK]) = Z := ⟨_, rfl⟩
  rw [hZ]
  have HZ := Lib.hid hZ
  clear hZ
  go_enter Try.func37, Try.ntmps37
  go_wp2_with fail
  refine (own_of _ [1] _ (kl_lit _ _ _ [1] _ _ (by rfl) (by decide) (by decide) (by simp) (by rfl))).mono ?_
  rintro e w2 ⟨fv, rfl, hF, b2⟩
  have HF := Lib.hid hF
  obtain ⟨f, caps, rfl, hE, hC⟩ := hF
  clear hE hC
  obtain ⟨hbox, hB⟩ := boxed_then b2
  have HB := Lib.hid hB
  clear hB b2
  have c0 := cell_of hbox 0 _ rfl
  have c1 := cell_of hbox 1 _ rfl
  clear hbox
  go_wp2_with fail
  refine (own_row _ _ ks [blockP, exprK] _ ((HK.out.below HB.out).below ((Below.refl _ _).alloc (Nat.le_refl _) _)) (fs_lit _ _ _ [blockP, exprK] _ _ (by decide) (by simp) (by rfl) (by intro j hj; match j, hj with | 0, _ => exact ⟨_, rfl, HF.out⟩ | 1, _ => exact ⟨_, rfl, fn_expr _⟩))).mono ?_
  rintro e w3 ⟨rfl, b3⟩
  have HB3 := Lib.hid (below_lit HB.out b3)
  clear b3
  generalize rowL ks [blockP, exprK] = R at *
  go_wp2_with fail
  go_ret
  exact ⟨ret_bool HZ.out, HB3.out⟩

set_option maxHeartbeats 4000000 in
set_option maxRecDepth 100000 in
theorem stat2 (x li : Int) (s : ByteArray) (an ak : Option Addr) (ln cn lk ck : Nat) (v : Value) (ks : List Nat) (w : World) (hK : Kl w v ks) :
    Calls Try.prog 37 #[.agg #[.int .u8 2, .int .i64 x, .string s, .slice an ln cn, .slice ak lk ck, .int .i64 li], v] w fun e w' => e = .returned (.bool (listB ks 0 ks.length 0)) ∧ Below w.heap.size w w' := by
  have HK := Lib.hid hK
  obtain ⟨ao, cap, rfl, hl, hc2, _, hr⟩ := hK
  clear hr
  have hcap : ks.length ≤ 1000000000 := by omega
  obtain ⟨Z, hZ⟩ : ∃ Z, (listB ks 0 ks.length 0) = Z := ⟨_, rfl⟩
  rw [hZ]
  have HZ := Lib.hid hZ
  clear hZ
  go_enter Try.func37, Try.ntmps37
  go_wp2_with fail
  refine (own_of _ [1] _ (kl_lit _ _ _ [1] _ _ (by rfl) (by decide) (by decide) (by simp) (by rfl))).mono ?_
  rintro e w2 ⟨fv, rfl, hF, b2⟩
  have HF := Lib.hid hF
  obtain ⟨f, caps, rfl, hE, hC⟩ := hF
  clear hE hC
  obtain ⟨hbox, hB⟩ := boxed_then b2
  have HB := Lib.hid hB
  clear hB b2
  have c0 := cell_of hbox 0 _ rfl
  have c1 := cell_of hbox 1 _ rfl
  clear hbox
  have c := own_list _ ks 0 (ks.length : Int) 0 _ (HK.out.below HB.out) (by omega) (by omega) (by omega) (by omega)
  generalize listB ks 0 ks.length 0 = R at *
  go_wp2_with fail
  refine c.mono ?_
  rintro e w3 ⟨rfl, b3⟩
  have HB3 := Lib.hid (HB.out.trans (b3.mono HB.out.size))
  clear b3
  go_wp2_with fail
  go_ret
  exact ⟨ret_bool HZ.out, HB3.out⟩

set_option maxHeartbeats 4000000 in
set_option maxRecDepth 100000 in
theorem stat12 (x li : Int) (s : ByteArray) (an ak : Option Addr) (ln cn lk ck : Nat) (v : Value) (ks : List Nat) (w : World) (hK : Kl w v ks) :
    Calls Try.prog 37 #[.agg #[.int .u8 12, .int .i64 x, .string s, .slice an ln cn, .slice ak lk ck, .int .i64 li], v] w fun e w' => e = .returned (.bool (listB ks 0 ks.length 0)) ∧ Below w.heap.size w w' := by
  have HK := Lib.hid hK
  obtain ⟨ao, cap, rfl, hl, hc2, _, hr⟩ := hK
  clear hr
  have hcap : ks.length ≤ 1000000000 := by omega
  obtain ⟨Z, hZ⟩ : ∃ Z, (listB ks 0 ks.length 0) = Z := ⟨_, rfl⟩
  rw [hZ]
  have HZ := Lib.hid hZ
  clear hZ
  go_enter Try.func37, Try.ntmps37
  go_wp2_with fail
  refine (own_of _ [1] _ (kl_lit _ _ _ [1] _ _ (by rfl) (by decide) (by decide) (by simp) (by rfl))).mono ?_
  rintro e w2 ⟨fv, rfl, hF, b2⟩
  have HF := Lib.hid hF
  obtain ⟨f, caps, rfl, hE, hC⟩ := hF
  clear hE hC
  obtain ⟨hbox, hB⟩ := boxed_then b2
  have HB := Lib.hid hB
  clear hB b2
  have c0 := cell_of hbox 0 _ rfl
  have c1 := cell_of hbox 1 _ rfl
  clear hbox
  have c := own_list _ ks 0 (ks.length : Int) 0 _ (HK.out.below HB.out) (by omega) (by omega) (by omega) (by omega)
  generalize listB ks 0 ks.length 0 = R at *
  go_wp2_with fail
  refine c.mono ?_
  rintro e w3 ⟨rfl, b3⟩
  have HB3 := Lib.hid (HB.out.trans (b3.mono HB.out.size))
  clear b3
  go_wp2_with fail
  go_ret
  exact ⟨ret_bool HZ.out, HB3.out⟩

set_option maxHeartbeats 4000000 in
set_option maxRecDepth 100000 in
theorem stat3 (x li : Int) (s : ByteArray) (an ak : Option Addr) (ln cn lk ck : Nat) (v : Value) (ks : List Nat) (w : World) (hK : Kl w v ks) (hx : In64 x) :
    Calls Try.prog 37 #[.agg #[.int .u8 3, .int .i64 x, .string s, .slice an ln cn, .slice ak lk ck, .int .i64 li], v] w fun e w' => e = .returned (.bool (areB ks 0 x (isB [27, 28]) && listB ks x ks.length 1)) ∧ Below w.heap.size w w' := by
  have HK := Lib.hid hK
  obtain ⟨ao, cap, rfl, hl, hc2, _, hr⟩ := hK
  clear hr
  have hcap : ks.length ≤ 1000000000 := by omega
  obtain ⟨Z, hZ⟩ : ∃ Z, (areB ks 0 x (isB [27, 28]) && listB ks x ks.length 1) = Z := ⟨_, rfl⟩
  rw [hZ]
  have HZ := Lib.hid hZ
  clear hZ
  go_enter Try.func37, Try.ntmps37
  go_wp2_with fail
  refine (own_of _ [1] _ (kl_lit _ _ _ [1] _ _ (by rfl) (by decide) (by decide) (by simp) (by rfl))).mono ?_
  rintro e w2 ⟨fv, rfl, hF, b2⟩
  have HF := Lib.hid hF
  obtain ⟨f, caps, rfl, hE, hC⟩ := hF
  clear hE hC
  obtain ⟨hbox, hB⟩ := boxed_then b2
  have HB := Lib.hid hB
  clear hB b2
  have c0 := cell_of hbox 0 _ rfl
  have c1 := cell_of hbox 1 _ rfl
  clear hbox
  obtain ⟨hx1, hx2⟩ := hx
  have hw := IntWalk.i64_in x ⟨hx1, hx2⟩
  go_wp2_with fail
  refine (own_of _ [27, 28] _ (kl_lit _ _ _ [27, 28] _ _ (by rfl) (by decide) (by decide) (by simp) (by rfl))).mono ?_
  rintro e w3 ⟨fv2, rfl, hF2, b3⟩
  have HF2 := Lib.hid hF2
  obtain ⟨f2, caps2, rfl, hE, hC⟩ := hF2
  clear hE hC
  have HB3 := Lib.hid (below_lit HB.out b3)
  clear b3
  have c := own_are _ _ ks 0 x (isB [27, 28]) _ (HK.out.below HB3.out) HF2.out
  have hR : areB ks 0 x (isB [27, 28]) = true → 0 ≤ x ∧ x ≤ 1000000000 := fun h => by
    unfold areB at h
    rw [Bool.and_eq_true, decide_eq_true_iff] at h
    omega
  have HR := Lib.hid hR
  clear hR
  generalize areB ks 0 x (isB [27, 28]) = R at *
  cases R with
  | false =>
    go_wp2_with fail
    refine c.mono ?_
    rintro e w4 ⟨rfl, b4⟩
    have HB4 := Lib.hid (HB3.out.trans (b4.mono HB3.out.size))
    clear b4
    go_wp2_with fail
    go_ret
    exact ⟨ret_bool HZ.out, HB4.out⟩
  | true =>
    obtain ⟨hx3, hx4⟩ := HR.out rfl
    go_wp2_with fail
    refine c.mono ?_
    rintro e w4 ⟨rfl, b4⟩
    have HB4 := Lib.hid (HB3.out.trans (b4.mono HB3.out.size))
    clear b4
    have d := own_list _ ks x (ks.length : Int) 1 _ (HK.out.below HB4.out) hx3 hx4 (by omega) (by omega)
    generalize listB ks x ks.length 1 = R at *
    go_wp2_with fail
    refine d.mono ?_
    rintro e w5 ⟨rfl, b5⟩
    have HB5 := Lib.hid (HB4.out.trans (b5.mono HB4.out.size))
    clear b5
    go_wp2_with fail
    go_ret
    exact ⟨ret_bool HZ.out, HB5.out⟩

set_option maxHeartbeats 4000000 in
set_option maxRecDepth 100000 in
theorem stat4 (x li : Int) (s : ByteArray) (an ak : Option Addr) (ln cn lk ck : Nat) (v : Value) (ks : List Nat) (w : World) (hK : Kl w v ks) :
    Calls Try.prog 37 #[.agg #[.int .u8 4, .int .i64 x, .string s, .slice an ln cn, .slice ak lk ck, .int .i64 li], v] w fun e w' => e = .returned (.bool (rowL ks [isB [29, 30]])) ∧ Below w.heap.size w w' := by
  have HK := Lib.hid hK
  obtain ⟨ao, cap, rfl, hl, hc2, _, hr⟩ := hK
  clear hr
  have hcap : ks.length ≤ 1000000000 := by omega
  obtain ⟨Z, hZ⟩ : ∃ Z, (rowL ks [isB [29, 30]]) = Z := ⟨_, rfl⟩
  rw [hZ]
  have HZ := Lib.hid hZ
  clear hZ
  go_enter Try.func37, Try.ntmps37
  go_wp2_with fail
  refine (own_of _ [1] _ (kl_lit _ _ _ [1] _ _ (by rfl) (by decide) (by decide) (by simp) (by rfl))).mono ?_
  rintro e w2 ⟨fv, rfl, hF, b2⟩
  have HF := Lib.hid hF
  obtain ⟨f, caps, rfl, hE, hC⟩ := hF
  clear hE hC
  obtain ⟨hbox, hB⟩ := boxed_then b2
  have HB := Lib.hid hB
  clear hB b2
  have c0 := cell_of hbox 0 _ rfl
  have c1 := cell_of hbox 1 _ rfl
  clear hbox
  go_wp2_with fail
  refine (own_of _ [29, 30] _ (kl_lit _ _ _ [29, 30] _ _ (by rfl) (by decide) (by decide) (by simp) (by rfl))).mono ?_
  rintro e w3 ⟨fv2, rfl, hF2, b3⟩
  have HF2 := Lib.hid hF2
  obtain ⟨f2, caps2, rfl, hE, hC⟩ := hF2
  clear hE hC
  have HB3 := Lib.hid (below_lit HB.out b3)
  clear b3
  go_wp2_with fail
  refine (own_row _ _ ks [isB [29, 30]] _ ((HK.out.below HB3.out).below ((Below.refl _ _).alloc (Nat.le_refl _) _)) (fs_lit _ _ _ [isB [29, 30]] _ _ (by decide) (by simp) (by rfl) (by intro j hj; match j, hj with | 0, _ => exact ⟨_, rfl, HF2.out⟩))).mono ?_
  rintro e w4 ⟨rfl, b4⟩
  have HB4 := Lib.hid (below_lit HB3.out b4)
  clear b4
  generalize rowL ks [isB [29, 30]] = R at *
  go_wp2_with fail
  go_ret
  exact ⟨ret_bool HZ.out, HB4.out⟩

set_option maxHeartbeats 4000000 in
set_option maxRecDepth 100000 in
theorem stat11 (x li : Int) (s : ByteArray) (an ak : Option Addr) (ln cn lk ck : Nat) (v : Value) (ks : List Nat) (w : World) (hK : Kl w v ks) :
    Calls Try.prog 37 #[.agg #[.int .u8 11, .int .i64 x, .string s, .slice an ln cn, .slice ak lk ck, .int .i64 li], v] w fun e w' => e = .returned (.bool (rowL ks [isB [26]])) ∧ Below w.heap.size w w' := by
  have HK := Lib.hid hK
  obtain ⟨ao, cap, rfl, hl, hc2, _, hr⟩ := hK
  clear hr
  have hcap : ks.length ≤ 1000000000 := by omega
  obtain ⟨Z, hZ⟩ : ∃ Z, (rowL ks [isB [26]]) = Z := ⟨_, rfl⟩
  rw [hZ]
  have HZ := Lib.hid hZ
  clear hZ
  go_enter Try.func37, Try.ntmps37
  go_wp2_with fail
  refine (own_of _ [1] _ (kl_lit _ _ _ [1] _ _ (by rfl) (by decide) (by decide) (by simp) (by rfl))).mono ?_
  rintro e w2 ⟨fv, rfl, hF, b2⟩
  have HF := Lib.hid hF
  obtain ⟨f, caps, rfl, hE, hC⟩ := hF
  clear hE hC
  obtain ⟨hbox, hB⟩ := boxed_then b2
  have HB := Lib.hid hB
  clear hB b2
  have c0 := cell_of hbox 0 _ rfl
  have c1 := cell_of hbox 1 _ rfl
  clear hbox
  go_wp2_with fail
  refine (own_of _ [26] _ (kl_lit _ _ _ [26] _ _ (by rfl) (by decide) (by decide) (by simp) (by rfl))).mono ?_
  rintro e w3 ⟨fv2, rfl, hF2, b3⟩
  have HF2 := Lib.hid hF2
  obtain ⟨f2, caps2, rfl, hE, hC⟩ := hF2
  clear hE hC
  have HB3 := Lib.hid (below_lit HB.out b3)
  clear b3
  go_wp2_with fail
  refine (own_row _ _ ks [isB [26]] _ ((HK.out.below HB3.out).below ((Below.refl _ _).alloc (Nat.le_refl _) _)) (fs_lit _ _ _ [isB [26]] _ _ (by decide) (by simp) (by rfl) (by intro j hj; match j, hj with | 0, _ => exact ⟨_, rfl, HF2.out⟩))).mono ?_
  rintro e w4 ⟨rfl, b4⟩
  have HB4 := Lib.hid (below_lit HB3.out b4)
  clear b4
  generalize rowL ks [isB [26]] = R at *
  go_wp2_with fail
  go_ret
  exact ⟨ret_bool HZ.out, HB4.out⟩

set_option maxHeartbeats 4000000 in
set_option maxRecDepth 100000 in
theorem stat8 (x li : Int) (s : ByteArray) (an ak : Option Addr) (ln cn lk ck : Nat) (v : Value) (ks : List Nat) (w : World) (hK : Kl w v ks) :
    Calls Try.prog 37 #[.agg #[.int .u8 8, .int .i64 x, .string s, .slice an ln cn, .slice ak lk ck, .int .i64 li], v] w fun e w' => e = .returned (.bool (pairsB ks)) ∧ Below w.heap.size w w' := by
  have HK := Lib.hid hK
  obtain ⟨ao, cap, rfl, hl, hc2, _, hr⟩ := hK
  clear hr
  have hcap : ks.length ≤ 1000000000 := by omega
  obtain ⟨Z, hZ⟩ : ∃ Z, (pairsB ks) = Z := ⟨_, rfl⟩
  rw [hZ]
  have HZ := Lib.hid hZ
  clear hZ
  go_enter Try.func37, Try.ntmps37
  go_wp2_with fail
  refine (own_of _ [1] _ (kl_lit _ _ _ [1] _ _ (by rfl) (by decide) (by decide) (by simp) (by rfl))).mono ?_
  rintro e w2 ⟨fv, rfl, hF, b2⟩
  have HF := Lib.hid hF
  obtain ⟨f, caps, rfl, hE, hC⟩ := hF
  clear hE hC
  obtain ⟨hbox, hB⟩ := boxed_then b2
  have HB := Lib.hid hB
  clear hB b2
  have c0 := cell_of hbox 0 _ rfl
  have c1 := cell_of hbox 1 _ rfl
  clear hbox
  have c := own_pairs _ ks _ (HK.out.below HB.out)
  generalize pairsB ks = R at *
  go_wp2_with fail
  refine c.mono ?_
  rintro e w3 ⟨rfl, b3⟩
  have HB3 := Lib.hid (HB.out.trans (b3.mono HB.out.size))
  clear b3
  go_wp2_with fail
  go_ret
  exact ⟨ret_bool HZ.out, HB3.out⟩

set_option maxHeartbeats 4000000 in
set_option maxRecDepth 100000 in
theorem stat9 (x li : Int) (s : ByteArray) (an ak : Option Addr) (ln cn lk ck : Nat) (v : Value) (ks : List Nat) (w : World) (hK : Kl w v ks) :
    Calls Try.prog 37 #[.agg #[.int .u8 9, .int .i64 x, .string s, .slice an ln cn, .slice ak lk ck, .int .i64 li], v] w fun e w' => e = .returned (.bool (rowL ks [exprK, exprK, blockP] || rowL ks [exprK, exprK, exprK, blockP])) ∧ Below w.heap.size w w' := by
  have HK := Lib.hid hK
  obtain ⟨ao, cap, rfl, hl, hc2, _, hr⟩ := hK
  clear hr
  have hcap : ks.length ≤ 1000000000 := by omega
  obtain ⟨Z, hZ⟩ : ∃ Z, (rowL ks [exprK, exprK, blockP] || rowL ks [exprK, exprK, exprK, blockP]) = Z := ⟨_, rfl⟩
  rw [hZ]
  have HZ := Lib.hid hZ
  clear hZ
  go_enter Try.func37, Try.ntmps37
  go_wp2_with fail
  refine (own_of _ [1] _ (kl_lit _ _ _ [1] _ _ (by rfl) (by decide) (by decide) (by simp) (by rfl))).mono ?_
  rintro e w2 ⟨fv, rfl, hF, b2⟩
  have HF := Lib.hid hF
  obtain ⟨f, caps, rfl, hE, hC⟩ := hF
  clear hE hC
  obtain ⟨hbox, hB⟩ := boxed_then b2
  have HB := Lib.hid hB
  clear hB b2
  have c0 := cell_of hbox 0 _ rfl
  have c1 := cell_of hbox 1 _ rfl
  clear hbox
  have c := fun t => own_row _ (.slice (some ⟨w2.heap.size, 0, none⟩) 3 3) ks [exprK, exprK, blockP] (w2.alloc (.cells #[.func (.func 27) #[] #[], .func (.func 27) #[] #[], .func (.func f) #[] caps] t)) ((HK.out.below HB.out).below ((Below.refl _ w2).alloc (Nat.le_refl _) _)) (fs_lit w2 t _ [exprK, exprK, blockP] _ _ (by decide) rfl rfl (by intro j hj; match j, hj with | 0, _ => exact ⟨_, rfl, fn_expr _⟩ | 1, _ => exact ⟨_, rfl, fn_expr _⟩ | 2, _ => exact ⟨_, rfl, HF.out⟩))
  generalize rowL ks [exprK, exprK, blockP] = R at *
  cases R with
  | true =>
    go_wp2_with fail
    refine (c _).mono ?_
    rintro e w3 ⟨rfl, b3⟩
    have HB3 := Lib.hid (below_lit HB.out b3)
    clear b3
    go_wp2_with fail
    go_ret
    exact ⟨ret_bool HZ.out, HB3.out⟩
  | false =>
    go_wp2_with fail
    refine (c _).mono ?_
    rintro e w3 ⟨rfl, b3⟩
    have HB3 := Lib.hid (below_lit HB.out b3)
    have HF3 := Lib.hid (HF.out.below (((Below.refl _ _).alloc (Nat.le_refl _) _).trans (b3.mono (by simp))))
    clear b3 c
    go_wp2_with fail
    refine (own_row _ _ ks [exprK, exprK, exprK, blockP] _ ((HK.out.below HB3.out).below ((Below.refl _ _).alloc (Nat.le_refl _) _)) (fs_lit _ _ _ [exprK, exprK, exprK, blockP] _ _ (by decide) (by simp) (by rfl) (by intro j hj; match j, hj with | 0, _ => exact ⟨_, rfl, fn_expr _⟩ | 1, _ => exact ⟨_, rfl, fn_expr _⟩ | 2, _ => exact ⟨_, rfl, fn_expr _⟩ | 3, _ => exact ⟨_, rfl, HF3.out⟩))).mono ?_
    rintro e w4 ⟨rfl, b4⟩
    have HB4 := Lib.hid (below_lit HB3.out b4)
    clear b4
    generalize rowL ks [exprK, exprK, exprK, blockP] = R at *
    go_wp2_with fail
    go_ret
    exact ⟨ret_bool HZ.out, HB4.out⟩

set_option maxHeartbeats 4000000 in
set_option maxRecDepth 100000 in
theorem stat10 (x li : Int) (s : ByteArray) (an ak : Option Addr) (ln cn lk ck : Nat) (v : Value) (ks : List Nat) (w : World) (hK : Kl w v ks) :
    Calls Try.prog 37 #[.agg #[.int .u8 10, .int .i64 x, .string s, .slice an ln cn, .slice ak lk ck, .int .i64 li], v] w fun e w' => e = .returned (.bool (listB ks 0 (ks.length - 1) 1 && areB ks (ks.length - 1) ks.length blockP)) ∧ Below w.heap.size w w' := by
  have HK := Lib.hid hK
  obtain ⟨ao, cap, rfl, hl, hc2, _, hr⟩ := hK
  clear hr
  have hcap : ks.length ≤ 1000000000 := by omega
  obtain ⟨Z, hZ⟩ : ∃ Z, (listB ks 0 (ks.length - 1) 1 && areB ks (ks.length - 1) ks.length blockP) = Z := ⟨_, rfl⟩
  rw [hZ]
  have HZ := Lib.hid hZ
  clear hZ
  go_enter Try.func37, Try.ntmps37
  go_wp2_with fail
  refine (own_of _ [1] _ (kl_lit _ _ _ [1] _ _ (by rfl) (by decide) (by decide) (by simp) (by rfl))).mono ?_
  rintro e w2 ⟨fv, rfl, hF, b2⟩
  have HF := Lib.hid hF
  obtain ⟨f, caps, rfl, hE, hC⟩ := hF
  clear hE hC
  obtain ⟨hbox, hB⟩ := boxed_then b2
  have HB := Lib.hid hB
  clear hB b2
  have c0 := cell_of hbox 0 _ rfl
  have c1 := cell_of hbox 1 _ rfl
  clear hbox
  have hw : IntKind.i64.wrap ((ks.length : Int) - 1) = (ks.length : Int) - 1 := IntWalk.i64_in _ (by omega)
  have c := own_list _ ks 0 ((ks.length : Int) - 1) 1 _ (HK.out.below HB.out) (by omega) (by omega) (by omega) (by omega)
  generalize listB ks 0 ((ks.length : Int) - 1) 1 = R at *
  cases R with
  | false =>
    go_wp2_with fail
    refine c.mono ?_
    rintro e w3 ⟨rfl, b3⟩
    have HB3 := Lib.hid (HB.out.trans (b3.mono HB.out.size))
    clear b3
    go_wp2_with fail
    go_ret
    exact ⟨ret_bool HZ.out, HB3.out⟩
  | true =>
    go_wp2_with fail
    refine c.mono ?_
    rintro e w3 ⟨rfl, b3⟩
    have HB3 := Lib.hid (HB.out.trans (b3.mono HB.out.size))
    have d := own_are _ _ ks ((ks.length : Int) - 1) ks.length blockP _ (HK.out.below HB3.out) (HF.out.below b3)
    clear b3
    generalize areB ks ((ks.length : Int) - 1) ks.length blockP = R at *
    go_wp2_with fail
    refine d.mono ?_
    rintro e w4 ⟨rfl, b4⟩
    have HB4 := Lib.hid (HB3.out.trans (b4.mono HB3.out.size))
    clear b4
    go_wp2_with fail
    go_ret
    exact ⟨ret_bool HZ.out, HB4.out⟩

set_option maxHeartbeats 4000000 in
set_option maxRecDepth 100000 in
theorem stat0 (k : Nat) (x li : Int) (s : ByteArray) (an ak : Option Addr) (ln cn lk ck : Nat) (v : Value) (ks : List Nat) (w : World) (hK : Kl w v ks) (h2 : ¬ (k : Int) = 2) (h12 : ¬ (k : Int) = 12) (h3 : ¬ (k : Int) = 3) (h4 : ¬ (k : Int) = 4) (h5 : ¬ (k : Int) = 5) (h6 : ¬ (k : Int) = 6) (h7 : ¬ (k : Int) = 7) (h8 : ¬ (k : Int) = 8) (h9 : ¬ (k : Int) = 9) (h10 : ¬ (k : Int) = 10) (h11 : ¬ (k : Int) = 11) :
    Calls Try.prog 37 #[.agg #[.int .u8 (k : Int), .int .i64 x, .string s, .slice an ln cn, .slice ak lk ck, .int .i64 li], v] w fun e w' => e = .returned (.bool (rowL ks [])) ∧ Below w.heap.size w w' := by
  have HK := Lib.hid hK
  obtain ⟨ao, cap, rfl, hl, hc2, _, hr⟩ := hK
  clear hr
  have hcap : ks.length ≤ 1000000000 := by omega
  obtain ⟨Z, hZ⟩ : ∃ Z, (rowL ks []) = Z := ⟨_, rfl⟩
  rw [hZ]
  have HZ := Lib.hid hZ
  clear hZ
  go_enter Try.func37, Try.ntmps37
  go_wp2_with fail
  refine (own_of _ [1] _ (kl_lit _ _ _ [1] _ _ (by rfl) (by decide) (by decide) (by simp) (by rfl))).mono ?_
  rintro e w2 ⟨fv, rfl, hF, b2⟩
  have HF := Lib.hid hF
  obtain ⟨f, caps, rfl, hE, hC⟩ := hF
  clear hE hC
  obtain ⟨hbox, hB⟩ := boxed_then b2
  have HB := Lib.hid hB
  clear hB b2
  have c0 := cell_of hbox 0 _ rfl
  have c1 := cell_of hbox 1 _ rfl
  clear hbox
  go_wp2_with fail
  refine (own_row _ _ ks [] _ (HK.out.below HB.out) ⟨none, 0, rfl, by decide, fun h => absurd rfl h⟩).mono ?_
  rintro e w3 ⟨rfl, b3⟩
  have HB3 := Lib.hid (HB.out.trans (b3.mono HB.out.size))
  clear b3
  generalize rowL ks [] = R at *
  go_wp2_with fail
  go_ret
  exact ⟨ret_bool HZ.out, HB3.out⟩

theorem own_statKids (k : Nat) (x li : Int) (s : ByteArray) (an ak : Option Addr) (ln cn lk ck : Nat) (v : Value) (ks : List Nat) (w : World) (hK : Kl w v ks) (hx : In64 x) :
    Calls Try.prog 37 #[.agg #[.int .u8 (k : Int), .int .i64 x, .string s, .slice an ln cn, .slice ak lk ck, .int .i64 li], v] w fun e w' => e = .returned (.bool (statKidsB k x ks)) ∧ Below w.heap.size w w' := by
  by_cases h2 : k = 2
  · subst h2; exact stat2 x li s an ak ln cn lk ck v ks w hK
  by_cases h12 : k = 12
  · subst h12; exact stat12 x li s an ak ln cn lk ck v ks w hK
  by_cases h3 : k = 3
  · subst h3; exact stat3 x li s an ak ln cn lk ck v ks w hK hx
  by_cases h4 : k = 4
  · subst h4; exact stat4 x li s an ak ln cn lk ck v ks w hK
  by_cases h5 : k = 5
  · subst h5; exact stat5 x li s an ak ln cn lk ck v ks w hK
  by_cases h6 : k = 6
  · subst h6; exact stat6 x li s an ak ln cn lk ck v ks w hK
  by_cases h7 : k = 7
  · subst h7; exact stat7 x li s an ak ln cn lk ck v ks w hK
  by_cases h8 : k = 8
  · subst h8; exact stat8 x li s an ak ln cn lk ck v ks w hK
  by_cases h9 : k = 9
  · subst h9; exact stat9 x li s an ak ln cn lk ck v ks w hK
  by_cases h10 : k = 10
  · subst h10; exact stat10 x li s an ak ln cn lk ck v ks w hK
  by_cases h11 : k = 11
  · subst h11; exact stat11 x li s an ak ln cn lk ck v ks w hK
  have e : statKidsB k x ks = rowL ks [] := by
    unfold statKidsB
    split <;> first | rfl | contradiction
  rw [e]
  exact stat0 k x li s an ak ln cn lk ck v ks w hK (by omega) (by omega) (by omega) (by omega) (by omega) (by omega) (by omega) (by omega) (by omega) (by omega) (by omega)

end Go.Proofs.Ytmddffacjkkeiaa.Nd
