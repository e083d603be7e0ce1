/-
  Layer 5: what kids a node may have: kidsFit, kind by kind (written by gen-dv-kids.py).
-/
import Derived.Test.YtmddffacjkkeiaaDvStat
namespace Go.Proofs.Ytmddffacjkkeiaa.Nd
open Go Go.RowKit Go.ChangeShapes Go.WideShapes Go.Shelf

theorem lt_of_get {w : World} {g : Nat} {o : Obj} (h : w.heap[g]? = some o) : g < w.heap.size := (Array.getElem?_eq_some_iff.1 h).1
theorem addr_zero (ao : Option Addr) : ao.map (·.add 0) = ao := by
  cases ao with
  | none => rfl
  | some a => simp [Addr.add]
/-- All but the last one. -/
theorem Kl.ahead {w : World} {ao : Option Addr} {n cap : Nat} {ks : List Nat} (h : Kl w (.slice ao n cap) ks) (hi : Nat) (h2 : hi ≤ ks.length) :
    (Instr.slice 43 (.slice ao n cap) none (some (.int .i64 (hi : Int))) none).run Try.prog w = .ok (.slice ao hi cap) w ∧ Kl w (.slice ao hi cap) (ks.take hi) := by
  obtain ⟨ao0, cap0, e, hl, hc2, h256, hc⟩ := h
  cases e
  have ht : Try.prog.underlying 43 = some (.slice (Try.prog.elem 43)) := by kernel_rfl
  have hz : ∀ w, (Go.sizeOf (Try.prog.elem 43)).run Try.prog w = .ok 1 w := fun w => by
    have he : Try.prog.elem 43 = 26 := by kernel_rfl
    rw [he]
    simp
  have hlen : (ks.take hi).length = hi := by rw [List.length_take]; omega
  have hrun := run_slice_h w 43 ao ks.length cap ht .i64 (hi : Int) (by omega) (by omega)
  rw [hz] at hrun
  refine ⟨?_, ao, cap, by rw [hlen], by rw [hlen]; omega, by rw [hlen]; omega, fun k hk => h256 k (List.mem_of_mem_take hk), fun hne => ?_⟩
  · rw [hrun]
    by_cases h0 : cap = 0
    · simp [Result.andThen, sliced, h0]
    · simp [Result.andThen, sliced, h0, addr_zero]
  · obtain ⟨g, off, hg, rfl, hx⟩ := hc (fun h => by rw [h, List.length_nil] at h2; rw [h] at hne; simp at hne)
    refine ⟨g, off, hg, rfl, fun j hj => ?_⟩
    rw [hlen] at hj
    rw [hx j (by omega)]
    simp

set_option maxHeartbeats 4000000 in
set_option maxRecDepth 100000 in
theorem kidsS (k : Nat) (x li : Int) (s : ByteArray) (an ak : Option Addr) (ln cn lk ck : Nat) (v : Value) (ks : List Nat) (w : World) (hK : Kl w v ks) (hx : In64 x) (hk : k < 256) (hs : statK k = true) :
    Calls Try.prog 16 #[.agg #[.int .u8 (k : Int), .int .i64 x, .string s, .slice an ln cn, .slice ak lk ck, .int .i64 li], v] w fun e w' => e = .returned (.bool (statKidsB k x ks)) ∧ Below w.heap.size w w' := by
  have HK := Lib.hid hK
  obtain ⟨ao, cap, rfl, hl, hc2, _, hr⟩ := hK
  clear hr
  have hcap : ks.length ≤ 1000000000 := by omega
  obtain ⟨Z, hZ⟩ : ∃ Z, (statKidsB k x ks) = Z := ⟨_, rfl⟩
  rw [hZ]
  have HZ := Lib.hid hZ
  clear hZ
  have cs := fun w => own_stat k w hk
  rw [hs] at cs
  clear hs
  go_enter Try.func16, Try.ntmps16
  go_wp2_with (go_at_call 26; refine (cs _).mono ?_; rintro e w' ⟨rfl, rfl⟩)
  refine (own_statKids k x li s an ak ln cn lk ck _ ks _ (HK.out.below ((Below.refl _ _).alloc (Nat.le_refl _) _)) hx).mono ?_
  rintro e w4 ⟨rfl, b4⟩
  have HB4 := Lib.hid (below_lit (Below.refl w.heap.size w) b4)
  clear b4
  generalize statKidsB k x ks = R at *
  go_wp2_with fail
  go_ret
  exact ⟨ret_bool HZ.out, HB4.out⟩

set_option maxHeartbeats 4000000 in
set_option maxRecDepth 100000 in
theorem kids1 (x li : Int) (s : ByteArray) (an ak : Option Addr) (ln cn lk ck : Nat) (v : Value) (ks : List Nat) (w : World) (hK : Kl w v ks) :
    Calls Try.prog 16 #[.agg #[.int .u8 1, .int .i64 x, .string s, .slice an ln cn, .slice ak lk ck, .int .i64 li], v] w fun e w' => e = .returned (.bool (areB ks 0 ks.length statK && !isB (ks.take (ks.length - 1)) 12)) ∧ Below w.heap.size w w' := by
  have HK := Lib.hid hK
  obtain ⟨ao, cap, rfl, hl, hc2, _, hr⟩ := hK
  clear hr
  have hcap : ks.length ≤ 1000000000 := by omega
  obtain ⟨Z, hZ⟩ : ∃ Z, (areB ks 0 ks.length statK && !isB (ks.take (ks.length - 1)) 12) = Z := ⟨_, rfl⟩
  rw [hZ]
  have HZ := Lib.hid hZ
  clear hZ
  have cs := fun w => own_stat 1 w (by omega)
  rw [show statK 1 = false by rfl] at cs
  go_enter Try.func16, Try.ntmps16
  go_wp2_with (go_at_call 26; refine (cs _).mono ?_; rintro e w' ⟨rfl, rfl⟩)
  refine (own_of _ [1] _ (kl_lit _ _ _ [1] _ _ (by rfl) (by decide) (by decide) (by simp) (by rfl))).mono ?_
  rintro e w2 ⟨fv, rfl, hF, b2⟩
  have HF0 := Lib.hid hF
  obtain ⟨f, caps, rfl, hE, hC⟩ := hF
  clear hE hC
  obtain ⟨hbox, hB⟩ := boxed_then b2
  have HB0 := Lib.hid hB
  have HX := Lib.hid hbox
  clear hB b2 hbox
  go_wp2_with fail
  refine (own_of _ [27, 28, 29, 30, 38] _ (kl_lit _ _ _ [27, 28, 29, 30, 38] _ _ (by rfl) (by decide) (by decide) (by simp) (by rfl))).mono ?_
  rintro e w3 ⟨fv2, rfl, hF2, b3⟩
  have HF2 := Lib.hid hF2
  obtain ⟨f2, caps2, rfl, hE, hC⟩ := hF2
  clear hE hC
  have HB := Lib.hid (below_lit HB0.out b3)
  have b3' := ((Below.refl w2.heap.size w2).alloc (Nat.le_refl _) _).trans (b3.mono (by simp))
  have HF := Lib.hid (HF0.out.below b3')
  have hbox := (b3'.block _ (lt_of_get HX.out)).trans HX.out
  clear b3 b3' HF0
  have c0 := cell_of hbox 0 _ rfl
  clear hbox HX
  have hw : IntKind.i64.wrap ((ks.length : Int) - 1) = (ks.length : Int) - 1 := IntWalk.i64_in _ (by omega)
  have hmax : max ((ks.length : Int) - 1) 0 = ((ks.length - 1 : Nat) : Int) := by omega
  have c := own_are _ _ ks 0 (ks.length : Int) statK _ (HK.out.below HB.out) (fn_stat _)
  generalize areB ks 0 ks.length statK = R at *
  cases R with
  | false =>
    go_wp2_with fail
    refine c.mono ?_
    rintro e w4 ⟨rfl, b4⟩
    have HB4 := Lib.hid (HB.out.trans (b4.mono HB.out.size))
    clear b4
    go_wp2_with fail
    go_ret
    exact ⟨ret_bool HZ.out, HB4.out⟩
  | true =>
    go_wp2_with fail
    refine c.mono ?_
    rintro e w4 ⟨rfl, b4⟩
    have HB4 := Lib.hid (HB.out.trans (b4.mono HB.out.size))
    clear b4
    unfold isB at HZ
    have hz := Lib.hid (show ∀ j, j ≤ ks.length → ∀ w, Kl w (.slice ao ks.length cap) ks → Calls Try.prog 40 #[.slice ao j cap, .int .u8 12] w fun e w' => e = .returned (.bool ((ks.take j).contains 12)) ∧ w = w' from fun j hj w h => contains_k _ _ 12 w (h.ahead j hj).2)
    go_wp2_with fail
    · have e0 : ks.length - 1 = 0 := by omega
      rw [e0] at HZ
      have d := hz.out 0 (by omega) w4 (HK.out.below HB4.out)
      generalize (ks.take 0).contains 12 = R at *
      refine d.mono ?_
      rintro e w5 ⟨rfl, rfl⟩
      go_wp2_with fail
      go_ret
      exact ⟨ret_bool HZ.out, HB4.out⟩
    · have d := hz.out (ks.length - 1) (by omega) w4 (HK.out.below HB4.out)
      generalize (ks.take (ks.length - 1)).contains 12 = R at *
      refine d.mono ?_
      rintro e w5 ⟨rfl, rfl⟩
      go_wp2_with fail
      go_ret
      exact ⟨ret_bool HZ.out, HB4.out⟩

set_option maxHeartbeats 4000000 in
set_option maxRecDepth 100000 in
theorem kids20 (x li : Int) (s : ByteArray) (an ak : Option Addr) (ln cn lk ck : Nat) (v : Value) (ks : List Nat) (w : World) (hK : Kl w v ks) :
    Calls Try.prog 16 #[.agg #[.int .u8 20, .int .i64 x, .string s, .slice an ln cn, .slice ak lk ck, .int .i64 li], v] w fun e w' => e = .returned (.bool (rowL ks [])) ∧ Below w.heap.size w w' := by
  have HK := Lib.hid hK
  obtain ⟨ao, cap, rfl, hl, hc2, _, hr⟩ := hK
  clear hr
  have hcap : ks.length ≤ 1000000000 := by omega
  obtain ⟨Z, hZ⟩ : ∃ Z, (rowL ks []) = Z := ⟨_, rfl⟩
  rw [hZ]
  have HZ := Lib.hid hZ
  clear hZ
  have cs := fun w => own_stat 20 w (by omega)
  rw [show statK 20 = false by rfl] at cs
  go_enter Try.func16, Try.ntmps16
  go_wp2_with (go_at_call 26; refine (cs _).mono ?_; rintro e w' ⟨rfl, rfl⟩)
  refine (own_of _ [1] _ (kl_lit _ _ _ [1] _ _ (by rfl) (by decide) (by decide) (by simp) (by rfl))).mono ?_
  rintro e w2 ⟨fv, rfl, hF, b2⟩
  have HF0 := Lib.hid hF
  obtain ⟨f, caps, rfl, hE, hC⟩ := hF
  clear hE hC
  obtain ⟨hbox, hB⟩ := boxed_then b2
  have HB0 := Lib.hid hB
  have HX := Lib.hid hbox
  clear hB b2 hbox
  go_wp2_with fail
  refine (own_of _ [27, 28, 29, 30, 38] _ (kl_lit _ _ _ [27, 28, 29, 30, 38] _ _ (by rfl) (by decide) (by decide) (by simp) (by rfl))).mono ?_
  rintro e w3 ⟨fv2, rfl, hF2, b3⟩
  have HF2 := Lib.hid hF2
  obtain ⟨f2, caps2, rfl, hE, hC⟩ := hF2
  clear hE hC
  have HB := Lib.hid (below_lit HB0.out b3)
  have b3' := ((Below.refl w2.heap.size w2).alloc (Nat.le_refl _) _).trans (b3.mono (by simp))
  have HF := Lib.hid (HF0.out.below b3')
  have hbox := (b3'.block _ (lt_of_get HX.out)).trans HX.out
  clear b3 b3' HF0
  have c0 := cell_of hbox 0 _ rfl
  clear hbox HX
  go_wp2_with fail
  refine (own_row _ _ ks [] _ (HK.out.below HB.out) ⟨none, 0, rfl, by decide, fun h => absurd rfl h⟩).mono ?_
  rintro e w4 ⟨rfl, b4⟩
  have HB4 := Lib.hid (HB.out.trans (b4.mono HB.out.size))
  clear b4
  generalize rowL ks [] = R at *
  go_wp2_with fail
  go_ret
  exact ⟨ret_bool HZ.out, HB4.out⟩

set_option maxHeartbeats 4000000 in
set_option maxRecDepth 100000 in
theorem kids21 (x li : Int) (s : ByteArray) (an ak : Option Addr) (ln cn lk ck : Nat) (v : Value) (ks : List Nat) (w : World) (hK : Kl w v ks) :
    Calls Try.prog 16 #[.agg #[.int .u8 21, .int .i64 x, .string s, .slice an ln cn, .slice ak lk ck, .int .i64 li], v] w fun e w' => e = .returned (.bool (rowL ks [])) ∧ Below w.heap.size w w' := by
  have HK := Lib.hid hK
  obtain ⟨ao, cap, rfl, hl, hc2, _, hr⟩ := hK
  clear hr
  have hcap : ks.length ≤ 1000000000 := by omega
  obtain ⟨Z, hZ⟩ : ∃ Z, (rowL ks []) = Z := ⟨_, rfl⟩
  rw [hZ]
  have HZ := Lib.hid hZ
  clear hZ
  have cs := fun w => own_stat 21 w (by omega)
  rw [show statK 21 = false by rfl] at cs
  go_enter Try.func16, Try.ntmps16
  go_wp2_with (go_at_call 26; refine (cs _).mono ?_; rintro e w' ⟨rfl, rfl⟩)
  refine (own_of _ [1] _ (kl_lit _ _ _ [1] _ _ (by rfl) (by decide) (by decide) (by simp) (by rfl))).mono ?_
  rintro e w2 ⟨fv, rfl, hF, b2⟩
  have HF0 := Lib.hid hF
  obtain ⟨f, caps, rfl, hE, hC⟩ := hF
  clear hE hC
  obtain ⟨hbox, hB⟩ := boxed_then b2
  have HB0 := Lib.hid hB
  have HX := Lib.hid hbox
  clear hB b2 hbox
  go_wp2_with fail
  refine (own_of _ [27, 28, 29, 30, 38] _ (kl_lit _ _ _ [27, 28, 29, 30, 38] _ _ (by rfl) (by decide) (by decide) (by simp) (by rfl))).mono ?_
  rintro e w3 ⟨fv2, rfl, hF2, b3⟩
  have HF2 := Lib.hid hF2
  obtain ⟨f2, caps2, rfl, hE, hC⟩ := hF2
  clear hE hC
  have HB := Lib.hid (below_lit HB0.out b3)
  have b3' := ((Below.refl w2.heap.size w2).alloc (Nat.le_refl _) _).trans (b3.mono (by simp))
  have HF := Lib.hid (HF0.out.below b3')
  have hbox := (b3'.block _ (lt_of_get HX.out)).trans HX.out
  clear b3 b3' HF0
  have c0 := cell_of hbox 0 _ rfl
  clear hbox HX
  go_wp2_with fail
  refine (own_row _ _ ks [] _ (HK.out.below HB.out) ⟨none, 0, rfl, by decide, fun h => absurd rfl h⟩).mono ?_
  rintro e w4 ⟨rfl, b4⟩
  have HB4 := Lib.hid (HB.out.trans (b4.mono HB.out.size))
  clear b4
  generalize rowL ks [] = R at *
  go_wp2_with fail
  go_ret
  exact ⟨ret_bool HZ.out, HB4.out⟩

set_option maxHeartbeats 4000000 in
set_option maxRecDepth 100000 in
theorem kids22 (x li : Int) (s : ByteArray) (an ak : Option Addr) (ln cn lk ck : Nat) (v : Value) (ks : List Nat) (w : World) (hK : Kl w v ks) :
    Calls Try.prog 16 #[.agg #[.int .u8 22, .int .i64 x, .string s, .slice an ln cn, .slice ak lk ck, .int .i64 li], v] w fun e w' => e = .returned (.bool (rowL ks [])) ∧ Below w.heap.size w w' := by
  have HK := Lib.hid hK
  obtain ⟨ao, cap, rfl, hl, hc2, _, hr⟩ := hK
  clear hr
  have hcap : ks.length ≤ 1000000000 := by omega
  obtain ⟨Z, hZ⟩ : ∃ Z, (rowL ks []) = Z := ⟨_, rfl⟩
  rw [hZ]
  have HZ := Lib.hid hZ
  clear hZ
  have cs := fun w => own_stat 22 w (by omega)
  rw [show statK 22 = false by rfl] at cs
  go_enter Try.func16, Try.ntmps16
  go_wp2_with (go_at_call 26; refine (cs _).mono ?_; rintro e w' ⟨rfl, rfl⟩)
  refine (own_of _ [1] _ (kl_lit _ _ _ [1] _ _ (by rfl) (by decide) (by decide) (by simp) (by rfl))).mono ?_
  rintro e w2 ⟨fv, rfl, hF, b2⟩
  have HF0 := Lib.hid hF
  obtain ⟨f, caps, rfl, hE, hC⟩ := hF
  clear hE hC
  obtain ⟨hbox, hB⟩ := boxed_then b2
  have HB0 := Lib.hid hB
  have HX := Lib.hid hbox
  clear hB b2 hbox
  go_wp2_with fail
  refine (own_of _ [27, 28, 29, 30, 38] _ (kl_lit _ _ _ [27, 28, 29, 30, 38] _ _ (by rfl) (by decide) (by decide) (by simp) (by rfl))).mono ?_
  rintro e w3 ⟨fv2, rfl, hF2, b3⟩
  have HF2 := Lib.hid hF2
  obtain ⟨f2, caps2, rfl, hE, hC⟩ := hF2
  clear hE hC
  have HB := Lib.hid (below_lit HB0.out b3)
  have b3' := ((Below.refl w2.heap.size w2).alloc (Nat.le_refl _) _).trans (b3.mono (by simp))
  have HF := Lib.hid (HF0.out.below b3')
  have hbox := (b3'.block _ (lt_of_get HX.out)).trans HX.out
  clear b3 b3' HF0
  have c0 := cell_of hbox 0 _ rfl
  clear hbox HX
  go_wp2_with fail
  refine (own_row _ _ ks [] _ (HK.out.below HB.out) ⟨none, 0, rfl, by decide, fun h => absurd rfl h⟩).mono ?_
  rintro e w4 ⟨rfl, b4⟩
  have HB4 := Lib.hid (HB.out.trans (b4.mono HB.out.size))
  clear b4
  generalize rowL ks [] = R at *
  go_wp2_with fail
  go_ret
  exact ⟨ret_bool HZ.out, HB4.out⟩

set_option maxHeartbeats 4000000 in
set_option maxRecDepth 100000 in
theorem kids25 (x li : Int) (s : ByteArray) (an ak : Option Addr) (ln cn lk ck : Nat) (v : Value) (ks : List Nat) (w : World) (hK : Kl w v ks) :
    Calls Try.prog 16 #[.agg #[.int .u8 25, .int .i64 x, .string s, .slice an ln cn, .slice ak lk ck, .int .i64 li], v] w fun e w' => e = .returned (.bool (rowL ks [])) ∧ Below w.heap.size w w' := by
  have HK := Lib.hid hK
  obtain ⟨ao, cap, rfl, hl, hc2, _, hr⟩ := hK
  clear hr
  have hcap : ks.length ≤ 1000000000 := by omega
  obtain ⟨Z, hZ⟩ : ∃ Z, (rowL ks []) = Z := ⟨_, rfl⟩
  rw [hZ]
  have HZ := Lib.hid hZ
  clear hZ
  have cs := fun w => own_stat 25 w (by omega)
  rw [show statK 25 = false by rfl] at cs
  go_enter Try.func16, Try.ntmps16
  go_wp2_with (go_at_call 26; refine (cs _).mono ?_; rintro e w' ⟨rfl, rfl⟩)
  refine (own_of _ [1] _ (kl_lit _ _ _ [1] _ _ (by rfl) (by decide) (by decide) (by simp) (by rfl))).mono ?_
  rintro e w2 ⟨fv, rfl, hF, b2⟩
  have HF0 := Lib.hid hF
  obtain ⟨f, caps, rfl, hE, hC⟩ := hF
  clear hE hC
  obtain ⟨hbox, hB⟩ := boxed_then b2
  have HB0 := Lib.hid hB
  have HX := Lib.hid hbox
  clear hB b2 hbox
  go_wp2_with fail
  refine (own_of _ [27, 28, 29, 30, 38] _ (kl_lit _ _ _ [27, 28, 29, 30, 38] _ _ (by rfl) (by decide) (by decide) (by simp) (by rfl))).mono ?_
  rintro e w3 ⟨fv2, rfl, hF2, b3⟩
  have HF2 := Lib.hid hF2
  obtain ⟨f2, caps2, rfl, hE, hC⟩ := hF2
  clear hE hC
  have HB := Lib.hid (below_lit HB0.out b3)
  have b3' := ((Below.refl w2.heap.size w2).alloc (Nat.le_refl _) _).trans (b3.mono (by simp))
  have HF := Lib.hid (HF0.out.below b3')
  have hbox := (b3'.block _ (lt_of_get HX.out)).trans HX.out
  clear b3 b3' HF0
  have c0 := cell_of hbox 0 _ rfl
  clear hbox HX
  go_wp2_with fail
  refine (own_row _ _ ks [] _ (HK.out.below HB.out) ⟨none, 0, rfl, by decide, fun h => absurd rfl h⟩).mono ?_
  rintro e w4 ⟨rfl, b4⟩
  have HB4 := Lib.hid (HB.out.trans (b4.mono HB.out.size))
  clear b4
  generalize rowL ks [] = R at *
  go_wp2_with fail
  go_ret
  exact ⟨ret_bool HZ.out, HB4.out⟩

set_option maxHeartbeats 4000000 in
set_option maxRecDepth 100000 in
theorem kids27 (x li : Int) (s : ByteArray) (an ak : Option Addr) (ln cn lk ck : Nat) (v : Value) (ks : List Nat) (w : World) (hK : Kl w v ks) :
    Calls Try.prog 16 #[.agg #[.int .u8 27, .int .i64 x, .string s, .slice an ln cn, .slice ak lk ck, .int .i64 li], v] w fun e w' => e = .returned (.bool (rowL ks [])) ∧ Below w.heap.size w w' := by
  have HK := Lib.hid hK
  obtain ⟨ao, cap, rfl, hl, hc2, _, hr⟩ := hK
  clear hr
  have hcap : ks.length ≤ 1000000000 := by omega
  obtain ⟨Z, hZ⟩ : ∃ Z, (rowL ks []) = Z := ⟨_, rfl⟩
  rw [hZ]
  have HZ := Lib.hid hZ
  clear hZ
  have cs := fun w => own_stat 27 w (by omega)
  rw [show statK 27 = false by rfl] at cs
  go_enter Try.func16, Try.ntmps16
  go_wp2_with (go_at_call 26; refine (cs _).mono ?_; rintro e w' ⟨rfl, rfl⟩)
  refine (own_of _ [1] _ (kl_lit _ _ _ [1] _ _ (by rfl) (by decide) (by decide) (by simp) (by rfl))).mono ?_
  rintro e w2 ⟨fv, rfl, hF, b2⟩
  have HF0 := Lib.hid hF
  obtain ⟨f, caps, rfl, hE, hC⟩ := hF
  clear hE hC
  obtain ⟨hbox, hB⟩ := boxed_then b2
  have HB0 := Lib.hid hB
  have HX := Lib.hid hbox
  clear hB b2 hbox
  go_wp2_with fail
  refine (own_of _ [27, 28, 29, 30, 38] _ (kl_lit _ _ _ [27, 28, 29, 30, 38] _ _ (by rfl) (by decide) (by decide) (by simp) (by rfl))).mono ?_
  rintro e w3 ⟨fv2, rfl, hF2, b3⟩
  have HF2 := Lib.hid hF2
  obtain ⟨f2, caps2, rfl, hE, hC⟩ := hF2
  clear hE hC
  have HB := Lib.hid (below_lit HB0.out b3)
  have b3' := ((Below.refl w2.heap.size w2).alloc (Nat.le_refl _) _).trans (b3.mono (by simp))
  have HF := Lib.hid (HF0.out.below b3')
  have hbox := (b3'.block _ (lt_of_get HX.out)).trans HX.out
  clear b3 b3' HF0
  have c0 := cell_of hbox 0 _ rfl
  clear hbox HX
  go_wp2_with fail
  refine (own_row _ _ ks [] _ (HK.out.below HB.out) ⟨none, 0, rfl, by decide, fun h => absurd rfl h⟩).mono ?_
  rintro e w4 ⟨rfl, b4⟩
  have HB4 := Lib.hid (HB.out.trans (b4.mono HB.out.size))
  clear b4
  generalize rowL ks [] = R at *
  go_wp2_with fail
  go_ret
  exact ⟨ret_bool HZ.out, HB4.out⟩

set_option maxHeartbeats 4000000 in
set_option maxRecDepth 100000 in
theorem kids23 (x li : Int) (s : ByteArray) (an ak : Option Addr) (ln cn lk ck : Nat) (v : Value) (ks : List Nat) (w : World) (hK : Kl w v ks) :
    Calls Try.prog 16 #[.agg #[.int .u8 23, .int .i64 x, .string s, .slice an ln cn, .slice ak lk ck, .int .i64 li], v] w fun e w' => e = .returned (.bool (rowL ks [])) ∧ Below w.heap.size w w' := by
  have HK := Lib.hid hK
  obtain ⟨ao, cap, rfl, hl, hc2, _, hr⟩ := hK
  clear hr
  have hcap : ks.length ≤ 1000000000 := by omega
  obtain ⟨Z, hZ⟩ : ∃ Z, (rowL ks []) = Z := ⟨_, rfl⟩
  rw [hZ]
  have HZ := Lib.hid hZ
  clear hZ
  have cs := fun w => own_stat 23 w (by omega)
  rw [show statK 23 = false by rfl] at cs
  go_enter Try.func16, Try.ntmps16
  go_wp2_with (go_at_call 26; refine (cs _).mono ?_; rintro e w' ⟨rfl, rfl⟩)
  refine (own_of _ [1] _ (kl_lit _ _ _ [1] _ _ (by rfl) (by decide) (by decide) (by simp) (by rfl))).mono ?_
  rintro e w2 ⟨fv, rfl, hF, b2⟩
  have HF0 := Lib.hid hF
  obtain ⟨f, caps, rfl, hE, hC⟩ := hF
  clear hE hC
  obtain ⟨hbox, hB⟩ := boxed_then b2
  have HB0 := Lib.hid hB
  have HX := Lib.hid hbox
  clear hB b2 hbox
  go_wp2_with fail
  refine (own_of _ [27, 28, 29, 30, 38] _ (kl_lit _ _ _ [27, 28, 29, 30, 38] _ _ (by rfl) (by decide) (by decide) (by simp) (by rfl))).mono ?_
  rintro e w3 ⟨fv2, rfl, hF2, b3⟩
  have HF2 := Lib.hid hF2
  obtain ⟨f2, caps2, rfl, hE, hC⟩ := hF2
  clear hE hC
  have HB := Lib.hid (below_lit HB0.out b3)
  have b3' := ((Below.refl w2.heap.size w2).alloc (Nat.le_refl _) _).trans (b3.mono (by simp))
  have HF := Lib.hid (HF0.out.below b3')
  have hbox := (b3'.block _ (lt_of_get HX.out)).trans HX.out
  clear b3 b3' HF0
  have c0 := cell_of hbox 0 _ rfl
  clear hbox HX
  go_wp2_with fail
  refine (own_row _ _ ks [] _ (HK.out.below HB.out) ⟨none, 0, rfl, by decide, fun h => absurd rfl h⟩).mono ?_
  rintro e w4 ⟨rfl, b4⟩
  have HB4 := Lib.hid (HB.out.trans (b4.mono HB.out.size))
  clear b4
  generalize rowL ks [] = R at *
  go_wp2_with fail
  go_ret
  exact ⟨ret_bool HZ.out, HB4.out⟩

set_option maxHeartbeats 4000000 in
set_option maxRecDepth 100000 in
theorem kids24 (x li : Int) (s : ByteArray) (an ak : Option Addr) (ln cn lk ck : Nat) (v : Value) (ks : List Nat) (w : World) (hK : Kl w v ks) :
    Calls Try.prog 16 #[.agg #[.int .u8 24, .int .i64 x, .string s, .slice an ln cn, .slice ak lk ck, .int .i64 li], v] w fun e w' => e = .returned (.bool (rowL ks [])) ∧ Below w.heap.size w w' := by
  have HK := Lib.hid hK
  obtain ⟨ao, cap, rfl, hl, hc2, _, hr⟩ := hK
  clear hr
  have hcap : ks.length ≤ 1000000000 := by omega
  obtain ⟨Z, hZ⟩ : ∃ Z, (rowL ks []) = Z := ⟨_, rfl⟩
  rw [hZ]
  have HZ := Lib.hid hZ
  clear hZ
  have cs := fun w => own_stat 24 w (by omega)
  rw [show statK 24 = false by rfl] at cs
  go_enter Try.func16, Try.ntmps16
  go_wp2_with (go_at_call 26; refine (cs _).mono ?_; rintro e w' ⟨rfl, rfl⟩)
  refine (own_of _ [1] _ (kl_lit _ _ _ [1] _ _ (by rfl) (by decide) (by decide) (by simp) (by rfl))).mono ?_
  rintro e w2 ⟨fv, rfl, hF, b2⟩
  have HF0 := Lib.hid hF
  obtain ⟨f, caps, rfl, hE, hC⟩ := hF
  clear hE hC
  obtain ⟨hbox, hB⟩ := boxed_then b2
  have HB0 := Lib.hid hB
  have HX := Lib.hid hbox
  clear hB b2 hbox
  go_wp2_with fail
  refine (own_of _ [27, 28, 29, 30, 38] _ (kl_lit _ _ _ [27, 28, 29, 30, 38] _ _ (by rfl) (by decide) (by decide) (by simp) (by rfl))).mono ?_
  rintro e w3 ⟨fv2, rfl, hF2, b3⟩
  have HF2 := Lib.hid hF2
  obtain ⟨f2, caps2, rfl, hE, hC⟩ := hF2
  clear hE hC
  have HB := Lib.hid (below_lit HB0.out b3)
  have b3' := ((Below.refl w2.heap.size w2).alloc (Nat.le_refl _) _).trans (b3.mono (by simp))
  have HF := Lib.hid (HF0.out.below b3')
  have hbox := (b3'.block _ (lt_of_get HX.out)).trans HX.out
  clear b3 b3' HF0
  have c0 := cell_of hbox 0 _ rfl
  clear hbox HX
  go_wp2_with fail
  refine (own_row _ _ ks [] _ (HK.out.below HB.out) ⟨none, 0, rfl, by decide, fun h => absurd rfl h⟩).mono ?_
  rintro e w4 ⟨rfl, b4⟩
  have HB4 := Lib.hid (HB.out.trans (b4.mono HB.out.size))
  clear b4
  generalize rowL ks [] = R at *
  go_wp2_with fail
  go_ret
  exact ⟨ret_bool HZ.out, HB4.out⟩

set_option maxHeartbeats 4000000 in
set_option maxRecDepth 100000 in
theorem kids26 (x li : Int) (s : ByteArray) (an ak : Option Addr) (ln cn lk ck : Nat) (v : Value) (ks : List Nat) (w : World) (hK : Kl w v ks) :
    Calls Try.prog 16 #[.agg #[.int .u8 26, .int .i64 x, .string s, .slice an ln cn, .slice ak lk ck, .int .i64 li], v] w fun e w' => e = .returned (.bool (rowL ks [blockP])) ∧ Below w.heap.size w w' := by
  have HK := Lib.hid hK
  obtain ⟨ao, cap, rfl, hl, hc2, _, hr⟩ := hK
  clear hr
  have hcap : ks.length ≤ 1000000000 := by omega
  obtain ⟨Z, hZ⟩ : ∃ Z, (rowL ks [blockP]) = Z := ⟨_, rfl⟩
  rw [hZ]
  have HZ := Lib.hid hZ
  clear hZ
  have cs := fun w => own_stat 26 w (by omega)
  rw [show statK 26 = false by rfl] at cs
  go_enter Try.func16, Try.ntmps16
  go_wp2_with (go_at_call 26; refine (cs _).mono ?_; rintro e w' ⟨rfl, rfl⟩)
  refine (own_of _ [1] _ (kl_lit _ _ _ [1] _ _ (by rfl) (by decide) (by decide) (by simp) (by rfl))).mono ?_
  rintro e w2 ⟨fv, rfl, hF, b2⟩
  have HF0 := Lib.hid hF
  obtain ⟨f, caps, rfl, hE, hC⟩ := hF
  clear hE hC
  obtain ⟨hbox, hB⟩ := boxed_then b2
  have HB0 := Lib.hid hB
  have HX := Lib.hid hbox
  clear hB b2 hbox
  go_wp2_with fail
  refine (own_of _ [27, 28, 29, 30, 38] _ (kl_lit _ _ _ [27, 28, 29, 30, 38] _ _ (by rfl) (by decide) (by decide) (by simp) (by rfl))).mono ?_
  rintro e w3 ⟨fv2, rfl, hF2, b3⟩
  have HF2 := Lib.hid hF2
  obtain ⟨f2, caps2, rfl, hE, hC⟩ := hF2
  clear hE hC
  have HB := Lib.hid (below_lit HB0.out b3)
  have b3' := ((Below.refl w2.heap.size w2).alloc (Nat.le_refl _) _).trans (b3.mono (by simp))
  have HF := Lib.hid (HF0.out.below b3')
  have hbox := (b3'.block _ (lt_of_get HX.out)).trans HX.out
  clear b3 b3' HF0
  have c0 := cell_of hbox 0 _ rfl
  clear hbox HX
  go_wp2_with fail
  refine (own_row _ _ ks [blockP] _ ((HK.out.below HB.out).below ((Below.refl _ _).alloc (Nat.le_refl _) _)) (fs_lit _ _ _ [blockP] _ _ (by decide) (by simp) (by rfl) (by intro j hj; match j, hj with | 0, _ => exact ⟨_, rfl, HF.out⟩))).mono ?_
  rintro e w4 ⟨rfl, b4⟩
  have HB4 := Lib.hid (below_lit HB.out b4)
  clear b4
  generalize rowL ks [blockP] = R at *
  go_wp2_with fail
  go_ret
  exact ⟨ret_bool HZ.out, HB4.out⟩

set_option maxHeartbeats 4000000 in
set_option maxRecDepth 100000 in
theorem kids28 (x li : Int) (s : ByteArray) (an ak : Option Addr) (ln cn lk ck : Nat) (v : Value) (ks : List Nat) (w : World) (hK : Kl w v ks) :
    Calls Try.prog 16 #[.agg #[.int .u8 28, .int .i64 x, .string s, .slice an ln cn, .slice ak lk ck, .int .i64 li], v] w fun e w' => e = .returned (.bool (rowL ks [prefP, exprK])) ∧ Below w.heap.size w w' := by
  have HK := Lib.hid hK
  obtain ⟨ao, cap, rfl, hl, hc2, _, hr⟩ := hK
  clear hr
  have hcap : ks.length ≤ 1000000000 := by omega
  obtain ⟨Z, hZ⟩ : ∃ Z, (rowL ks [prefP, exprK]) = Z := ⟨_, rfl⟩
  rw [hZ]
  have HZ := Lib.hid hZ
  clear hZ
  have cs := fun w => own_stat 28 w (by omega)
  rw [show statK 28 = false by rfl] at cs
  go_enter Try.func16, Try.ntmps16
  go_wp2_with (go_at_call 26; refine (cs _).mono ?_; rintro e w' ⟨rfl, rfl⟩)
  refine (own_of _ [1] _ (kl_lit _ _ _ [1] _ _ (by rfl) (by decide) (by decide) (by simp) (by rfl))).mono ?_
  rintro e w2 ⟨fv, rfl, hF, b2⟩
  have HF0 := Lib.hid hF
  obtain ⟨f, caps, rfl, hE, hC⟩ := hF
  clear hE hC
  obtain ⟨hbox, hB⟩ := boxed_then b2
  have HB0 := Lib.hid hB
  have HX := Lib.hid hbox
  clear hB b2 hbox
  go_wp2_with fail
  refine (own_of _ [27, 28, 29, 30, 38] _ (kl_lit _ _ _ [27, 28, 29, 30, 38] _ _ (by rfl) (by decide) (by decide) (by simp) (by rfl))).mono ?_
  rintro e w3 ⟨fv2, rfl, hF2, b3⟩
  have HF2 := Lib.hid hF2
  obtain ⟨f2, caps2, rfl, hE, hC⟩ := hF2
  clear hE hC
  have HB := Lib.hid (below_lit HB0.out b3)
  have b3' := ((Below.refl w2.heap.size w2).alloc (Nat.le_refl _) _).trans (b3.mono (by simp))
  have HF := Lib.hid (HF0.out.below b3')
  have hbox := (b3'.block _ (lt_of_get HX.out)).trans HX.out
  clear b3 b3' HF0
  have c0 := cell_of hbox 0 _ rfl
  clear hbox HX
  go_wp2_with fail
  refine (own_row _ _ ks [prefP, exprK] _ ((HK.out.below HB.out).below ((Below.refl _ _).alloc (Nat.le_refl _) _)) (fs_lit _ _ _ [prefP, exprK] _ _ (by decide) (by simp) (by rfl) (by intro j hj; match j, hj with | 0, _ => exact ⟨_, rfl, HF2.out⟩ | 1, _ => exact ⟨_, rfl, fn_expr _⟩))).mono ?_
  rintro e w4 ⟨rfl, b4⟩
  have HB4 := Lib.hid (below_lit HB.out b4)
  clear b4
  generalize rowL ks [prefP, exprK] = R at *
  go_wp2_with fail
  go_ret
  exact ⟨ret_bool HZ.out, HB4.out⟩

set_option maxHeartbeats 4000000 in
set_option maxRecDepth 100000 in
theorem kids29 (x li : Int) (s : ByteArray) (an ak : Option Addr) (ln cn lk ck : Nat) (v : Value) (ks : List Nat) (w : World) (hK : Kl w v ks) :
    Calls Try.prog 16 #[.agg #[.int .u8 29, .int .i64 x, .string s, .slice an ln cn, .slice ak lk ck, .int .i64 li], v] w fun e w' => e = .returned (.bool (areB ks 0 1 prefP && listB ks 1 ks.length 0)) ∧ Below w.heap.size w w' := by
  have HK := Lib.hid hK
  obtain ⟨ao, cap, rfl, hl, hc2, _, hr⟩ := hK
  clear hr
  have hcap : ks.length ≤ 1000000000 := by omega
  obtain ⟨Z, hZ⟩ : ∃ Z, (areB ks 0 1 prefP && listB ks 1 ks.length 0) = Z := ⟨_, rfl⟩
  rw [hZ]
  have HZ := Lib.hid hZ
  clear hZ
  have cs := fun w => own_stat 29 w (by omega)
  rw [show statK 29 = false by rfl] at cs
  go_enter Try.func16, Try.ntmps16
  go_wp2_with (go_at_call 26; refine (cs _).mono ?_; rintro e w' ⟨rfl, rfl⟩)
  refine (own_of _ [1] _ (kl_lit _ _ _ [1] _ _ (by rfl) (by decide) (by decide) (by simp) (by rfl))).mono ?_
  rintro e w2 ⟨fv, rfl, hF, b2⟩
  have HF0 := Lib.hid hF
  obtain ⟨f, caps, rfl, hE, hC⟩ := hF
  clear hE hC
  obtain ⟨hbox, hB⟩ := boxed_then b2
  have HB0 := Lib.hid hB
  have HX := Lib.hid hbox
  clear hB b2 hbox
  go_wp2_with fail
  refine (own_of _ [27, 28, 29, 30, 38] _ (kl_lit _ _ _ [27, 28, 29, 30, 38] _ _ (by rfl) (by decide) (by decide) (by simp) (by rfl))).mono ?_
  rintro e w3 ⟨fv2, rfl, hF2, b3⟩
  have HF2 := Lib.hid hF2
  obtain ⟨f2, caps2, rfl, hE, hC⟩ := hF2
  clear hE hC
  have HB := Lib.hid (below_lit HB0.out b3)
  have b3' := ((Below.refl w2.heap.size w2).alloc (Nat.le_refl _) _).trans (b3.mono (by simp))
  have HF := Lib.hid (HF0.out.below b3')
  have hbox := (b3'.block _ (lt_of_get HX.out)).trans HX.out
  clear b3 b3' HF0
  have c0 := cell_of hbox 0 _ rfl
  clear hbox HX
  have c := own_are _ _ ks 0 1 prefP _ (HK.out.below HB.out) HF2.out
  generalize areB ks 0 1 prefP = R at *
  cases R with
  | false =>
    go_wp2_with fail
    refine c.mono ?_
    rintro e w4 ⟨rfl, b4⟩
    have HB4 := Lib.hid (HB.out.trans (b4.mono HB.out.size))
    clear b4
    go_wp2_with fail
    go_ret
    exact ⟨ret_bool HZ.out, HB4.out⟩
  | true =>
    go_wp2_with fail
    refine c.mono ?_
    rintro e w4 ⟨rfl, b4⟩
    have HB4 := Lib.hid (HB.out.trans (b4.mono HB.out.size))
    clear b4
    have d := own_list _ ks 1 (ks.length : Int) 0 _ (HK.out.below HB4.out) (by omega) (by omega) (by omega) (by omega)
    generalize listB ks 1 ks.length 0 = R at *
    go_wp2_with fail
    refine d.mono ?_
    rintro e w5 ⟨rfl, b5⟩
    have HB5 := Lib.hid (HB4.out.trans (b5.mono HB4.out.size))
    clear b5
    go_wp2_with fail
    go_ret
    exact ⟨ret_bool HZ.out, HB5.out⟩

set_option maxHeartbeats 4000000 in
set_option maxRecDepth 100000 in
theorem kids30 (x li : Int) (s : ByteArray) (an ak : Option Addr) (ln cn lk ck : Nat) (v : Value) (ks : List Nat) (w : World) (hK : Kl w v ks) :
    Calls Try.prog 16 #[.agg #[.int .u8 30, .int .i64 x, .string s, .slice an ln cn, .slice ak lk ck, .int .i64 li], v] w fun e w' => e = .returned (.bool (areB ks 0 1 prefP && listB ks 1 ks.length 0)) ∧ Below w.heap.size w w' := by
  have HK := Lib.hid hK
  obtain ⟨ao, cap, rfl, hl, hc2, _, hr⟩ := hK
  clear hr
  have hcap : ks.length ≤ 1000000000 := by omega
  obtain ⟨Z, hZ⟩ : ∃ Z, (areB ks 0 1 prefP && listB ks 1 ks.length 0) = Z := ⟨_, rfl⟩
  rw [hZ]
  have HZ := Lib.hid hZ
  clear hZ
  have cs := fun w => own_stat 30 w (by omega)
  rw [show statK 30 = false by rfl] at cs
  go_enter Try.func16, Try.ntmps16
  go_wp2_with (go_at_call 26; refine (cs _).mono ?_; rintro e w' ⟨rfl, rfl⟩)
  refine (own_of _ [1] _ (kl_lit _ _ _ [1] _ _ (by rfl) (by decide) (by decide) (by simp) (by rfl))).mono ?_
  rintro e w2 ⟨fv, rfl, hF, b2⟩
  have HF0 := Lib.hid hF
  obtain ⟨f, caps, rfl, hE, hC⟩ := hF
  clear hE hC
  obtain ⟨hbox, hB⟩ := boxed_then b2
  have HB0 := Lib.hid hB
  have HX := Lib.hid hbox
  clear hB b2 hbox
  go_wp2_with fail
  refine (own_of _ [27, 28, 29, 30, 38] _ (kl_lit _ _ _ [27, 28, 29, 30, 38] _ _ (by rfl) (by decide) (by decide) (by simp) (by rfl))).mono ?_
  rintro e w3 ⟨fv2, rfl, hF2, b3⟩
  have HF2 := Lib.hid hF2
  obtain ⟨f2, caps2, rfl, hE, hC⟩ := hF2
  clear hE hC
  have HB := Lib.hid (below_lit HB0.out b3)
  have b3' := ((Below.refl w2.heap.size w2).alloc (Nat.le_refl _) _).trans (b3.mono (by simp))
  have HF := Lib.hid (HF0.out.below b3')
  have hbox := (b3'.block _ (lt_of_get HX.out)).trans HX.out
  clear b3 b3' HF0
  have c0 := cell_of hbox 0 _ rfl
  clear hbox HX
  have c := own_are _ _ ks 0 1 prefP _ (HK.out.below HB.out) HF2.out
  generalize areB ks 0 1 prefP = R at *
  cases R with
  | false =>
    go_wp2_with fail
    refine c.mono ?_
    rintro e w4 ⟨rfl, b4⟩
    have HB4 := Lib.hid (HB.out.trans (b4.mono HB.out.size))
    clear b4
    go_wp2_with fail
    go_ret
    exact ⟨ret_bool HZ.out, HB4.out⟩
  | true =>
    go_wp2_with fail
    refine c.mono ?_
    rintro e w4 ⟨rfl, b4⟩
    have HB4 := Lib.hid (HB.out.trans (b4.mono HB.out.size))
    clear b4
    have d := own_list _ ks 1 (ks.length : Int) 0 _ (HK.out.below HB4.out) (by omega) (by omega) (by omega) (by omega)
    generalize listB ks 1 ks.length 0 = R at *
    go_wp2_with fail
    refine d.mono ?_
    rintro e w5 ⟨rfl, b5⟩
    have HB5 := Lib.hid (HB4.out.trans (b5.mono HB4.out.size))
    clear b5
    go_wp2_with fail
    go_ret
    exact ⟨ret_bool HZ.out, HB5.out⟩

set_option maxHeartbeats 4000000 in
set_option maxRecDepth 100000 in
theorem kids31 (x li : Int) (s : ByteArray) (an ak : Option Addr) (ln cn lk ck : Nat) (v : Value) (ks : List Nat) (w : World) (hK : Kl w v ks) :
    Calls Try.prog 16 #[.agg #[.int .u8 31, .int .i64 x, .string s, .slice an ln cn, .slice ak lk ck, .int .i64 li], v] w fun e w' => e = .returned (.bool (rowL ks [exprK, exprK])) ∧ Below w.heap.size w w' := by
  have HK := Lib.hid hK
  obtain ⟨ao, cap, rfl, hl, hc2, _, hr⟩ := hK
  clear hr
  have hcap : ks.length ≤ 1000000000 := by omega
  obtain ⟨Z, hZ⟩ : ∃ Z, (rowL ks [exprK, exprK]) = Z := ⟨_, rfl⟩
  rw [hZ]
  have HZ := Lib.hid hZ
  clear hZ
  have cs := fun w => own_stat 31 w (by omega)
  rw [show statK 31 = false by rfl] at cs
  go_enter Try.func16, Try.ntmps16
  go_wp2_with (go_at_call 26; refine (cs _).mono ?_; rintro e w' ⟨rfl, rfl⟩)
  refine (own_of _ [1] _ (kl_lit _ _ _ [1] _ _ (by rfl) (by decide) (by decide) (by simp) (by rfl))).mono ?_
  rintro e w2 ⟨fv, rfl, hF, b2⟩
  have HF0 := Lib.hid hF
  obtain ⟨f, caps, rfl, hE, hC⟩ := hF
  clear hE hC
  obtain ⟨hbox, hB⟩ := boxed_then b2
  have HB0 := Lib.hid hB
  have HX := Lib.hid hbox
  clear hB b2 hbox
  go_wp2_with fail
  refine (own_of _ [27, 28, 29, 30, 38] _ (kl_lit _ _ _ [27, 28, 29, 30, 38] _ _ (by rfl) (by decide) (by decide) (by simp) (by rfl))).mono ?_
  rintro e w3 ⟨fv2, rfl, hF2, b3⟩
  have HF2 := Lib.hid hF2
  obtain ⟨f2, caps2, rfl, hE, hC⟩ := hF2
  clear hE hC
  have HB := Lib.hid (below_lit HB0.out b3)
  have b3' := ((Below.refl w2.heap.size w2).alloc (Nat.le_refl _) _).trans (b3.mono (by simp))
  have HF := Lib.hid (HF0.out.below b3')
  have hbox := (b3'.block _ (lt_of_get HX.out)).trans HX.out
  clear b3 b3' HF0
  have c0 := cell_of hbox 0 _ rfl
  clear hbox HX
  go_wp2_with fail
  refine (own_row _ _ ks [exprK, exprK] _ ((HK.out.below HB.out).below ((Below.refl _ _).alloc (Nat.le_refl _) _)) (fs_lit _ _ _ [exprK, exprK] _ _ (by decide) (by simp) (by rfl) (by intro j hj; match j, hj with | 0, _ => exact ⟨_, rfl, fn_expr _⟩ | 1, _ => exact ⟨_, rfl, fn_expr _⟩))).mono ?_
  rintro e w4 ⟨rfl, b4⟩
  have HB4 := Lib.hid (below_lit HB.out b4)
  clear b4
  generalize rowL ks [exprK, exprK] = R at *
  go_wp2_with fail
  go_ret
  exact ⟨ret_bool HZ.out, HB4.out⟩

set_option maxHeartbeats 4000000 in
set_option maxRecDepth 100000 in
theorem kids32 (x li : Int) (s : ByteArray) (an ak : Option Addr) (ln cn lk ck : Nat) (v : Value) (ks : List Nat) (w : World) (hK : Kl w v ks) :
    Calls Try.prog 16 #[.agg #[.int .u8 32, .int .i64 x, .string s, .slice an ln cn, .slice ak lk ck, .int .i64 li], v] w fun e w' => e = .returned (.bool (rowL ks [exprK, exprK])) ∧ Below w.heap.size w w' := by
  have HK := Lib.hid hK
  obtain ⟨ao, cap, rfl, hl, hc2, _, hr⟩ := hK
  clear hr
  have hcap : ks.length ≤ 1000000000 := by omega
  obtain ⟨Z, hZ⟩ : ∃ Z, (rowL ks [exprK, exprK]) = Z := ⟨_, rfl⟩
  rw [hZ]
  have HZ := Lib.hid hZ
  clear hZ
  have cs := fun w => own_stat 32 w (by omega)
  rw [show statK 32 = false by rfl] at cs
  go_enter Try.func16, Try.ntmps16
  go_wp2_with (go_at_call 26; refine (cs _).mono ?_; rintro e w' ⟨rfl, rfl⟩)
  refine (own_of _ [1] _ (kl_lit _ _ _ [1] _ _ (by rfl) (by decide) (by decide) (by simp) (by rfl))).mono ?_
  rintro e w2 ⟨fv, rfl, hF, b2⟩
  have HF0 := Lib.hid hF
  obtain ⟨f, caps, rfl, hE, hC⟩ := hF
  clear hE hC
  obtain ⟨hbox, hB⟩ := boxed_then b2
  have HB0 := Lib.hid hB
  have HX := Lib.hid hbox
  clear hB b2 hbox
  go_wp2_with fail
  refine (own_of _ [27, 28, 29, 30, 38] _ (kl_lit _ _ _ [27, 28, 29, 30, 38] _ _ (by rfl) (by decide) (by decide) (by simp) (by rfl))).mono ?_
  rintro e w3 ⟨fv2, rfl, hF2, b3⟩
  have HF2 := Lib.hid hF2
  obtain ⟨f2, caps2, rfl, hE, hC⟩ := hF2
  clear hE hC
  have HB := Lib.hid (below_lit HB0.out b3)
  have b3' := ((Below.refl w2.heap.size w2).alloc (Nat.le_refl _) _).trans (b3.mono (by simp))
  have HF := Lib.hid (HF0.out.below b3')
  have hbox := (b3'.block _ (lt_of_get HX.out)).trans HX.out
  clear b3 b3' HF0
  have c0 := cell_of hbox 0 _ rfl
  clear hbox HX
  go_wp2_with fail
  refine (own_row _ _ ks [exprK, exprK] _ ((HK.out.below HB.out).below ((Below.refl _ _).alloc (Nat.le_refl _) _)) (fs_lit _ _ _ [exprK, exprK] _ _ (by decide) (by simp) (by rfl) (by intro j hj; match j, hj with | 0, _ => exact ⟨_, rfl, fn_expr _⟩ | 1, _ => exact ⟨_, rfl, fn_expr _⟩))).mono ?_
  rintro e w4 ⟨rfl, b4⟩
  have HB4 := Lib.hid (below_lit HB.out b4)
  clear b4
  generalize rowL ks [exprK, exprK] = R at *
  go_wp2_with fail
  go_ret
  exact ⟨ret_bool HZ.out, HB4.out⟩

set_option maxHeartbeats 4000000 in
set_option maxRecDepth 100000 in
theorem kids33 (x li : Int) (s : ByteArray) (an ak : Option Addr) (ln cn lk ck : Nat) (v : Value) (ks : List Nat) (w : World) (hK : Kl w v ks) :
    Calls Try.prog 16 #[.agg #[.int .u8 33, .int .i64 x, .string s, .slice an ln cn, .slice ak lk ck, .int .i64 li], v] w fun e w' => e = .returned (.bool (rowL ks [exprK, exprK])) ∧ Below w.heap.size w w' := by
  have HK := Lib.hid hK
  obtain ⟨ao, cap, rfl, hl, hc2, _, hr⟩ := hK
  clear hr
  have hcap : ks.length ≤ 1000000000 := by omega
  obtain ⟨Z, hZ⟩ : ∃ Z, (rowL ks [exprK, exprK]) = Z := ⟨_, rfl⟩
  rw [hZ]
  have HZ := Lib.hid hZ
  clear hZ
  have cs := fun w => own_stat 33 w (by omega)
  rw [show statK 33 = false by rfl] at cs
  go_enter Try.func16, Try.ntmps16
  go_wp2_with (go_at_call 26; refine (cs _).mono ?_; rintro e w' ⟨rfl, rfl⟩)
  refine (own_of _ [1] _ (kl_lit _ _ _ [1] _ _ (by rfl) (by decide) (by decide) (by simp) (by rfl))).mono ?_
  rintro e w2 ⟨fv, rfl, hF, b2⟩
  have HF0 := Lib.hid hF
  obtain ⟨f, caps, rfl, hE, hC⟩ := hF
  clear hE hC
  obtain ⟨hbox, hB⟩ := boxed_then b2
  have HB0 := Lib.hid hB
  have HX := Lib.hid hbox
  clear hB b2 hbox
  go_wp2_with fail
  refine (own_of _ [27, 28, 29, 30, 38] _ (kl_lit _ _ _ [27, 28, 29, 30, 38] _ _ (by rfl) (by decide) (by decide) (by simp) (by rfl))).mono ?_
  rintro e w3 ⟨fv2, rfl, hF2, b3⟩
  have HF2 := Lib.hid hF2
  obtain ⟨f2, caps2, rfl, hE, hC⟩ := hF2
  clear hE hC
  have HB := Lib.hid (below_lit HB0.out b3)
  have b3' := ((Below.refl w2.heap.size w2).alloc (Nat.le_refl _) _).trans (b3.mono (by simp))
  have HF := Lib.hid (HF0.out.below b3')
  have hbox := (b3'.block _ (lt_of_get HX.out)).trans HX.out
  clear b3 b3' HF0
  have c0 := cell_of hbox 0 _ rfl
  clear hbox HX
  go_wp2_with fail
  refine (own_row _ _ ks [exprK, exprK] _ ((HK.out.below HB.out).below ((Below.refl _ _).alloc (Nat.le_refl _) _)) (fs_lit _ _ _ [exprK, exprK] _ _ (by decide) (by simp) (by rfl) (by intro j hj; match j, hj with | 0, _ => exact ⟨_, rfl, fn_expr _⟩ | 1, _ => exact ⟨_, rfl, fn_expr _⟩))).mono ?_
  rintro e w4 ⟨rfl, b4⟩
  have HB4 := Lib.hid (below_lit HB.out b4)
  clear b4
  generalize rowL ks [exprK, exprK] = R at *
  go_wp2_with fail
  go_ret
  exact ⟨ret_bool HZ.out, HB4.out⟩

set_option maxHeartbeats 4000000 in
set_option maxRecDepth 100000 in
theorem kids37 (x li : Int) (s : ByteArray) (an ak : Option Addr) (ln cn lk ck : Nat) (v : Value) (ks : List Nat) (w : World) (hK : Kl w v ks) :
    Calls Try.prog 16 #[.agg #[.int .u8 37, .int .i64 x, .string s, .slice an ln cn, .slice ak lk ck, .int .i64 li], v] w fun e w' => e = .returned (.bool (rowL ks [exprK, exprK])) ∧ Below w.heap.size w w' := by
  have HK := Lib.hid hK
  obtain ⟨ao, cap, rfl, hl, hc2, _, hr⟩ := hK
  clear hr
  have hcap : ks.length ≤ 1000000000 := by omega
  obtain ⟨Z, hZ⟩ : ∃ Z, (rowL ks [exprK, exprK]) = Z := ⟨_, rfl⟩
  rw [hZ]
  have HZ := Lib.hid hZ
  clear hZ
  have cs := fun w => own_stat 37 w (by omega)
  rw [show statK 37 = false by rfl] at cs
  go_enter Try.func16, Try.ntmps16
  go_wp2_with (go_at_call 26; refine (cs _).mono ?_; rintro e w' ⟨rfl, rfl⟩)
  refine (own_of _ [1] _ (kl_lit _ _ _ [1] _ _ (by rfl) (by decide) (by decide) (by simp) (by rfl))).mono ?_
  rintro e w2 ⟨fv, rfl, hF, b2⟩
  have HF0 := Lib.hid hF
  obtain ⟨f, caps, rfl, hE, hC⟩ := hF
  clear hE hC
  obtain ⟨hbox, hB⟩ := boxed_then b2
  have HB0 := Lib.hid hB
  have HX := Lib.hid hbox
  clear hB b2 hbox
  go_wp2_with fail
  refine (own_of _ [27, 28, 29, 30, 38] _ (kl_lit _ _ _ [27, 28, 29, 30, 38] _ _ (by rfl) (by decide) (by decide) (by simp) (by rfl))).mono ?_
  rintro e w3 ⟨fv2, rfl, hF2, b3⟩
  have HF2 := Lib.hid hF2
  obtain ⟨f2, caps2, rfl, hE, hC⟩ := hF2
  clear hE hC
  have HB := Lib.hid (below_lit HB0.out b3)
  have b3' := ((Below.refl w2.heap.size w2).alloc (Nat.le_refl _) _).trans (b3.mono (by simp))
  have HF := Lib.hid (HF0.out.below b3')
  have hbox := (b3'.block _ (lt_of_get HX.out)).trans HX.out
  clear b3 b3' HF0
  have c0 := cell_of hbox 0 _ rfl
  clear hbox HX
  go_wp2_with fail
  refine (own_row _ _ ks [exprK, exprK] _ ((HK.out.below HB.out).below ((Below.refl _ _).alloc (Nat.le_refl _) _)) (fs_lit _ _ _ [exprK, exprK] _ _ (by decide) (by simp) (by rfl) (by intro j hj; match j, hj with | 0, _ => exact ⟨_, rfl, fn_expr _⟩ | 1, _ => exact ⟨_, rfl, fn_expr _⟩))).mono ?_
  rintro e w4 ⟨rfl, b4⟩
  have HB4 := Lib.hid (below_lit HB.out b4)
  clear b4
  generalize rowL ks [exprK, exprK] = R at *
  go_wp2_with fail
  go_ret
  exact ⟨ret_bool HZ.out, HB4.out⟩

set_option maxHeartbeats 4000000 in
set_option maxRecDepth 100000 in
theorem kids34 (x li : Int) (s : ByteArray) (an ak : Option Addr) (ln cn lk ck : Nat) (v : Value) (ks : List Nat) (w : World) (hK : Kl w v ks) :
    Calls Try.prog 16 #[.agg #[.int .u8 34, .int .i64 x, .string s, .slice an ln cn, .slice ak lk ck, .int .i64 li], v] w fun e w' => e = .returned (.bool (rowL ks [exprK])) ∧ Below w.heap.size w w' := by
  have HK := Lib.hid hK
  obtain ⟨ao, cap, rfl, hl, hc2, _, hr⟩ := hK
  clear hr
  have hcap : ks.length ≤ 1000000000 := by omega
  obtain ⟨Z, hZ⟩ : ∃ Z, (rowL ks [exprK]) = Z := ⟨_, rfl⟩
  rw [hZ]
  have HZ := Lib.hid hZ
  clear hZ
  have cs := fun w => own_stat 34 w (by omega)
  rw [show statK 34 = false by rfl] at cs
  go_enter Try.func16, Try.ntmps16
  go_wp2_with (go_at_call 26; refine (cs _).mono ?_; rintro e w' ⟨rfl, rfl⟩)
  refine (own_of _ [1] _ (kl_lit _ _ _ [1] _ _ (by rfl) (by decide) (by decide) (by simp) (by rfl))).mono ?_
  rintro e w2 ⟨fv, rfl, hF, b2⟩
  have HF0 := Lib.hid hF
  obtain ⟨f, caps, rfl, hE, hC⟩ := hF
  clear hE hC
  obtain ⟨hbox, hB⟩ := boxed_then b2
  have HB0 := Lib.hid hB
  have HX := Lib.hid hbox
  clear hB b2 hbox
  go_wp2_with fail
  refine (own_of _ [27, 28, 29, 30, 38] _ (kl_lit _ _ _ [27, 28, 29, 30, 38] _ _ (by rfl) (by decide) (by decide) (by simp) (by rfl))).mono ?_
  rintro e w3 ⟨fv2, rfl, hF2, b3⟩
  have HF2 := Lib.hid hF2
  obtain ⟨f2, caps2, rfl, hE, hC⟩ := hF2
  clear hE hC
  have HB := Lib.hid (below_lit HB0.out b3)
  have b3' := ((Below.refl w2.heap.size w2).alloc (Nat.le_refl _) _).trans (b3.mono (by simp))
  have HF := Lib.hid (HF0.out.below b3')
  have hbox := (b3'.block _ (lt_of_get HX.out)).trans HX.out
  clear b3 b3' HF0
  have c0 := cell_of hbox 0 _ rfl
  clear hbox HX
  go_wp2_with fail
  refine (own_row _ _ ks [exprK] _ ((HK.out.below HB.out).below ((Below.refl _ _).alloc (Nat.le_refl _) _)) (fs_lit _ _ _ [exprK] _ _ (by decide) (by simp) (by rfl) (by intro j hj; match j, hj with | 0, _ => exact ⟨_, rfl, fn_expr _⟩))).mono ?_
  rintro e w4 ⟨rfl, b4⟩
  have HB4 := Lib.hid (below_lit HB.out b4)
  clear b4
  generalize rowL ks [exprK] = R at *
  go_wp2_with fail
  go_ret
  exact ⟨ret_bool HZ.out, HB4.out⟩

set_option maxHeartbeats 4000000 in
set_option maxRecDepth 100000 in
theorem kids36 (x li : Int) (s : ByteArray) (an ak : Option Addr) (ln cn lk ck : Nat) (v : Value) (ks : List Nat) (w : World) (hK : Kl w v ks) :
    Calls Try.prog 16 #[.agg #[.int .u8 36, .int .i64 x, .string s, .slice an ln cn, .slice ak lk ck, .int .i64 li], v] w fun e w' => e = .returned (.bool (rowL ks [exprK])) ∧ Below w.heap.size w w' := by
  have HK := Lib.hid hK
  obtain ⟨ao, cap, rfl, hl, hc2, _, hr⟩ := hK
  clear hr
  have hcap : ks.length ≤ 1000000000 := by omega
  obtain ⟨Z, hZ⟩ : ∃ Z, (rowL ks [exprK]) = Z := ⟨_, rfl⟩
  rw [hZ]
  have HZ := Lib.hid hZ
  clear hZ
  have cs := fun w => own_stat 36 w (by omega)
  rw [show statK 36 = false by rfl] at cs
  go_enter Try.func16, Try.ntmps16
  go_wp2_with (go_at_call 26; refine (cs _).mono ?_; rintro e w' ⟨rfl, rfl⟩)
  refine (own_of _ [1] _ (kl_lit _ _ _ [1] _ _ (by rfl) (by decide) (by decide) (by simp) (by rfl))).mono ?_
  rintro e w2 ⟨fv, rfl, hF, b2⟩
  have HF0 := Lib.hid hF
  obtain ⟨f, caps, rfl, hE, hC⟩ := hF
  clear hE hC
  obtain ⟨hbox, hB⟩ := boxed_then b2
  have HB0 := Lib.hid hB
  have HX := Lib.hid hbox
  clear hB b2 hbox
  go_wp2_with fail
  refine (own_of _ [27, 28, 29, 30, 38] _ (kl_lit _ _ _ [27, 28, 29, 30, 38] _ _ (by rfl) (by decide) (by decide) (by simp) (by rfl))).mono ?_
  rintro e w3 ⟨fv2, rfl, hF2, b3⟩
  have HF2 := Lib.hid hF2
  obtain ⟨f2, caps2, rfl, hE, hC⟩ := hF2
  clear hE hC
  have HB := Lib.hid (below_lit HB0.out b3)
  have b3' := ((Below.refl w2.heap.size w2).alloc (Nat.le_refl _) _).trans (b3.mono (by simp))
  have HF := Lib.hid (HF0.out.below b3')
  have hbox := (b3'.block _ (lt_of_get HX.out)).trans HX.out
  clear b3 b3' HF0
  have c0 := cell_of hbox 0 _ rfl
  clear hbox HX
  go_wp2_with fail
  refine (own_row _ _ ks [exprK] _ ((HK.out.below HB.out).below ((Below.refl _ _).alloc (Nat.le_refl _) _)) (fs_lit _ _ _ [exprK] _ _ (by decide) (by simp) (by rfl) (by intro j hj; match j, hj with | 0, _ => exact ⟨_, rfl, fn_expr _⟩))).mono ?_
  rintro e w4 ⟨rfl, b4⟩
  have HB4 := Lib.hid (below_lit HB.out b4)
  clear b4
  generalize rowL ks [exprK] = R at *
  go_wp2_with fail
  go_ret
  exact ⟨ret_bool HZ.out, HB4.out⟩

set_option maxHeartbeats 4000000 in
set_option maxRecDepth 100000 in
theorem kids38 (x li : Int) (s : ByteArray) (an ak : Option Addr) (ln cn lk ck : Nat) (v : Value) (ks : List Nat) (w : World) (hK : Kl w v ks) :
    Calls Try.prog 16 #[.agg #[.int .u8 38, .int .i64 x, .string s, .slice an ln cn, .slice ak lk ck, .int .i64 li], v] w fun e w' => e = .returned (.bool (rowL ks [exprK])) ∧ Below w.heap.size w w' := by
  have HK := Lib.hid hK
  obtain ⟨ao, cap, rfl, hl, hc2, _, hr⟩ := hK
  clear hr
  have hcap : ks.length ≤ 1000000000 := by omega
  obtain ⟨Z, hZ⟩ : ∃ Z, (rowL ks [exprK]) = Z := ⟨_, rfl⟩
  rw [hZ]
  have HZ := Lib.hid hZ
  clear hZ
  have cs := fun w => own_stat 38 w (by omega)
  rw [show statK 38 = false by rfl] at cs
  go_enter Try.func16, Try.ntmps16
  go_wp2_with (go_at_call 26; refine (cs _).mono ?_; rintro e w' ⟨rfl, rfl⟩)
  refine (own_of _ [1] _ (kl_lit _ _ _ [1] _ _ (by rfl) (by decide) (by decide) (by simp) (by rfl))).mono ?_
  rintro e w2 ⟨fv, rfl, hF, b2⟩
  have HF0 := Lib.hid hF
  obtain ⟨f, caps, rfl, hE, hC⟩ := hF
  clear hE hC
  obtain ⟨hbox, hB⟩ := boxed_then b2
  have HB0 := Lib.hid hB
  have HX := Lib.hid hbox
  clear hB b2 hbox
  go_wp2_with fail
  refine (own_of _ [27, 28, 29, 30, 38] _ (kl_lit _ _ _ [27, 28, 29, 30, 38] _ _ (by rfl) (by decide) (by decide) (by simp) (by rfl))).mono ?_
  rintro e w3 ⟨fv2, rfl, hF2, b3⟩
  have HF2 := Lib.hid hF2
  obtain ⟨f2, caps2, rfl, hE, hC⟩ := hF2
  clear hE hC
  have HB := Lib.hid (below_lit HB0.out b3)
  have b3' := ((Below.refl w2.heap.size w2).alloc (Nat.le_refl _) _).trans (b3.mono (by simp))
  have HF := Lib.hid (HF0.out.below b3')
  have hbox := (b3'.block _ (lt_of_get HX.out)).trans HX.out
  clear b3 b3' HF0
  have c0 := cell_of hbox 0 _ rfl
  clear hbox HX
  go_wp2_with fail
  refine (own_row _ _ ks [exprK] _ ((HK.out.below HB.out).below ((Below.refl _ _).alloc (Nat.le_refl _) _)) (fs_lit _ _ _ [exprK] _ _ (by decide) (by simp) (by rfl) (by intro j hj; match j, hj with | 0, _ => exact ⟨_, rfl, fn_expr _⟩))).mono ?_
  rintro e w4 ⟨rfl, b4⟩
  have HB4 := Lib.hid (below_lit HB.out b4)
  clear b4
  generalize rowL ks [exprK] = R at *
  go_wp2_with fail
  go_ret
  exact ⟨ret_bool HZ.out, HB4.out⟩

set_option maxHeartbeats 4000000 in
set_option maxRecDepth 100000 in
theorem kids35 (x li : Int) (s : ByteArray) (an ak : Option Addr) (ln cn lk ck : Nat) (v : Value) (ks : List Nat) (w : World) (hK : Kl w v ks) :
    Calls Try.prog 16 #[.agg #[.int .u8 35, .int .i64 x, .string s, .slice an ln cn, .slice ak lk ck, .int .i64 li], v] w fun e w' => e = .returned (.bool (areB ks 0 ks.length (isB [36, 37]))) ∧ Below w.heap.size w w' := by
  have HK := Lib.hid hK
  obtain ⟨ao, cap, rfl, hl, hc2, _, hr⟩ := hK
  clear hr
  have hcap : ks.length ≤ 1000000000 := by omega
  obtain ⟨Z, hZ⟩ : ∃ Z, (areB ks 0 ks.length (isB [36, 37])) = Z := ⟨_, rfl⟩
  rw [hZ]
  have HZ := Lib.hid hZ
  clear hZ
  have cs := fun w => own_stat 35 w (by omega)
  rw [show statK 35 = false by rfl] at cs
  go_enter Try.func16, Try.ntmps16
  go_wp2_with (go_at_call 26; refine (cs _).mono ?_; rintro e w' ⟨rfl, rfl⟩)
  refine (own_of _ [1] _ (kl_lit _ _ _ [1] _ _ (by rfl) (by decide) (by decide) (by simp) (by rfl))).mono ?_
  rintro e w2 ⟨fv, rfl, hF, b2⟩
  have HF0 := Lib.hid hF
  obtain ⟨f, caps, rfl, hE, hC⟩ := hF
  clear hE hC
  obtain ⟨hbox, hB⟩ := boxed_then b2
  have HB0 := Lib.hid hB
  have HX := Lib.hid hbox
  clear hB b2 hbox
  go_wp2_with fail
  refine (own_of _ [27, 28, 29, 30, 38] _ (kl_lit _ _ _ [27, 28, 29, 30, 38] _ _ (by rfl) (by decide) (by decide) (by simp) (by rfl))).mono ?_
  rintro e w3 ⟨fv2, rfl, hF2, b3⟩
  have HF2 := Lib.hid hF2
  obtain ⟨f2, caps2, rfl, hE, hC⟩ := hF2
  clear hE hC
  have HB := Lib.hid (below_lit HB0.out b3)
  have b3' := ((Below.refl w2.heap.size w2).alloc (Nat.le_refl _) _).trans (b3.mono (by simp))
  have HF := Lib.hid (HF0.out.below b3')
  have hbox := (b3'.block _ (lt_of_get HX.out)).trans HX.out
  clear b3 b3' HF0
  have c0 := cell_of hbox 0 _ rfl
  clear hbox HX
  go_wp2_with fail
  refine (own_of _ [36, 37] _ (kl_lit _ _ _ [36, 37] _ _ (by rfl) (by decide) (by decide) (by simp) (by rfl))).mono ?_
  rintro e w4 ⟨fv3, rfl, hF3, b4⟩
  have HF3 := Lib.hid hF3
  obtain ⟨f3, caps3, rfl, hE, hC⟩ := hF3
  clear hE hC
  have HB4 := Lib.hid (below_lit HB.out b4)
  clear b4
  have c := own_are _ _ ks 0 (ks.length : Int) (isB [36, 37]) _ (HK.out.below HB4.out) HF3.out
  generalize areB ks 0 ks.length (isB [36, 37]) = R at *
  go_wp2_with fail
  refine c.mono ?_
  rintro e w5 ⟨rfl, b5⟩
  have HB5 := Lib.hid (HB4.out.trans (b5.mono HB4.out.size))
  clear b5
  go_wp2_with fail
  go_ret
  exact ⟨ret_bool HZ.out, HB5.out⟩

set_option maxHeartbeats 4000000 in
set_option maxRecDepth 100000 in
theorem kids0 (k : Nat) (x li : Int) (s : ByteArray) (an ak : Option Addr) (ln cn lk ck : Nat) (v : Value) (ks : List Nat) (w : World) (hK : Kl w v ks) (hk : k < 256) (hs : statK k = false) (h1 : ¬ (k : Int) = 1) (h20 : ¬ (k : Int) = 20) (h21 : ¬ (k : Int) = 21) (h22 : ¬ (k : Int) = 22) (h25 : ¬ (k : Int) = 25) (h27 : ¬ (k : Int) = 27) (h23 : ¬ (k : Int) = 23) (h24 : ¬ (k : Int) = 24) (h26 : ¬ (k : Int) = 26) (h28 : ¬ (k : Int) = 28) (h29 : ¬ (k : Int) = 29) (h30 : ¬ (k : Int) = 30) (h31 : ¬ (k : Int) = 31) (h32 : ¬ (k : Int) = 32) (h33 : ¬ (k : Int) = 33) (h37 : ¬ (k : Int) = 37) (h34 : ¬ (k : Int) = 34) (h36 : ¬ (k : Int) = 36) (h38 : ¬ (k : Int) = 38) (h35 : ¬ (k : Int) = 35) :
    Calls Try.prog 16 #[.agg #[.int .u8 (k : Int), .int .i64 x, .string s, .slice an ln cn, .slice ak lk ck, .int .i64 li], v] w fun e w' => e = .returned (.bool (false)) ∧ Below w.heap.size w w' := by
  have HK := Lib.hid hK
  obtain ⟨ao, cap, rfl, hl, hc2, _, hr⟩ := hK
  clear hr
  have hcap : ks.length ≤ 1000000000 := by omega
  obtain ⟨Z, hZ⟩ : ∃ Z, (false) = Z := ⟨_, rfl⟩
  rw [hZ]
  have HZ := Lib.hid hZ
  clear hZ
  have cs := fun w => own_stat k w hk
  rw [hs] at cs
  clear hs
  go_enter Try.func16, Try.ntmps16
  go_wp2_with (go_at_call 26; refine (cs _).mono ?_; rintro e w' ⟨rfl, rfl⟩)
  refine (own_of _ [1] _ (kl_lit _ _ _ [1] _ _ (by rfl) (by decide) (by decide) (by simp) (by rfl))).mono ?_
  rintro e w2 ⟨fv, rfl, hF, b2⟩
  have HF0 := Lib.hid hF
  obtain ⟨f, caps, rfl, hE, hC⟩ := hF
  clear hE hC
  obtain ⟨hbox, hB⟩ := boxed_then b2
  have HB0 := Lib.hid hB
  have HX := Lib.hid hbox
  clear hB b2 hbox
  go_wp2_with fail
  refine (own_of _ [27, 28, 29, 30, 38] _ (kl_lit _ _ _ [27, 28, 29, 30, 38] _ _ (by rfl) (by decide) (by decide) (by simp) (by rfl))).mono ?_
  rintro e w3 ⟨fv2, rfl, hF2, b3⟩
  have HF2 := Lib.hid hF2
  obtain ⟨f2, caps2, rfl, hE, hC⟩ := hF2
  clear hE hC
  have HB := Lib.hid (below_lit HB0.out b3)
  have b3' := ((Below.refl w2.heap.size w2).alloc (Nat.le_refl _) _).trans (b3.mono (by simp))
  have HF := Lib.hid (HF0.out.below b3')
  have hbox := (b3'.block _ (lt_of_get HX.out)).trans HX.out
  clear b3 b3' HF0
  have c0 := cell_of hbox 0 _ rfl
  clear hbox HX
  go_wp2_with fail
  go_ret
  exact ⟨ret_bool HZ.out, HB.out⟩

theorem own_kids (k : Nat) (x li : Int) (s : ByteArray) (an ak : Option Addr) (ln cn lk ck : Nat) (v : Value) (ks : List Nat) (w : World) (hK : Kl w v ks) (hx : In64 x) (hk : k < 256) :
    Calls Try.prog 16 #[.agg #[.int .u8 (k : Int), .int .i64 x, .string s, .slice an ln cn, .slice ak lk ck, .int .i64 li], v] w fun e w' => e = .returned (.bool (kidsB k x ks)) ∧ Below w.heap.size w w' := by
  cases hs : statK k with
  | true =>
    have e : kidsB k x ks = statKidsB k x ks := by unfold kidsB; rw [hs]; rfl
    rw [e]
    exact kidsS k x li s an ak ln cn lk ck v ks w hK hx hk hs
  | false =>
    by_cases h1 : k = 1
    · subst h1; exact kids1 x li s an ak ln cn lk ck v ks w hK
    by_cases h20 : k = 20
    · subst h20; exact kids20 x li s an ak ln cn lk ck v ks w hK
    by_cases h21 : k = 21
    · subst h21; exact kids21 x li s an ak ln cn lk ck v ks w hK
    by_cases h22 : k = 22
    · subst h22; exact kids22 x li s an ak ln cn lk ck v ks w hK
    by_cases h25 : k = 25
    · subst h25; exact kids25 x li s an ak ln cn lk ck v ks w hK
    by_cases h27 : k = 27
    · subst h27; exact kids27 x li s an ak ln cn lk ck v ks w hK
    by_cases h23 : k = 23
    · subst h23; exact kids23 x li s an ak ln cn lk ck v ks w hK
    by_cases h24 : k = 24
    · subst h24; exact kids24 x li s an ak ln cn lk ck v ks w hK
    by_cases h26 : k = 26
    · subst h26; exact kids26 x li s an ak ln cn lk ck v ks w hK
    by_cases h28 : k = 28
    · subst h28; exact kids28 x li s an ak ln cn lk ck v ks w hK
    by_cases h29 : k = 29
    · subst h29; exact kids29 x li s an ak ln cn lk ck v ks w hK
    by_cases h30 : k = 30
    · subst h30; exact kids30 x li s an ak ln cn lk ck v ks w hK
    by_cases h31 : k = 31
    · subst h31; exact kids31 x li s an ak ln cn lk ck v ks w hK
    by_cases h32 : k = 32
    · subst h32; exact kids32 x li s an ak ln cn lk ck v ks w hK
    by_cases h33 : k = 33
    · subst h33; exact kids33 x li s an ak ln cn lk ck v ks w hK
    by_cases h37 : k = 37
    · subst h37; exact kids37 x li s an ak ln cn lk ck v ks w hK
    by_cases h34 : k = 34
    · subst h34; exact kids34 x li s an ak ln cn lk ck v ks w hK
    by_cases h36 : k = 36
    · subst h36; exact kids36 x li s an ak ln cn lk ck v ks w hK
    by_cases h38 : k = 38
    · subst h38; exact kids38 x li s an ak ln cn lk ck v ks w hK
    by_cases h35 : k = 35
    · subst h35; exact kids35 x li s an ak ln cn lk ck v ks w hK
    have e : kidsB k x ks = false := by
      unfold kidsB
      rw [hs]
      rw [if_neg (by simp)]
      split <;> first | rfl | contradiction
    rw [e]
    exact kids0 k x li s an ak ln cn lk ck v ks w hK hk hs (by omega) (by omega) (by omega) (by omega) (by omega) (by omega) (by omega) (by omega) (by omega) (by omega) (by omega) (by omega) (by omega) (by omega) (by omega) (by omega) (by omega) (by omega) (by omega) (by omega)

end Go.Proofs.Ytmddffacjkkeiaa.Nd
