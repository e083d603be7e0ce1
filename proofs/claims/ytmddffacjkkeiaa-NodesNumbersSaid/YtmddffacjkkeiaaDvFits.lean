/-
  Layer 5: ownFits, operandsFit.
-/
import Derived.Test.YtmddffacjkkeiaaDvNode
import Derived.StillTailTactics
namespace Go.Proofs.Ytmddffacjkkeiaa.Nd
open Go Go.RowKit Go.ChangeShapes Go.WideShapes Go.Shelf

set_option maxHeartbeats 2000000 in
theorem own_ownFits (v : Value) (n : Nd) (w : World) (hN : NdV w v n) :
    Calls Try.prog 15 #[v] w fun e w' => e = .returned (.bool (ownB nmD n)) ∧ Below w.heap.size w w' := by
  obtain ⟨an, cn, ak, ck, rfl, hLn, hLk, hF⟩ := hN
  have hnames : n.names.length ≤ 1000000000000000 := by have := hF.2.2.2.2.2.1; omega
  have HLN := Lib.hid hLn
  clear hLn hLk hF
  have c1 := fun w => own_counts n.k w
  obtain ⟨Z, hZ⟩ : ∃ Z, ownB nmD n = Z := ⟨_, rfl⟩
  rw [hZ]
  have HZ := Lib.hid hZ
  clear hZ
  unfold ownB at HZ
  obtain ⟨a, ha⟩ : ∃ a, (cntB n.k).1 = a := ⟨_, rfl⟩
  obtain ⟨b, hb⟩ : ∃ b, (cntB n.k).2 = b := ⟨_, rfl⟩
  rw [ha, hb] at c1 HZ
  clear ha hb
  obtain ⟨m, hm⟩ : ∃ m, m = n.names.length := ⟨_, rfl⟩
  rw [← hm] at hnames HZ
  rw [← hm] at HLN ⊢
  have HM := Lib.hid hm
  clear hm
  have hal : Below w.heap.size w (w.alloc (.cells #[.int .u8 (n.k : Int), .int .i64 n.n, .string n.name, .slice an m cn, .slice ak n.kids.length ck, .int .i64 n.line] 30)) := (Below.refl _ _).alloc (Nat.le_refl _) _
  have hbox := new_block w (.cells #[.int .u8 (n.k : Int), .int .i64 n.n, .string n.name, .slice an m cn, .slice ak n.kids.length ck, .int .i64 n.line] 30)
  have HAL := Lib.hid hal
  have HBOX := Lib.hid hbox
  clear hal hbox
  by_cases h1 : (m : Int) < a
  · have e : Z = false := by
      rw [← HZ.out, decide_eq_false (fun h => by omega)]; rfl
    go_enter Try.func15, Try.ntmps15
    go_wp2_with (go_at_call 33; refine (c1 _).mono ?_; rintro e w' ⟨rfl, rfl⟩)
    go_ret
    exact ⟨ret_bool e.symm, HAL.out⟩
  by_cases h2 : (b : Int) < m
  · have e : Z = false := by
      rw [← HZ.out, decide_eq_false (fun h => by omega)]; rfl
    go_enter Try.func15, Try.ntmps15
    go_wp2_with (go_at_call 33; refine (c1 _).mono ?_; rintro e w' ⟨rfl, rfl⟩)
    go_ret
    exact ⟨ret_bool e.symm, HAL.out⟩
  have hz : Z = (n.names.all nmD && (nameB nmD n.k n.name && numB n.k n.n)) := by
    rw [← HZ.out, decide_eq_true (by omega), Bool.true_and]
  have HZ2 := Lib.hid hz
  clear hz HZ
  have h1n : ¬ m < a := by omega
  have h2n : ¬ b < m := by omega
  go_enter Try.func15, Try.ntmps15
  go_wp2_with (go_at_call 33; refine (c1 _).mono ?_; rintro e w' ⟨rfl, rfl⟩)
  clear c1
  obtain ⟨w2, hw2⟩ : ∃ w2, w2 = w.alloc (.cells #[.int .u8 (n.k : Int), .int .i64 n.n, .string n.name, .slice an m cn, .slice ak n.kids.length ck, .int .i64 n.line] 30) := ⟨_, rfl⟩
  rw [← hw2] at HAL HBOX
  rw [← hw2]
  clear hw2
  go_loopg [28] m (fun r i wr => ∃ k : Nat, r = m - k ∧ i = .int .i64 (k : Int) ∧ k ≤ m ∧ Below w2.heap.size w2 wr ∧ n.names.all nmD = (n.names.drop k).all nmD)
  case atStart => exact ⟨0, rfl, rfl, Nat.zero_le _, Below.refl _ _, rfl⟩
  case round =>
    obtain ⟨k, rfl, rfl, hk, hb, hall⟩ := hrel
    have HA := Lib.hid hall
    have HB2 := Lib.hid (HAL.out.trans (hb.mono HAL.out.size))
    have HBr := Lib.hid hb
    have hbox := (hb.block _ (lt_of_get HBOX.out)).trans HBOX.out
    clear hb hall
    by_cases hlt : k < m
    · have hlt' : (k : Int) < m := by omega
      have hkk : k < n.names.length := by have := HM.out; omega
      obtain ⟨gk, offk, rfl, hck⟩ := (HLN.out.below HB2.out).text hkk
      have hst : (n.names.drop k).all nmD = (nmD n.names[k] && (n.names.drop (k + 1)).all nmD) := by rw [List.drop_eq_getElem_cons hkk, List.all_cons]
      obtain ⟨z, hz⟩ : ∃ z, n.names[k] = z := ⟨_, rfl⟩
      rw [hz] at hck hst
      have HST := Lib.hid hst
      have c := own_name z wr
      clear hst hz hbox
      generalize nmD z = R at *
      cases R with
      | false =>
        go_wp2_with fail
        refine c.mono ?_
        rintro e w3 ⟨rfl, b3⟩
        have HB3 := Lib.hid (HB2.out.trans (b3.mono HB2.out.size))
        clear b3
        go_wp2_with fail
        go_ret
        exact ⟨ret_bool (by rw [HZ2.out, HA.out, HST.out]; rfl), HB3.out⟩
      | true =>
        go_wp2_with fail
        refine c.mono ?_
        rintro e w3 ⟨rfl, b3⟩
        have HB3 := Lib.hid (grew_trans HBr.out b3)
        clear b3
        go_wp2_with fail
        go_roundg (m - (k + 1))
        case measure => omega
        case rel => exact ⟨k + 1, rfl, by go_num, by omega, HB3.out, by rw [HA.out, HST.out]; rfl⟩
    · obtain rfl : k = m := by omega
      have hlt' : ¬ (k : Int) < k := by omega
      have c0 := cell_of hbox 0 (.int .u8 (n.k : Int)) rfl
      have c1 := cell_of hbox 1 (.int .i64 n.n) rfl
      have c2 := cell_of hbox 2 (.string n.name) rfl
      have c3 := cell_of hbox 3 (.slice an k cn) rfl
      have c4 := cell_of hbox 4 (.slice ak n.kids.length ck) rfl
      have c5 := cell_of hbox 5 (.int .i64 n.line) rfl
      have hz : Z = (nameB nmD n.k n.name && numB n.k n.n) := by
        rw [HZ2.out, HA.out, List.drop_of_length_le (by have := HM.out; omega)]; rfl
      have HZ3 := Lib.hid hz
      have d1 := own_nameFits n.k n.n n.line n.name an ak k cn n.kids.length ck wr
      have d2 := fun w => own_numFits n.k n.n n.line n.name an ak k cn n.kids.length ck w
      have HX := Lib.hid hbox
      clear hz hbox
      generalize nameB nmD n.k n.name = R at *
      generalize numB n.k n.n = R2 at *
      cases R with
      | false =>
        go_wp2_with fail
        refine d1.mono ?_
        rintro e w3 ⟨rfl, b3⟩
        have HB3 := Lib.hid (HB2.out.trans (b3.mono HB2.out.size))
        clear b3
        go_wp2_with fail
        go_ret
        exact ⟨ret_bool HZ3.out.symm, HB3.out⟩
      | true =>
        go_wp2_with fail
        refine d1.mono ?_
        rintro e w3 ⟨rfl, b3⟩
        have HB3 := Lib.hid (HB2.out.trans (b3.mono HB2.out.size))
        have hbox := (b3.block _ (lt_of_get HX.out)).trans HX.out
        have c0 := cell_of hbox 0 (.int .u8 (n.k : Int)) rfl
        have c1 := cell_of hbox 1 (.int .i64 n.n) rfl
        have c2 := cell_of hbox 2 (.string n.name) rfl
        have c3 := cell_of hbox 3 (.slice an k cn) rfl
        have c4 := cell_of hbox 4 (.slice ak n.kids.length ck) rfl
        have c5 := cell_of hbox 5 (.int .i64 n.line) rfl
        clear b3 hbox
        go_wp2_with fail
        refine (d2 _).mono ?_
        rintro e w4 ⟨rfl, b4⟩
        have HB4 := Lib.hid (HB3.out.trans (b4.mono HB3.out.size))
        clear b4
        go_wp2_with fail
        go_ret
        exact ⟨ret_bool HZ3.out.symm, HB4.out⟩

/-- How much kid i binds. -/
def kidBinds (l : List Nd) (n : Nd) (i : Nat) : Nat := bindD (at' l (n.kids.getD i 0)).k (at' l (n.kids.getD i 0)).n
theorem bind_le (k : Nat) (n : Int) : bindD k n ≤ 12 := by
  unfold bindD opD
  repeat' split
  all_goals omega

theorem own_operand (i : Nat) (q1 q2 : Nat) (ao : Option Addr) (N c : Nat) (l : List Nd) (root : Int) (n : Nd) (an : Option Addr) (cn : Nat) (ak : Option Addr) (ck : Nat) (w : World)
    (h1 : w.heap[q1]? = some (.cells #[.slice ao N c, .int .i64 root] 24 (0, 0))) (h2 : w.heap[q2]? = some (.cells #[.int .u8 (n.k : Int), .int .i64 n.n, .string n.name, .slice an n.names.length cn, .slice ak n.kids.length ck, .int .i64 n.line] 30 (0, 0)))
    (hNd : NodesAt w (.slice ao N c) l) (hN : N = l.length) (hLk : Lst w (.slice ak n.kids.length ck) (n.kids.map (.int .i64))) (hin : ∀ c ∈ n.kids, inR l c) (hi : i < n.kids.length) :
    Calls Try.prog 44 #[.int .i64 (i : Int), .pointer (some ⟨q1, 0, none⟩), .pointer (some ⟨q2, 0, none⟩)] w fun e w' => e = .returned (.int .i64 (kidBinds l n i : Int)) ∧ Below w.heap.size w w' := by
  have c10 := cell_of h1 0 _ rfl
  have c24 := cell_of h2 4 _ rfl
  obtain ⟨gk, offk, rfl, hck⟩ := hLk.int hi
  have hz0 : n.kids[i] = n.kids.getD i 0 := by rw [List.getD_eq_getElem?_getD, List.getElem?_eq_getElem hi]; rfl
  have hzin := hin _ (List.getElem_mem hi)
  rw [hz0] at hck hzin
  unfold kidBinds
  obtain ⟨z, hz⟩ : ∃ z, n.kids.getD i 0 = z := ⟨_, rfl⟩
  rw [hz] at hck hzin ⊢
  obtain ⟨d, rfl, hd⟩ := of_inR hzin
  obtain ⟨g, off, hg, rfl, hnd⟩ := hNd.at hd
  obtain ⟨an', cn', ak', ck', e0, e1, e2, e3, e4, e5, _⟩ := hnd.open
  have hdN : (d : Int) < N := by omega
  have hd0 : (0 : Int) ≤ d := Int.natCast_nonneg d
  have hi0 : (0 : Int) ≤ i := Int.natCast_nonneg i
  have hik : (i : Int) < n.kids.length := by omega
  obtain ⟨m, hm⟩ : ∃ m, m = n.kids.length := ⟨_, rfl⟩
  have b := fun w => own_binds (at' l (d : Int)).k (at' l (d : Int)).n (at' l (d : Int)).line (at' l (d : Int)).name an' ak' (at' l (d : Int)).names.length cn' (at' l (d : Int)).kids.length ck' w
  generalize at' l (d : Int) = nd at *
  rw [← hm] at hik c24
  clear h1 h2 hNd hLk hin hz0 hi hz hzin hd hnd hN hm
  go_enter Try.func44, Try.ntmps44
  go_wp2_with fail
  go_still_tail 9, (by kernel_rfl)
  change wpList _ _ _ _ _ w.drew
  go_wp2_with fail
  refine (b _).mono ?_
  rintro e w1 ⟨rfl, b1⟩
  have HB1 := Lib.hid b1
  clear b1
  go_wp2_with fail
  go_ret
  exact ⟨rfl, ((Below.refl w.heap.size w).drew).trans HB1.out⟩

theorem kb_kinds (l : List Nd) (n : Nd) (i : Nat) (h : i < n.kids.length) : kb (kinds l n) i = kidBinds l n i := by
  have e : (kinds l n).getD i (0, 0) = ((at' l (n.kids.getD i 0)).k, (at' l (n.kids.getD i 0)).n) := by
    unfold kinds
    rw [List.getD_eq_getElem?_getD, List.getElem?_map, List.getD_eq_getElem?_getD, List.getElem?_eq_getElem h]
    rfl
  unfold kb kidBinds
  rw [e]

set_option maxHeartbeats 4000000 in
theorem opf34 (v : Value) (l : List Nd) (root : Int) (x li : Int) (s : ByteArray) (ns : List ByteArray) (ks : List Int) (an ak : Option Addr) (cn ck : Nat) (w : World) (hS : SynAt w v l root) (hLk : Lst w (.slice ak ks.length ck) (ks.map (.int .i64))) (hin : ∀ c ∈ ks, inR l c) (hl : 1 ≤ ks.length) :
    Calls Try.prog 18 #[v, .agg #[.int .u8 34, .int .i64 x, .string s, .slice an ns.length cn, .slice ak ks.length ck, .int .i64 li]] w fun e w' => e = .returned (.bool (decide (bindD 34 x ≤ kidBinds l ⟨34, x, s, ns, ks, li⟩ 0))) ∧ Below w.heap.size w w' := by
  obtain ⟨ao, c, rfl, hNd, hr⟩ := hS.open
  obtain ⟨Z, hZ⟩ : ∃ Z, (decide (bindD 34 x ≤ kidBinds l ⟨34, x, s, ns, ks, li⟩ 0)) = Z := ⟨_, rfl⟩
  rw [hZ]
  have HZ := Lib.hid hZ
  clear hZ hS hr
  obtain ⟨N, hN⟩ : ∃ N, N = l.length := ⟨_, rfl⟩
  rw [← hN] at hNd ⊢
  have hal : Below w.heap.size w ((w.alloc (.cells #[.slice ao N c, .int .i64 root] 24)).alloc (.cells #[.int .u8 34, .int .i64 x, .string s, .slice an ns.length cn, .slice ak ks.length ck, .int .i64 li] 30)) := ((Below.refl _ _).alloc (Nat.le_refl _) _).alloc (by simp) _
  have hb1 : ((w.alloc (.cells #[.slice ao N c, .int .i64 root] 24)).alloc (.cells #[.int .u8 34, .int .i64 x, .string s, .slice an ns.length cn, .slice ak ks.length ck, .int .i64 li] 30)).heap[w.heap.size]? = some (.cells #[.slice ao N c, .int .i64 root] 24 (0, 0)) := (Below.heap_alloc _ _ _ (by simp)).trans (new_block w _)
  have hb2 : ((w.alloc (.cells #[.slice ao N c, .int .i64 root] 24)).alloc (.cells #[.int .u8 34, .int .i64 x, .string s, .slice an ns.length cn, .slice ak ks.length ck, .int .i64 li] 30)).heap[w.heap.size + 1]? = some (.cells #[.int .u8 34, .int .i64 x, .string s, .slice an ns.length cn, .slice ak ks.length ck, .int .i64 li] 30 (0, 0)) := by
    have := new_block (w.alloc (.cells #[.slice ao N c, .int .i64 root] 24)) (.cells #[.int .u8 34, .int .i64 x, .string s, .slice an ns.length cn, .slice ak ks.length ck, .int .i64 li] 30)
    rwa [World.size_alloc] at this
  have bb := fun w => own_binds 34 x li s an ak ns.length cn ks.length ck w
  have hown : bindD 34 x ≤ 12 := bind_le _ _
  have OPS0 := Lib.hid (fun (W : World) (hW : Below w.heap.size w W) (h1 : W.heap[w.heap.size]? = some (.cells #[.slice ao N c, .int .i64 root] 24 (0, 0))) (h2 : W.heap[w.heap.size + 1]? = some (.cells #[.int .u8 34, .int .i64 x, .string s, .slice an ns.length cn, .slice ak ks.length ck, .int .i64 li] 30 (0, 0))) (hi : 0 < ks.length) =>
    own_operand 0 w.heap.size (w.heap.size + 1) ao N c l root ⟨34, x, s, ns, ks, li⟩ an cn ak ck W h1 h2 (hNd.below hW) hN (hLk.below hW) hin hi)
  have OPS1 := Lib.hid (fun (W : World) (hW : Below w.heap.size w W) (h1 : W.heap[w.heap.size]? = some (.cells #[.slice ao N c, .int .i64 root] 24 (0, 0))) (h2 : W.heap[w.heap.size + 1]? = some (.cells #[.int .u8 34, .int .i64 x, .string s, .slice an ns.length cn, .slice ak ks.length ck, .int .i64 li] 30 (0, 0))) (hi : 1 < ks.length) =>
    own_operand 1 w.heap.size (w.heap.size + 1) ao N c l root ⟨34, x, s, ns, ks, li⟩ an cn ak ck W h1 h2 (hNd.below hW) hN (hLk.below hW) hin hi)
  have k0 : kidBinds l ⟨34, x, s, ns, ks, li⟩ 0 ≤ 12 := bind_le _ _
  have k1 : kidBinds l ⟨34, x, s, ns, ks, li⟩ 1 ≤ 12 := bind_le _ _
  have HAL := Lib.hid hal
  have HB1 := Lib.hid hb1
  have HB2 := Lib.hid hb2
  clear hal hb1 hb2 hLk hNd hin hN
  generalize bindD 34 x = own at *
  generalize kidBinds l ⟨34, x, s, ns, ks, li⟩ 0 = o0 at *
  generalize kidBinds l ⟨34, x, s, ns, ks, li⟩ 1 = o1 at *
  go_enter Try.func18, Try.ntmps18
  go_wp2_with fail
  refine (bb _).mono ?_
  rintro e w3 ⟨rfl, b3⟩
  have HB3 := Lib.hid (HAL.out.trans (b3.mono HAL.out.size))
  have x1 := (b3.block _ (lt_of_get HB1.out)).trans HB1.out
  have x2 := (b3.block _ (lt_of_get HB2.out)).trans HB2.out
  have c0 := cell_of x2 0 _ rfl
  have c1 := cell_of x2 1 _ rfl
  have HX1 := Lib.hid x1
  have HX2 := Lib.hid x2
  clear b3 x1 x2 bb HAL HB1 HB2
  go_wp2_with fail
  refine (OPS0.out w3 HB3.out HX1.out HX2.out (by omega)).mono ?_
  rintro e w4 ⟨rfl, b4⟩
  have HB4 := Lib.hid (HB3.out.trans (b4.mono HB3.out.size))
  clear b4
  go_wp2_with fail
  go_ret
  refine ⟨ret_bool ?_, HB4.out⟩
  rw [← HZ.out]

set_option maxHeartbeats 4000000 in
theorem opf31c (v : Value) (l : List Nd) (root : Int) (li : Int) (s : ByteArray) (ns : List ByteArray) (ks : List Int) (an ak : Option Addr) (cn ck : Nat) (w : World) (hS : SynAt w v l root) (hLk : Lst w (.slice ak ks.length ck) (ks.map (.int .i64))) (hin : ∀ c ∈ ks, inR l c) (hl : 2 ≤ ks.length) :
    Calls Try.prog 18 #[v, .agg #[.int .u8 31, (.int .i64 11), .string s, .slice an ns.length cn, .slice ak ks.length ck, .int .i64 li]] w fun e w' => e = .returned (.bool (decide (bindD 31 11 < kidBinds l ⟨31, 11, s, ns, ks, li⟩ 0 ∧ bindD 31 11 ≤ kidBinds l ⟨31, 11, s, ns, ks, li⟩ 1))) ∧ Below w.heap.size w w' := by
  obtain ⟨ao, c, rfl, hNd, hr⟩ := hS.open
  obtain ⟨Z, hZ⟩ : ∃ Z, (decide (bindD 31 11 < kidBinds l ⟨31, 11, s, ns, ks, li⟩ 0 ∧ bindD 31 11 ≤ kidBinds l ⟨31, 11, s, ns, ks, li⟩ 1)) = Z := ⟨_, rfl⟩
  rw [hZ]
  have HZ := Lib.hid hZ
  clear hZ hS hr
  obtain ⟨N, hN⟩ : ∃ N, N = l.length := ⟨_, rfl⟩
  rw [← hN] at hNd ⊢
  have hal : Below w.heap.size w ((w.alloc (.cells #[.slice ao N c, .int .i64 root] 24)).alloc (.cells #[.int .u8 31, (.int .i64 11), .string s, .slice an ns.length cn, .slice ak ks.length ck, .int .i64 li] 30)) := ((Below.refl _ _).alloc (Nat.le_refl _) _).alloc (by simp) _
  have hb1 : ((w.alloc (.cells #[.slice ao N c, .int .i64 root] 24)).alloc (.cells #[.int .u8 31, (.int .i64 11), .string s, .slice an ns.length cn, .slice ak ks.length ck, .int .i64 li] 30)).heap[w.heap.size]? = some (.cells #[.slice ao N c, .int .i64 root] 24 (0, 0)) := (Below.heap_alloc _ _ _ (by simp)).trans (new_block w _)
  have hb2 : ((w.alloc (.cells #[.slice ao N c, .int .i64 root] 24)).alloc (.cells #[.int .u8 31, (.int .i64 11), .string s, .slice an ns.length cn, .slice ak ks.length ck, .int .i64 li] 30)).heap[w.heap.size + 1]? = some (.cells #[.int .u8 31, (.int .i64 11), .string s, .slice an ns.length cn, .slice ak ks.length ck, .int .i64 li] 30 (0, 0)) := by
    have := new_block (w.alloc (.cells #[.slice ao N c, .int .i64 root] 24)) (.cells #[.int .u8 31, (.int .i64 11), .string s, .slice an ns.length cn, .slice ak ks.length ck, .int .i64 li] 30)
    rwa [World.size_alloc] at this
  have bb := fun w => own_binds 31 11 li s an ak ns.length cn ks.length ck w
  have hown : bindD 31 11 ≤ 12 := bind_le _ _
  have OPS0 := Lib.hid (fun (W : World) (hW : Below w.heap.size w W) (h1 : W.heap[w.heap.size]? = some (.cells #[.slice ao N c, .int .i64 root] 24 (0, 0))) (h2 : W.heap[w.heap.size + 1]? = some (.cells #[.int .u8 31, (.int .i64 11), .string s, .slice an ns.length cn, .slice ak ks.length ck, .int .i64 li] 30 (0, 0))) (hi : 0 < ks.length) =>
    own_operand 0 w.heap.size (w.heap.size + 1) ao N c l root ⟨31, 11, s, ns, ks, li⟩ an cn ak ck W h1 h2 (hNd.below hW) hN (hLk.below hW) hin hi)
  have OPS1 := Lib.hid (fun (W : World) (hW : Below w.heap.size w W) (h1 : W.heap[w.heap.size]? = some (.cells #[.slice ao N c, .int .i64 root] 24 (0, 0))) (h2 : W.heap[w.heap.size + 1]? = some (.cells #[.int .u8 31, (.int .i64 11), .string s, .slice an ns.length cn, .slice ak ks.length ck, .int .i64 li] 30 (0, 0))) (hi : 1 < ks.length) =>
    own_operand 1 w.heap.size (w.heap.size + 1) ao N c l root ⟨31, 11, s, ns, ks, li⟩ an cn ak ck W h1 h2 (hNd.below hW) hN (hLk.below hW) hin hi)
  have k0 : kidBinds l ⟨31, 11, s, ns, ks, li⟩ 0 ≤ 12 := bind_le _ _
  have k1 : kidBinds l ⟨31, 11, s, ns, ks, li⟩ 1 ≤ 12 := bind_le _ _
  have HAL := Lib.hid hal
  have HB1 := Lib.hid hb1
  have HB2 := Lib.hid hb2
  clear hal hb1 hb2 hLk hNd hin hN
  generalize bindD 31 11 = own at *
  generalize kidBinds l ⟨31, 11, s, ns, ks, li⟩ 0 = o0 at *
  generalize kidBinds l ⟨31, 11, s, ns, ks, li⟩ 1 = o1 at *
  go_enter Try.func18, Try.ntmps18
  go_wp2_with fail
  refine (bb _).mono ?_
  rintro e w3 ⟨rfl, b3⟩
  have HB3 := Lib.hid (HAL.out.trans (b3.mono HAL.out.size))
  have x1 := (b3.block _ (lt_of_get HB1.out)).trans HB1.out
  have x2 := (b3.block _ (lt_of_get HB2.out)).trans HB2.out
  have c0 := cell_of x2 0 _ rfl
  have c1 := cell_of x2 1 _ rfl
  have HX1 := Lib.hid x1
  have HX2 := Lib.hid x2
  clear b3 x1 x2 bb HAL HB1 HB2
  by_cases g1 : (own : Int) < (o0 : Int)
  · have g1n : own < o0 := by omega
    go_wp2_with fail
    refine (OPS0.out w3 HB3.out HX1.out HX2.out (by omega)).mono ?_
    rintro e w4 ⟨rfl, b4⟩
    have HB4 := Lib.hid (HB3.out.trans (b4.mono HB3.out.size))
    have HY1 := Lib.hid ((b4.block _ (lt_of_get HX1.out)).trans HX1.out)
    have HY2 := Lib.hid ((b4.block _ (lt_of_get HX2.out)).trans HX2.out)
    clear b4
    go_wp2_with fail
    refine (OPS1.out w4 HB4.out HY1.out HY2.out (by omega)).mono ?_
    rintro e w5 ⟨rfl, b5⟩
    have HB5 := Lib.hid (HB4.out.trans (b5.mono HB4.out.size))
    clear b5
    go_wp2_with fail
    go_ret
    refine ⟨ret_bool ?_, HB5.out⟩
    rw [← HZ.out, Bool.eq_iff_iff]
    simp
    omega
  · have g1n : ¬ (own < o0) := by omega
    go_wp2_with fail
    refine (OPS0.out w3 HB3.out HX1.out HX2.out (by omega)).mono ?_
    rintro e w4 ⟨rfl, b4⟩
    have HB4 := Lib.hid (HB3.out.trans (b4.mono HB3.out.size))
    clear b4
    go_wp2_with fail
    go_ret
    refine ⟨ret_bool ?_, HB4.out⟩
    rw [← HZ.out]
    rw [decide_eq_false (by omega)]

set_option maxHeartbeats 4000000 in
theorem opf31 (v : Value) (l : List Nd) (root : Int) (x li : Int) (s : ByteArray) (ns : List ByteArray) (ks : List Int) (an ak : Option Addr) (cn ck : Nat) (w : World) (hS : SynAt w v l root) (hLk : Lst w (.slice ak ks.length ck) (ks.map (.int .i64))) (hin : ∀ c ∈ ks, inR l c) (hx : ¬ x = 11) (hl : 2 ≤ ks.length) :
    Calls Try.prog 18 #[v, .agg #[.int .u8 31, .int .i64 x, .string s, .slice an ns.length cn, .slice ak ks.length ck, .int .i64 li]] w fun e w' => e = .returned (.bool (decide (bindD 31 x ≤ kidBinds l ⟨31, x, s, ns, ks, li⟩ 0 ∧ bindD 31 x < kidBinds l ⟨31, x, s, ns, ks, li⟩ 1))) ∧ Below w.heap.size w w' := by
  obtain ⟨ao, c, rfl, hNd, hr⟩ := hS.open
  obtain ⟨Z, hZ⟩ : ∃ Z, (decide (bindD 31 x ≤ kidBinds l ⟨31, x, s, ns, ks, li⟩ 0 ∧ bindD 31 x < kidBinds l ⟨31, x, s, ns, ks, li⟩ 1)) = Z := ⟨_, rfl⟩
  rw [hZ]
  have HZ := Lib.hid hZ
  clear hZ hS hr
  obtain ⟨N, hN⟩ : ∃ N, N = l.length := ⟨_, rfl⟩
  rw [← hN] at hNd ⊢
  have hal : Below w.heap.size w ((w.alloc (.cells #[.slice ao N c, .int .i64 root] 24)).alloc (.cells #[.int .u8 31, .int .i64 x, .string s, .slice an ns.length cn, .slice ak ks.length ck, .int .i64 li] 30)) := ((Below.refl _ _).alloc (Nat.le_refl _) _).alloc (by simp) _
  have hb1 : ((w.alloc (.cells #[.slice ao N c, .int .i64 root] 24)).alloc (.cells #[.int .u8 31, .int .i64 x, .string s, .slice an ns.length cn, .slice ak ks.length ck, .int .i64 li] 30)).heap[w.heap.size]? = some (.cells #[.slice ao N c, .int .i64 root] 24 (0, 0)) := (Below.heap_alloc _ _ _ (by simp)).trans (new_block w _)
  have hb2 : ((w.alloc (.cells #[.slice ao N c, .int .i64 root] 24)).alloc (.cells #[.int .u8 31, .int .i64 x, .string s, .slice an ns.length cn, .slice ak ks.length ck, .int .i64 li] 30)).heap[w.heap.size + 1]? = some (.cells #[.int .u8 31, .int .i64 x, .string s, .slice an ns.length cn, .slice ak ks.length ck, .int .i64 li] 30 (0, 0)) := by
    have := new_block (w.alloc (.cells #[.slice ao N c, .int .i64 root] 24)) (.cells #[.int .u8 31, .int .i64 x, .string s, .slice an ns.length cn, .slice ak ks.length ck, .int .i64 li] 30)
    rwa [World.size_alloc] at this
  have bb := fun w => own_binds 31 x li s an ak ns.length cn ks.length ck w
  have hown : bindD 31 x ≤ 12 := bind_le _ _
  have OPS0 := Lib.hid (fun (W : World) (hW : Below w.heap.size w W) (h1 : W.heap[w.heap.size]? = some (.cells #[.slice ao N c, .int .i64 root] 24 (0, 0))) (h2 : W.heap[w.heap.size + 1]? = some (.cells #[.int .u8 31, .int .i64 x, .string s, .slice an ns.length cn, .slice ak ks.length ck, .int .i64 li] 30 (0, 0))) (hi : 0 < ks.length) =>
    own_operand 0 w.heap.size (w.heap.size + 1) ao N c l root ⟨31, x, s, ns, ks, li⟩ an cn ak ck W h1 h2 (hNd.below hW) hN (hLk.below hW) hin hi)
  have OPS1 := Lib.hid (fun (W : World) (hW : Below w.heap.size w W) (h1 : W.heap[w.heap.size]? = some (.cells #[.slice ao N c, .int .i64 root] 24 (0, 0))) (h2 : W.heap[w.heap.size + 1]? = some (.cells #[.int .u8 31, .int .i64 x, .string s, .slice an ns.length cn, .slice ak ks.length ck, .int .i64 li] 30 (0, 0))) (hi : 1 < ks.length) =>
    own_operand 1 w.heap.size (w.heap.size + 1) ao N c l root ⟨31, x, s, ns, ks, li⟩ an cn ak ck W h1 h2 (hNd.below hW) hN (hLk.below hW) hin hi)
  have k0 : kidBinds l ⟨31, x, s, ns, ks, li⟩ 0 ≤ 12 := bind_le _ _
  have k1 : kidBinds l ⟨31, x, s, ns, ks, li⟩ 1 ≤ 12 := bind_le _ _
  have HAL := Lib.hid hal
  have HB1 := Lib.hid hb1
  have HB2 := Lib.hid hb2
  clear hal hb1 hb2 hLk hNd hin hN
  generalize bindD 31 x = own at *
  generalize kidBinds l ⟨31, x, s, ns, ks, li⟩ 0 = o0 at *
  generalize kidBinds l ⟨31, x, s, ns, ks, li⟩ 1 = o1 at *
  go_enter Try.func18, Try.ntmps18
  go_wp2_with fail
  refine (bb _).mono ?_
  rintro e w3 ⟨rfl, b3⟩
  have HB3 := Lib.hid (HAL.out.trans (b3.mono HAL.out.size))
  have x1 := (b3.block _ (lt_of_get HB1.out)).trans HB1.out
  have x2 := (b3.block _ (lt_of_get HB2.out)).trans HB2.out
  have c0 := cell_of x2 0 _ rfl
  have c1 := cell_of x2 1 _ rfl
  have HX1 := Lib.hid x1
  have HX2 := Lib.hid x2
  clear b3 x1 x2 bb HAL HB1 HB2
  by_cases g1 : (own : Int) ≤ (o0 : Int)
  · have g1n : own ≤ o0 := by omega
    go_wp2_with fail
    refine (OPS0.out w3 HB3.out HX1.out HX2.out (by omega)).mono ?_
    rintro e w4 ⟨rfl, b4⟩
    have HB4 := Lib.hid (HB3.out.trans (b4.mono HB3.out.size))
    have HY1 := Lib.hid ((b4.block _ (lt_of_get HX1.out)).trans HX1.out)
    have HY2 := Lib.hid ((b4.block _ (lt_of_get HX2.out)).trans HX2.out)
    clear b4
    go_wp2_with fail
    refine (OPS1.out w4 HB4.out HY1.out HY2.out (by omega)).mono ?_
    rintro e w5 ⟨rfl, b5⟩
    have HB5 := Lib.hid (HB4.out.trans (b5.mono HB4.out.size))
    clear b5
    go_wp2_with fail
    go_ret
    refine ⟨ret_bool ?_, HB5.out⟩
    rw [← HZ.out, Bool.eq_iff_iff]
    simp
    omega
  · have g1n : ¬ (own ≤ o0) := by omega
    go_wp2_with fail
    refine (OPS0.out w3 HB3.out HX1.out HX2.out (by omega)).mono ?_
    rintro e w4 ⟨rfl, b4⟩
    have HB4 := Lib.hid (HB3.out.trans (b4.mono HB3.out.size))
    clear b4
    go_wp2_with fail
    go_ret
    refine ⟨ret_bool ?_, HB4.out⟩
    rw [← HZ.out]
    rw [decide_eq_false (by omega)]

set_option maxHeartbeats 4000000 in
theorem opf32 (v : Value) (l : List Nd) (root : Int) (x li : Int) (s : ByteArray) (ns : List ByteArray) (ks : List Int) (an ak : Option Addr) (cn ck : Nat) (w : World) (hS : SynAt w v l root) (hLk : Lst w (.slice ak ks.length ck) (ks.map (.int .i64))) (hin : ∀ c ∈ ks, inR l c) (hl : 2 ≤ ks.length) :
    Calls Try.prog 18 #[v, .agg #[.int .u8 32, .int .i64 x, .string s, .slice an ns.length cn, .slice ak ks.length ck, .int .i64 li]] w fun e w' => e = .returned (.bool (decide (bindD 32 x ≤ kidBinds l ⟨32, x, s, ns, ks, li⟩ 0 ∧ bindD 32 x < kidBinds l ⟨32, x, s, ns, ks, li⟩ 1))) ∧ Below w.heap.size w w' := by
  obtain ⟨ao, c, rfl, hNd, hr⟩ := hS.open
  obtain ⟨Z, hZ⟩ : ∃ Z, (decide (bindD 32 x ≤ kidBinds l ⟨32, x, s, ns, ks, li⟩ 0 ∧ bindD 32 x < kidBinds l ⟨32, x, s, ns, ks, li⟩ 1)) = Z := ⟨_, rfl⟩
  rw [hZ]
  have HZ := Lib.hid hZ
  clear hZ hS hr
  obtain ⟨N, hN⟩ : ∃ N, N = l.length := ⟨_, rfl⟩
  rw [← hN] at hNd ⊢
  have hal : Below w.heap.size w ((w.alloc (.cells #[.slice ao N c, .int .i64 root] 24)).alloc (.cells #[.int .u8 32, .int .i64 x, .string s, .slice an ns.length cn, .slice ak ks.length ck, .int .i64 li] 30)) := ((Below.refl _ _).alloc (Nat.le_refl _) _).alloc (by simp) _
  have hb1 : ((w.alloc (.cells #[.slice ao N c, .int .i64 root] 24)).alloc (.cells #[.int .u8 32, .int .i64 x, .string s, .slice an ns.length cn, .slice ak ks.length ck, .int .i64 li] 30)).heap[w.heap.size]? = some (.cells #[.slice ao N c, .int .i64 root] 24 (0, 0)) := (Below.heap_alloc _ _ _ (by simp)).trans (new_block w _)
  have hb2 : ((w.alloc (.cells #[.slice ao N c, .int .i64 root] 24)).alloc (.cells #[.int .u8 32, .int .i64 x, .string s, .slice an ns.length cn, .slice ak ks.length ck, .int .i64 li] 30)).heap[w.heap.size + 1]? = some (.cells #[.int .u8 32, .int .i64 x, .string s, .slice an ns.length cn, .slice ak ks.length ck, .int .i64 li] 30 (0, 0)) := by
    have := new_block (w.alloc (.cells #[.slice ao N c, .int .i64 root] 24)) (.cells #[.int .u8 32, .int .i64 x, .string s, .slice an ns.length cn, .slice ak ks.length ck, .int .i64 li] 30)
    rwa [World.size_alloc] at this
  have bb := fun w => own_binds 32 x li s an ak ns.length cn ks.length ck w
  have hown : bindD 32 x ≤ 12 := bind_le _ _
  have OPS0 := Lib.hid (fun (W : World) (hW : Below w.heap.size w W) (h1 : W.heap[w.heap.size]? = some (.cells #[.slice ao N c, .int .i64 root] 24 (0, 0))) (h2 : W.heap[w.heap.size + 1]? = some (.cells #[.int .u8 32, .int .i64 x, .string s, .slice an ns.length cn, .slice ak ks.length ck, .int .i64 li] 30 (0, 0))) (hi : 0 < ks.length) =>
    own_operand 0 w.heap.size (w.heap.size + 1) ao N c l root ⟨32, x, s, ns, ks, li⟩ an cn ak ck W h1 h2 (hNd.below hW) hN (hLk.below hW) hin hi)
  have OPS1 := Lib.hid (fun (W : World) (hW : Below w.heap.size w W) (h1 : W.heap[w.heap.size]? = some (.cells #[.slice ao N c, .int .i64 root] 24 (0, 0))) (h2 : W.heap[w.heap.size + 1]? = some (.cells #[.int .u8 32, .int .i64 x, .string s, .slice an ns.length cn, .slice ak ks.length ck, .int .i64 li] 30 (0, 0))) (hi : 1 < ks.length) =>
    own_operand 1 w.heap.size (w.heap.size + 1) ao N c l root ⟨32, x, s, ns, ks, li⟩ an cn ak ck W h1 h2 (hNd.below hW) hN (hLk.below hW) hin hi)
  have k0 : kidBinds l ⟨32, x, s, ns, ks, li⟩ 0 ≤ 12 := bind_le _ _
  have k1 : kidBinds l ⟨32, x, s, ns, ks, li⟩ 1 ≤ 12 := bind_le _ _
  have HAL := Lib.hid hal
  have HB1 := Lib.hid hb1
  have HB2 := Lib.hid hb2
  clear hal hb1 hb2 hLk hNd hin hN
  generalize bindD 32 x = own at *
  generalize kidBinds l ⟨32, x, s, ns, ks, li⟩ 0 = o0 at *
  generalize kidBinds l ⟨32, x, s, ns, ks, li⟩ 1 = o1 at *
  go_enter Try.func18, Try.ntmps18
  go_wp2_with fail
  refine (bb _).mono ?_
  rintro e w3 ⟨rfl, b3⟩
  have HB3 := Lib.hid (HAL.out.trans (b3.mono HAL.out.size))
  have x1 := (b3.block _ (lt_of_get HB1.out)).trans HB1.out
  have x2 := (b3.block _ (lt_of_get HB2.out)).trans HB2.out
  have c0 := cell_of x2 0 _ rfl
  have c1 := cell_of x2 1 _ rfl
  have HX1 := Lib.hid x1
  have HX2 := Lib.hid x2
  clear b3 x1 x2 bb HAL HB1 HB2
  by_cases g1 : (own : Int) ≤ (o0 : Int)
  · have g1n : own ≤ o0 := by omega
    go_wp2_with fail
    refine (OPS0.out w3 HB3.out HX1.out HX2.out (by omega)).mono ?_
    rintro e w4 ⟨rfl, b4⟩
    have HB4 := Lib.hid (HB3.out.trans (b4.mono HB3.out.size))
    have HY1 := Lib.hid ((b4.block _ (lt_of_get HX1.out)).trans HX1.out)
    have HY2 := Lib.hid ((b4.block _ (lt_of_get HX2.out)).trans HX2.out)
    clear b4
    go_wp2_with fail
    refine (OPS1.out w4 HB4.out HY1.out HY2.out (by omega)).mono ?_
    rintro e w5 ⟨rfl, b5⟩
    have HB5 := Lib.hid (HB4.out.trans (b5.mono HB4.out.size))
    clear b5
    go_wp2_with fail
    go_ret
    refine ⟨ret_bool ?_, HB5.out⟩
    rw [← HZ.out, Bool.eq_iff_iff]
    simp
    omega
  · have g1n : ¬ (own ≤ o0) := by omega
    go_wp2_with fail
    refine (OPS0.out w3 HB3.out HX1.out HX2.out (by omega)).mono ?_
    rintro e w4 ⟨rfl, b4⟩
    have HB4 := Lib.hid (HB3.out.trans (b4.mono HB3.out.size))
    clear b4
    go_wp2_with fail
    go_ret
    refine ⟨ret_bool ?_, HB4.out⟩
    rw [← HZ.out]
    rw [decide_eq_false (by omega)]

set_option maxHeartbeats 4000000 in
theorem opf33 (v : Value) (l : List Nd) (root : Int) (x li : Int) (s : ByteArray) (ns : List ByteArray) (ks : List Int) (an ak : Option Addr) (cn ck : Nat) (w : World) (hS : SynAt w v l root) (hLk : Lst w (.slice ak ks.length ck) (ks.map (.int .i64))) (hin : ∀ c ∈ ks, inR l c) (hl : 2 ≤ ks.length) :
    Calls Try.prog 18 #[v, .agg #[.int .u8 33, .int .i64 x, .string s, .slice an ns.length cn, .slice ak ks.length ck, .int .i64 li]] w fun e w' => e = .returned (.bool (decide (bindD 33 x ≤ kidBinds l ⟨33, x, s, ns, ks, li⟩ 0 ∧ bindD 33 x < kidBinds l ⟨33, x, s, ns, ks, li⟩ 1))) ∧ Below w.heap.size w w' := by
  obtain ⟨ao, c, rfl, hNd, hr⟩ := hS.open
  obtain ⟨Z, hZ⟩ : ∃ Z, (decide (bindD 33 x ≤ kidBinds l ⟨33, x, s, ns, ks, li⟩ 0 ∧ bindD 33 x < kidBinds l ⟨33, x, s, ns, ks, li⟩ 1)) = Z := ⟨_, rfl⟩
  rw [hZ]
  have HZ := Lib.hid hZ
  clear hZ hS hr
  obtain ⟨N, hN⟩ : ∃ N, N = l.length := ⟨_, rfl⟩
  rw [← hN] at hNd ⊢
  have hal : Below w.heap.size w ((w.alloc (.cells #[.slice ao N c, .int .i64 root] 24)).alloc (.cells #[.int .u8 33, .int .i64 x, .string s, .slice an ns.length cn, .slice ak ks.length ck, .int .i64 li] 30)) := ((Below.refl _ _).alloc (Nat.le_refl _) _).alloc (by simp) _
  have hb1 : ((w.alloc (.cells #[.slice ao N c, .int .i64 root] 24)).alloc (.cells #[.int .u8 33, .int .i64 x, .string s, .slice an ns.length cn, .slice ak ks.length ck, .int .i64 li] 30)).heap[w.heap.size]? = some (.cells #[.slice ao N c, .int .i64 root] 24 (0, 0)) := (Below.heap_alloc _ _ _ (by simp)).trans (new_block w _)
  have hb2 : ((w.alloc (.cells #[.slice ao N c, .int .i64 root] 24)).alloc (.cells #[.int .u8 33, .int .i64 x, .string s, .slice an ns.length cn, .slice ak ks.length ck, .int .i64 li] 30)).heap[w.heap.size + 1]? = some (.cells #[.int .u8 33, .int .i64 x, .string s, .slice an ns.length cn, .slice ak ks.length ck, .int .i64 li] 30 (0, 0)) := by
    have := new_block (w.alloc (.cells #[.slice ao N c, .int .i64 root] 24)) (.cells #[.int .u8 33, .int .i64 x, .string s, .slice an ns.length cn, .slice ak ks.length ck, .int .i64 li] 30)
    rwa [World.size_alloc] at this
  have bb := fun w => own_binds 33 x li s an ak ns.length cn ks.length ck w
  have hown : bindD 33 x ≤ 12 := bind_le _ _
  have OPS0 := Lib.hid (fun (W : World) (hW : Below w.heap.size w W) (h1 : W.heap[w.heap.size]? = some (.cells #[.slice ao N c, .int .i64 root] 24 (0, 0))) (h2 : W.heap[w.heap.size + 1]? = some (.cells #[.int .u8 33, .int .i64 x, .string s, .slice an ns.length cn, .slice ak ks.length ck, .int .i64 li] 30 (0, 0))) (hi : 0 < ks.length) =>
    own_operand 0 w.heap.size (w.heap.size + 1) ao N c l root ⟨33, x, s, ns, ks, li⟩ an cn ak ck W h1 h2 (hNd.below hW) hN (hLk.below hW) hin hi)
  have OPS1 := Lib.hid (fun (W : World) (hW : Below w.heap.size w W) (h1 : W.heap[w.heap.size]? = some (.cells #[.slice ao N c, .int .i64 root] 24 (0, 0))) (h2 : W.heap[w.heap.size + 1]? = some (.cells #[.int .u8 33, .int .i64 x, .string s, .slice an ns.length cn, .slice ak ks.length ck, .int .i64 li] 30 (0, 0))) (hi : 1 < ks.length) =>
    own_operand 1 w.heap.size (w.heap.size + 1) ao N c l root ⟨33, x, s, ns, ks, li⟩ an cn ak ck W h1 h2 (hNd.below hW) hN (hLk.below hW) hin hi)
  have k0 : kidBinds l ⟨33, x, s, ns, ks, li⟩ 0 ≤ 12 := bind_le _ _
  have k1 : kidBinds l ⟨33, x, s, ns, ks, li⟩ 1 ≤ 12 := bind_le _ _
  have HAL := Lib.hid hal
  have HB1 := Lib.hid hb1
  have HB2 := Lib.hid hb2
  clear hal hb1 hb2 hLk hNd hin hN
  generalize bindD 33 x = own at *
  generalize kidBinds l ⟨33, x, s, ns, ks, li⟩ 0 = o0 at *
  generalize kidBinds l ⟨33, x, s, ns, ks, li⟩ 1 = o1 at *
  go_enter Try.func18, Try.ntmps18
  go_wp2_with fail
  refine (bb _).mono ?_
  rintro e w3 ⟨rfl, b3⟩
  have HB3 := Lib.hid (HAL.out.trans (b3.mono HAL.out.size))
  have x1 := (b3.block _ (lt_of_get HB1.out)).trans HB1.out
  have x2 := (b3.block _ (lt_of_get HB2.out)).trans HB2.out
  have c0 := cell_of x2 0 _ rfl
  have c1 := cell_of x2 1 _ rfl
  have HX1 := Lib.hid x1
  have HX2 := Lib.hid x2
  clear b3 x1 x2 bb HAL HB1 HB2
  by_cases g1 : (own : Int) ≤ (o0 : Int)
  · have g1n : own ≤ o0 := by omega
    go_wp2_with fail
    refine (OPS0.out w3 HB3.out HX1.out HX2.out (by omega)).mono ?_
    rintro e w4 ⟨rfl, b4⟩
    have HB4 := Lib.hid (HB3.out.trans (b4.mono HB3.out.size))
    have HY1 := Lib.hid ((b4.block _ (lt_of_get HX1.out)).trans HX1.out)
    have HY2 := Lib.hid ((b4.block _ (lt_of_get HX2.out)).trans HX2.out)
    clear b4
    go_wp2_with fail
    refine (OPS1.out w4 HB4.out HY1.out HY2.out (by omega)).mono ?_
    rintro e w5 ⟨rfl, b5⟩
    have HB5 := Lib.hid (HB4.out.trans (b5.mono HB4.out.size))
    clear b5
    go_wp2_with fail
    go_ret
    refine ⟨ret_bool ?_, HB5.out⟩
    rw [← HZ.out, Bool.eq_iff_iff]
    simp
    omega
  · have g1n : ¬ (own ≤ o0) := by omega
    go_wp2_with fail
    refine (OPS0.out w3 HB3.out HX1.out HX2.out (by omega)).mono ?_
    rintro e w4 ⟨rfl, b4⟩
    have HB4 := Lib.hid (HB3.out.trans (b4.mono HB3.out.size))
    clear b4
    go_wp2_with fail
    go_ret
    refine ⟨ret_bool ?_, HB4.out⟩
    rw [← HZ.out]
    rw [decide_eq_false (by omega)]

set_option maxHeartbeats 4000000 in
theorem opf0 (v : Value) (l : List Nd) (root : Int) (k : Nat) (x li : Int) (s : ByteArray) (ns : List ByteArray) (ks : List Int) (an ak : Option Addr) (cn ck : Nat) (w : World) (hS : SynAt w v l root) (hLk : Lst w (.slice ak ks.length ck) (ks.map (.int .i64))) (hin : ∀ c ∈ ks, inR l c) (h34 : ¬ (k : Int) = 34) (h31 : ¬ (k : Int) = 31) (h32 : ¬ (k : Int) = 32) (h33 : ¬ (k : Int) = 33) :
    Calls Try.prog 18 #[v, .agg #[.int .u8 (k : Int), .int .i64 x, .string s, .slice an ns.length cn, .slice ak ks.length ck, .int .i64 li]] w fun e w' => e = .returned (.bool (true)) ∧ Below w.heap.size w w' := by
  obtain ⟨ao, c, rfl, hNd, hr⟩ := hS.open
  obtain ⟨Z, hZ⟩ : ∃ Z, (true) = Z := ⟨_, rfl⟩
  rw [hZ]
  have HZ := Lib.hid hZ
  clear hZ hS hr
  obtain ⟨N, hN⟩ : ∃ N, N = l.length := ⟨_, rfl⟩
  rw [← hN] at hNd ⊢
  have hal : Below w.heap.size w ((w.alloc (.cells #[.slice ao N c, .int .i64 root] 24)).alloc (.cells #[.int .u8 (k : Int), .int .i64 x, .string s, .slice an ns.length cn, .slice ak ks.length ck, .int .i64 li] 30)) := ((Below.refl _ _).alloc (Nat.le_refl _) _).alloc (by simp) _
  have hb1 : ((w.alloc (.cells #[.slice ao N c, .int .i64 root] 24)).alloc (.cells #[.int .u8 (k : Int), .int .i64 x, .string s, .slice an ns.length cn, .slice ak ks.length ck, .int .i64 li] 30)).heap[w.heap.size]? = some (.cells #[.slice ao N c, .int .i64 root] 24 (0, 0)) := (Below.heap_alloc _ _ _ (by simp)).trans (new_block w _)
  have hb2 : ((w.alloc (.cells #[.slice ao N c, .int .i64 root] 24)).alloc (.cells #[.int .u8 (k : Int), .int .i64 x, .string s, .slice an ns.length cn, .slice ak ks.length ck, .int .i64 li] 30)).heap[w.heap.size + 1]? = some (.cells #[.int .u8 (k : Int), .int .i64 x, .string s, .slice an ns.length cn, .slice ak ks.length ck, .int .i64 li] 30 (0, 0)) := by
    have := new_block (w.alloc (.cells #[.slice ao N c, .int .i64 root] 24)) (.cells #[.int .u8 (k : Int), .int .i64 x, .string s, .slice an ns.length cn, .slice ak ks.length ck, .int .i64 li] 30)
    rwa [World.size_alloc] at this
  have bb := fun w => own_binds k x li s an ak ns.length cn ks.length ck w
  have hown : bindD k x ≤ 12 := bind_le _ _
  have OPS0 := Lib.hid (fun (W : World) (hW : Below w.heap.size w W) (h1 : W.heap[w.heap.size]? = some (.cells #[.slice ao N c, .int .i64 root] 24 (0, 0))) (h2 : W.heap[w.heap.size + 1]? = some (.cells #[.int .u8 (k : Int), .int .i64 x, .string s, .slice an ns.length cn, .slice ak ks.length ck, .int .i64 li] 30 (0, 0))) (hi : 0 < ks.length) =>
    own_operand 0 w.heap.size (w.heap.size + 1) ao N c l root ⟨k, x, s, ns, ks, li⟩ an cn ak ck W h1 h2 (hNd.below hW) hN (hLk.below hW) hin hi)
  have OPS1 := Lib.hid (fun (W : World) (hW : Below w.heap.size w W) (h1 : W.heap[w.heap.size]? = some (.cells #[.slice ao N c, .int .i64 root] 24 (0, 0))) (h2 : W.heap[w.heap.size + 1]? = some (.cells #[.int .u8 (k : Int), .int .i64 x, .string s, .slice an ns.length cn, .slice ak ks.length ck, .int .i64 li] 30 (0, 0))) (hi : 1 < ks.length) =>
    own_operand 1 w.heap.size (w.heap.size + 1) ao N c l root ⟨k, x, s, ns, ks, li⟩ an cn ak ck W h1 h2 (hNd.below hW) hN (hLk.below hW) hin hi)
  have k0 : kidBinds l ⟨k, x, s, ns, ks, li⟩ 0 ≤ 12 := bind_le _ _
  have k1 : kidBinds l ⟨k, x, s, ns, ks, li⟩ 1 ≤ 12 := bind_le _ _
  have HAL := Lib.hid hal
  have HB1 := Lib.hid hb1
  have HB2 := Lib.hid hb2
  clear hal hb1 hb2 hLk hNd hin hN
  generalize bindD k x = own at *
  generalize kidBinds l ⟨k, x, s, ns, ks, li⟩ 0 = o0 at *
  generalize kidBinds l ⟨k, x, s, ns, ks, li⟩ 1 = o1 at *
  go_enter Try.func18, Try.ntmps18
  go_wp2_with fail
  refine (bb _).mono ?_
  rintro e w3 ⟨rfl, b3⟩
  have HB3 := Lib.hid (HAL.out.trans (b3.mono HAL.out.size))
  have x1 := (b3.block _ (lt_of_get HB1.out)).trans HB1.out
  have x2 := (b3.block _ (lt_of_get HB2.out)).trans HB2.out
  have c0 := cell_of x2 0 _ rfl
  have c1 := cell_of x2 1 _ rfl
  have HX1 := Lib.hid x1
  have HX2 := Lib.hid x2
  clear b3 x1 x2 bb HAL HB1 HB2
  go_wp2_with fail
  go_ret
  exact ⟨ret_bool HZ.out, HB3.out⟩

theorem own_operandsFit (v vn : Value) (l : List Nd) (root : Int) (n : Nd) (w : World) (hS : SynAt w v l root) (hN : NdV w vn n) (hin : ∀ c ∈ n.kids, inR l c) (hk1 : n.k = 34 → 1 ≤ n.kids.length) (hk2 : n.k = 31 ∨ n.k = 32 ∨ n.k = 33 → 2 ≤ n.kids.length) :
    Calls Try.prog 18 #[v, vn] w fun e w' => e = .returned (.bool (fitsD n (kinds l n))) ∧ Below w.heap.size w w' := by
  obtain ⟨an, cn, ak, ck, rfl, _, hLk, _⟩ := hN
  obtain ⟨k, x, s, ns, ks, li⟩ := n
  dsimp only at *
  by_cases h34 : k = 34
  · subst h34
    have hl := hk1 rfl
    have e : fitsD ⟨34, x, s, ns, ks, li⟩ (kinds l ⟨34, x, s, ns, ks, li⟩) = decide (bindD 34 x ≤ kidBinds l ⟨34, x, s, ns, ks, li⟩ 0) := by
      unfold fitsD
      rw [kb_kinds _ _ 0 (by show 0 < ks.length; omega)]
      rfl
    rw [e]
    exact opf34 v l root x li s ns ks an ak cn ck w hS hLk hin hl
  by_cases h31 : k = 31
  · subst h31
    have hl := hk2 (.inl rfl)
    by_cases hx : x = 11
    · subst hx
      have e : fitsD ⟨31, 11, s, ns, ks, li⟩ (kinds l ⟨31, 11, s, ns, ks, li⟩) = decide (bindD 31 11 < kidBinds l ⟨31, 11, s, ns, ks, li⟩ 0 ∧ bindD 31 11 ≤ kidBinds l ⟨31, 11, s, ns, ks, li⟩ 1) := by
        unfold fitsD
        rw [kb_kinds _ _ 0 (by show 0 < ks.length; omega), kb_kinds _ _ 1 (by exact hl)]
        dsimp only
        rw [if_neg (by decide), if_pos (.inl rfl), if_pos ⟨rfl, rfl⟩]
      rw [e]
      exact opf31c v l root li s ns ks an ak cn ck w hS hLk hin hl
    · have e : fitsD ⟨31, x, s, ns, ks, li⟩ (kinds l ⟨31, x, s, ns, ks, li⟩) = decide (bindD 31 x ≤ kidBinds l ⟨31, x, s, ns, ks, li⟩ 0 ∧ bindD 31 x < kidBinds l ⟨31, x, s, ns, ks, li⟩ 1) := by
        unfold fitsD
        rw [kb_kinds _ _ 0 (by show 0 < ks.length; omega), kb_kinds _ _ 1 (by exact hl)]
        dsimp only
        rw [if_neg (by decide), if_pos (.inl rfl), if_neg (fun h => hx h.2)]
      rw [e]
      exact opf31 v l root x li s ns ks an ak cn ck w hS hLk hin hx hl
  by_cases h32 : k = 32
  · subst h32
    have hl := hk2 (.inr (.inl rfl))
    have e : fitsD ⟨32, x, s, ns, ks, li⟩ (kinds l ⟨32, x, s, ns, ks, li⟩) = decide (bindD 32 x ≤ kidBinds l ⟨32, x, s, ns, ks, li⟩ 0 ∧ bindD 32 x < kidBinds l ⟨32, x, s, ns, ks, li⟩ 1) := by
      unfold fitsD
      rw [kb_kinds _ _ 0 (by show 0 < ks.length; omega), kb_kinds _ _ 1 (by exact hl)]
      dsimp only
      rw [if_neg (by decide), if_pos (.inr (.inl rfl)), if_neg (fun h => absurd h.1 (by decide))]
    rw [e]
    exact opf32 v l root x li s ns ks an ak cn ck w hS hLk hin hl
  by_cases h33 : k = 33
  · subst h33
    have hl := hk2 (.inr (.inr rfl))
    have e : fitsD ⟨33, x, s, ns, ks, li⟩ (kinds l ⟨33, x, s, ns, ks, li⟩) = decide (bindD 33 x ≤ kidBinds l ⟨33, x, s, ns, ks, li⟩ 0 ∧ bindD 33 x < kidBinds l ⟨33, x, s, ns, ks, li⟩ 1) := by
      unfold fitsD
      rw [kb_kinds _ _ 0 (by show 0 < ks.length; omega), kb_kinds _ _ 1 (by exact hl)]
      dsimp only
      rw [if_neg (by decide), if_pos (.inr (.inr rfl)), if_neg (fun h => absurd h.1 (by decide))]
    rw [e]
    exact opf33 v l root x li s ns ks an ak cn ck w hS hLk hin hl
  have e : fitsD ⟨k, x, s, ns, ks, li⟩ (kinds l ⟨k, x, s, ns, ks, li⟩) = true := by
    unfold fitsD
    dsimp only
    rw [if_neg h34, if_neg (by omega)]
  rw [e]
  exact opf0 v l root k x li s ns ks an ak cn ck w hS hLk hin (by omega) (by omega) (by omega) (by omega)

end Go.Proofs.Ytmddffacjkkeiaa.Nd
