/-
  twinstepref01.Encode, by contracts.
-/
import Derived.Test.YtajeghkmgcpgiaaGreatDoorTextsReads
import Derived.Test.YtajeghkmgcpgiaaGreatDoorRunesMath
namespace Go.Proofs.YtajeghkmgcpgiaaGreatDoor
open Go.RowKit

theorem Tryz.infoByte : (Tryz.prog.info? 5).map (fun i => (i.zero, i.size, i.bytes)) = some (some (.int .u8 0), 1, 1) := by kernel_rfl

/-- The bytes behind the first, the last one ahead; and what is left for the first. -/
def tailL : Nat → Int → List Int
  | 0, _ => []
  | j + 1, n => (128 + n % 64) :: tailL j (n / 64)
def topL : Nat → Int → Int
  | 0, n => n
  | j + 1, n => topL j (n / 64)

theorem tailL_length : ∀ (j : Nat) (n : Int), (tailL j n).length = j
  | 0, _ => rfl
  | j + 1, n => by simp [tailL, tailL_length j]

def TailRel (n : Int) (k B : Nat) (w : World) (x v i : Value) (wr : World) : Prop :=
  ∃ (j : Nat) (n' : Int) (acc : List Int), j + 1 ≤ k ∧ i = .int .i64 ((j : Int) + 1) ∧ x = .int .i64 n' ∧ 0 ≤ n' ∧ n' ≤ 2147483647 ∧ acc ++ tailL (k - 1 - j) n' = tailL (k - 1) n ∧ topL (k - 1 - j) n' = topL (k - 1) n ∧
    wr.ownsRow B 5 1 v acc.length (acc.map (Value.int .u8)) ∧ Below w.heap.size w wr ∧ acc.length = j ∧ B ≤ wr.heap.size

theorem tail_rel {n n' : Int} {k B j : Nat} {w wr w1 : World} {v v' : Value} {acc : List Int} (hj : j + 1 < k) (h0 : 0 ≤ n') (h1 : n' ≤ 2147483647) (ha : acc ++ tailL (k - 1 - j) n' = tailL (k - 1) n) (ht : topL (k - 1 - j) n' = topL (k - 1) n)
    (hv : wr.ownsRow B 5 1 v acc.length (acc.map (Value.int .u8))) (hb : Below w.heap.size w wr) (hw : w.heap.size ≤ B) (hal : acc.length = j) (hB : B ≤ wr.heap.size)
    (hv1 : w1.ownsRow B 5 1 v' (acc.length + 1) (acc.map (Value.int .u8) ++ [.int .u8 (128 + n' % 64)])) (hg : (wr.alloc (.cells #[.int .u8 (128 + n' % 64)] 5)).grownBy w1 v.ownBlock) :
    TailRel n k B w (.int .i64 (n' / 64)) v' (.int .i64 ((j : Int) + 1 + 1)) w1 := by
  have e : k - 1 - j = (k - 1 - (j + 1)) + 1 := by omega
  rw [e] at ha ht
  have b1 := below_appended hv hg hB
  refine ⟨j + 1, n' / 64, acc ++ [128 + n' % 64], by omega, by simp, rfl, by omega, by omega, ?_, ht, ?_, hb.trans (b1.mono hw), by simp [hal], Nat.le_trans hB b1.size⟩
  · rw [← ha]; simp [tailL]
  · simpa using hv1

def OutRel (t : List Int) (f : Int) (B : Nat) (w : World) (v i : Value) (wr : World) : Prop :=
  ∃ (j : Nat), j ≤ t.length ∧ i = .int .i64 ((j : Int) - 1) ∧ wr.ownsRow B 5 1 v (f :: (t.drop j).reverse).length ((f :: (t.drop j).reverse).map (Value.int .u8)) ∧ Below B w wr ∧ B ≤ wr.heap.size

theorem out_rel {t L : List Int} {f y : Int} {B j : Nat} {w wr w1 : World} {v v' : Value} (hj : j + 1 ≤ t.length) (hy : t[j]? = some y) (hL : L = f :: (t.drop (j + 1)).reverse)
    (hv : wr.ownsRow B 5 1 v L.length (L.map (Value.int .u8))) (hb : Below B w wr) (hB : B ≤ wr.heap.size)
    (hv1 : w1.ownsRow B 5 1 v' (L.length + 1) (L.map (Value.int .u8) ++ [.int .u8 y])) (hg : (wr.alloc (.cells #[.int .u8 y] 5)).grownBy w1 v.ownBlock) :
    OutRel t f B w v' (.int .i64 ((j : Int) - 1)) w1 := by
  have b1 := below_appended hv hg hB
  have e : f :: (t.drop j).reverse = L ++ [y] := by
    obtain ⟨h, hh⟩ := List.getElem?_eq_some_iff.1 hy
    rw [hL, List.drop_eq_getElem_cons h, hh]
    simp
  refine ⟨j, by omega, rfl, ?_, hb.trans b1, Nat.le_trans hB b1.size⟩
  rw [e]
  simpa using hv1

/-- 'string(b)' where b reads as the numbers l. -/
theorem run_convert_reads {P : Program} {w : World} (src dst e : TypeId) {v : Value} {l : List Int} (hl : l ≠ []) (h : Reads w .u8 v l) (hs : P.underlying src = some (.slice e)) (he : P.underlying e = some (.int .u8)) (hd : P.underlying dst = some .string) :
    (convert src dst v).run P w = .ok (.string (bytesOf l)) w := by
  obtain ⟨ao, cap, rfl, h⟩ := h
  obtain ⟨g, _, rfl, hc⟩ := h hl
  refine run_convert_ints w src dst e _ cap l hs he hd (fun j hj => ?_)
  have ha : (⟨g, 0, none⟩ : Addr).add j = ⟨g, j, none⟩ := by simp [Addr.add]; omega
  rw [ha]
  exact hc j hj

theorem ref_encode_no (n : Int) (w : World) (h : n < 0 ∨ 2147483647 < n) :
    Calls Tryz.prog 101 #[.int .i64 n] w fun e w' => e = .returned (.tuple #[.string (encS n), .int .i64 (encE n)]) ∧ Below w.heap.size w w' := by
  have e1 : encS n = ⟨#[]⟩ := by unfold encS; rw [if_pos h]
  have e2 : encE n = 10 := by unfold encE; rw [if_pos h]
  rw [e1, e2]
  clear e1 e2
  rcases h with h | h
  all_goals
    go_enter Tryz.func101, Tryz.ntmps101
    go_wp2
    go_ret2
    exact ⟨rfl, Below.refl _ _⟩

theorem ref_encode1 (n : Int) (w : World) (h0 : 0 ≤ n) (h1 : n < 128) :
    Calls Tryz.prog 101 #[.int .i64 n] w fun e w' => e = .returned (.tuple #[.string (bytesOf [n]), .int .i64 0]) ∧ Below w.heap.size w w' := by
  have hcv := fun (w : World) (x : Int) => run_convert_block (P := Tryz.prog) w 30 9 5 [x] (0, 0) Tryz.underlying30 Tryz.underlying5 Tryz.underlying9
  simp only [List.map_cons, List.map_nil, List.length_cons, List.length_nil, Nat.zero_add] at hcv
  go_enter Tryz.func101, Tryz.ntmps101
  go_wp2
  go_ret2
  exact ⟨rfl, (Below.refl _ _).alloc (Nat.le_refl _) _⟩

set_option maxHeartbeats 1000000 in
theorem ref_encode2 (n : Int) (w : World) (h0 : 128 ≤ n) (h1 : n < 2048) :
    Calls Tryz.prog 101 #[.int .i64 n] w fun e w' => e = .returned (.tuple #[.string (bytesOf ((192 + topL 1 n) :: (tailL 1 n).reverse)), .int .i64 0]) ∧ Below w.heap.size w w' := by
  go_enter Tryz.func101, Tryz.ntmps101
  go_wp2
  refine wp_loop_rounds 1 ?_
  iterate 1 (rw [rounds_succ]; go_wp2)
  go_loopw [0, 6, 7] (fun x v i wr => TailRel n 2 w.heap.size w x v i wr) (fun _ _ i _ => 2 - (intOf i).toNat)
  case atStart => exact ⟨0, n, [], by omega, rfl, rfl, by omega, by omega, rfl, rfl, World.ownsRow_nil _ _ _ _, Below.refl _ _, rfl, Nat.le_refl _⟩
  case round =>
    obtain ⟨j, n', acc, hj, rfl, rfl, hn0, hn1, hacc, htop, hv, hb, hal, hB⟩ := hrel
    have HA := Lib.hid hacc
    have HT := Lib.hid htop
    have HL := Lib.hid hal
    clear hacc htop
    by_cases hlt : j + 1 < 2
    · have hlen : acc.length ≤ 5 := by omega
      clear hal
      go_wp2_with (at_builtin; refine wpList_append_one rfl (.tmp 36) (.tmp 41) 30 rfl w.heap.size 5 (.int .u8 0) 1 Tryz.underlying30 Tryz.infoByte rfl _ _ _ rfl hv (.int .u8 (128 + n' % 64)) rfl rfl ?h63 ?hby ?hba ?_)
      case h63 => unfold maxLen; omega
      case hby => omega
      case hba => omega
      intro v' w1 hv1 hg1
      have R := Lib.hid (tail_rel (n := n) (k := 2) hlt hn0 hn1 HA.out HT.out hv hb (Nat.le_refl _) HL.out hB hv1 hg1)
      clear hv hv1 hg1 hb
      go_wp2
      go_roundw
      case rel => exact R.out
      case measure => simp [intOf]; omega
    · have hj2 : j = 1 := by omega
      subst hj2
      rw [show ((1 : Nat) : Int) + 1 = 2 from rfl]
      clear hal hlt hj
      have hacc : acc = tailL 1 n := by have := HA.out; simpa [tailL] using this
      have htop : n' = topL 1 n := HT.out
      subst hacc htop
      rw [tailL_length] at hv
      have hrd := Reads.own hv
      have htl := tailL_length 1 n
      have hne : tailL 1 n ≠ [] := by intro h; rw [h] at htl; simp at htl
      obtain ⟨ao, cap, hu6, hrd⟩ := hrd
      obtain ⟨g, hg, hao, hrc⟩ := hrd hne
      rw [htl] at hu6
      subst hao hu6
      have hb3 : topL 1 n ≤ 31 := by simp only [topL]; omega
      clear HA HT HL hv hne hrd
      obtain ⟨t, ht⟩ : ∃ t, t = tailL 1 n := ⟨_, rfl⟩
      obtain ⟨f, hf⟩ : ∃ f, f = topL 1 n := ⟨_, rfl⟩
      rw [← ht] at htl hrc
      rw [← hf] at hb3 hn0 hn1 ⊢
      have HT := Lib.hid ht
      have HF := Lib.hid hf
      have HTL := Lib.hid htl
      have HRC := Lib.hid hrc
      clear ht hf htl hrc
      go_wp2
      refine wp_loop_rounds 3 ?_
      iterate 3 (rw [rounds_succ]; go_wp2)
      have hB' : w.heap.size ≤ wr.heap.size := hb.size
      obtain ⟨wo, rfl⟩ : ∃ wo : World, wo = wr := ⟨_, rfl⟩
      go_loopw [10, 11] (fun v i wr => OutRel t (192 + f) wo.heap.size wo v i wr) (fun _ i _ => (intOf i + 1).toNat)
      case atStart =>
        have htl := HTL.out
        refine ⟨1, by omega, rfl, ?_, (Below.refl _ _).alloc (Nat.le_refl _) _, by simp⟩
        rw [List.drop_of_length_le (by omega)]
        exact World.ownsRow_lit (base := wo.heap.size) (e := 5) (size := 1) wo #[.int .u8 (192 + f)] 1 (Nat.le_refl _) (by unfold maxLen; omega) rfl
      case round =>
        obtain ⟨j, hj, rfl, hv, hb2, hB2⟩ := hrel
        rw [HTL.out] at hj
        by_cases hlt : 1 ≤ j
        · obtain ⟨i, rfl⟩ : ∃ i, j = i + 1 := ⟨j - 1, by omega⟩
          have hit : i < t.length := by rw [HTL.out]; omega
          have hlen : ((192 + f) :: (t.drop (i + 1)).reverse).length ≤ 6 := by have := HTL.out; simp only [List.length_cons, List.length_reverse, List.length_drop]; omega
          obtain ⟨L, hL⟩ : ∃ L, L = (192 + f) :: (t.drop (i + 1)).reverse := ⟨_, rfl⟩
          rw [← hL] at hv hlen
          have HLL := Lib.hid hL
          clear hL
          have hce : wr.cell? ⟨g, i, none⟩ = some (.int .u8 t[i]) := by rw [hb2.cell (p := ⟨g, i, none⟩) hg]; exact HRC.out i (by omega)
          obtain ⟨y, hy⟩ : ∃ y, y = t[i] := ⟨_, rfl⟩
          rw [← hy] at hce
          have HY := Lib.hid (show t[i]? = some y by rw [hy]; simp [hit])
          clear hy
          rw [show ((i + 1 : Nat) : Int) - 1 = (i : Int) from by omega]
          go_wp2_with (at_builtin; refine wpList_append_one rfl (.tmp 67) (.tmp 72) 30 rfl wo.heap.size 5 (.int .u8 0) 1 Tryz.underlying30 Tryz.infoByte rfl _ _ _ rfl hv (.int .u8 y) rfl rfl ?h63 ?hby ?hba ?_)
          case h63 => unfold maxLen; omega
          case hby => omega
          case hba => omega
          intro v' w1 hv1 hg1
          have R := Lib.hid (out_rel (by omega) HY.out HLL.out hv hb2 hB2 hv1 hg1)
          clear hv hv1 hg1 hb2
          go_wp2
          go_roundw
          case rel => exact R.out
          case measure => simp only [intOf]; omega
        · have hj0 : j = 0 := by omega
          subst hj0
          rw [show ((0 : Nat) : Int) - 1 = -1 from rfl]
          have hcv := run_convert_reads (P := Tryz.prog) 30 9 5 (by simp) (Reads.own hv) Tryz.underlying30 Tryz.underlying5 Tryz.underlying9
          clear hv
          go_wp2
          go_ret2
          refine ⟨?_, hb.trans (hb2.mono hB')⟩
          rw [HT.out, HF.out]
          rfl

set_option maxHeartbeats 1000000 in
theorem ref_encode3 (n : Int) (w : World) (h0 : 2048 ≤ n) (h1 : n < 65536) :
    Calls Tryz.prog 101 #[.int .i64 n] w fun e w' => e = .returned (.tuple #[.string (bytesOf ((224 + topL 2 n) :: (tailL 2 n).reverse)), .int .i64 0]) ∧ Below w.heap.size w w' := by
  go_enter Tryz.func101, Tryz.ntmps101
  go_wp2
  refine wp_loop_rounds 2 ?_
  iterate 2 (rw [rounds_succ]; go_wp2)
  go_loopw [0, 6, 7] (fun x v i wr => TailRel n 3 w.heap.size w x v i wr) (fun _ _ i _ => 3 - (intOf i).toNat)
  case atStart => exact ⟨0, n, [], by omega, rfl, rfl, by omega, by omega, rfl, rfl, World.ownsRow_nil _ _ _ _, Below.refl _ _, rfl, Nat.le_refl _⟩
  case round =>
    obtain ⟨j, n', acc, hj, rfl, rfl, hn0, hn1, hacc, htop, hv, hb, hal, hB⟩ := hrel
    have HA := Lib.hid hacc
    have HT := Lib.hid htop
    have HL := Lib.hid hal
    clear hacc htop
    by_cases hlt : j + 1 < 3
    · have hlen : acc.length ≤ 5 := by omega
      clear hal
      go_wp2_with (at_builtin; refine wpList_append_one rfl (.tmp 36) (.tmp 41) 30 rfl w.heap.size 5 (.int .u8 0) 1 Tryz.underlying30 Tryz.infoByte rfl _ _ _ rfl hv (.int .u8 (128 + n' % 64)) rfl rfl ?h63 ?hby ?hba ?_)
      case h63 => unfold maxLen; omega
      case hby => omega
      case hba => omega
      intro v' w1 hv1 hg1
      have R := Lib.hid (tail_rel (n := n) (k := 3) hlt hn0 hn1 HA.out HT.out hv hb (Nat.le_refl _) HL.out hB hv1 hg1)
      clear hv hv1 hg1 hb
      go_wp2
      go_roundw
      case rel => exact R.out
      case measure => simp [intOf]; omega
    · have hj2 : j = 2 := by omega
      subst hj2
      rw [show ((2 : Nat) : Int) + 1 = 3 from rfl]
      clear hal hlt hj
      have hacc : acc = tailL 2 n := by have := HA.out; simpa [tailL] using this
      have htop : n' = topL 2 n := HT.out
      subst hacc htop
      rw [tailL_length] at hv
      have hrd := Reads.own hv
      have htl := tailL_length 2 n
      have hne : tailL 2 n ≠ [] := by intro h; rw [h] at htl; simp at htl
      obtain ⟨ao, cap, hu6, hrd⟩ := hrd
      obtain ⟨g, hg, hao, hrc⟩ := hrd hne
      rw [htl] at hu6
      subst hao hu6
      have hb3 : topL 2 n ≤ 15 := by simp only [topL]; omega
      clear HA HT HL hv hne hrd
      obtain ⟨t, ht⟩ : ∃ t, t = tailL 2 n := ⟨_, rfl⟩
      obtain ⟨f, hf⟩ : ∃ f, f = topL 2 n := ⟨_, rfl⟩
      rw [← ht] at htl hrc
      rw [← hf] at hb3 hn0 hn1 ⊢
      have HT := Lib.hid ht
      have HF := Lib.hid hf
      have HTL := Lib.hid htl
      have HRC := Lib.hid hrc
      clear ht hf htl hrc
      go_wp2
      refine wp_loop_rounds 4 ?_
      iterate 4 (rw [rounds_succ]; go_wp2)
      have hB' : w.heap.size ≤ wr.heap.size := hb.size
      obtain ⟨wo, rfl⟩ : ∃ wo : World, wo = wr := ⟨_, rfl⟩
      go_loopw [10, 11] (fun v i wr => OutRel t (224 + f) wo.heap.size wo v i wr) (fun _ i _ => (intOf i + 1).toNat)
      case atStart =>
        have htl := HTL.out
        refine ⟨2, by omega, rfl, ?_, (Below.refl _ _).alloc (Nat.le_refl _) _, by simp⟩
        rw [List.drop_of_length_le (by omega)]
        exact World.ownsRow_lit (base := wo.heap.size) (e := 5) (size := 1) wo #[.int .u8 (224 + f)] 1 (Nat.le_refl _) (by unfold maxLen; omega) rfl
      case round =>
        obtain ⟨j, hj, rfl, hv, hb2, hB2⟩ := hrel
        rw [HTL.out] at hj
        by_cases hlt : 1 ≤ j
        · obtain ⟨i, rfl⟩ : ∃ i, j = i + 1 := ⟨j - 1, by omega⟩
          have hit : i < t.length := by rw [HTL.out]; omega
          have hlen : ((224 + f) :: (t.drop (i + 1)).reverse).length ≤ 6 := by have := HTL.out; simp only [List.length_cons, List.length_reverse, List.length_drop]; omega
          obtain ⟨L, hL⟩ : ∃ L, L = (224 + f) :: (t.drop (i + 1)).reverse := ⟨_, rfl⟩
          rw [← hL] at hv hlen
          have HLL := Lib.hid hL
          clear hL
          have hce : wr.cell? ⟨g, i, none⟩ = some (.int .u8 t[i]) := by rw [hb2.cell (p := ⟨g, i, none⟩) hg]; exact HRC.out i (by omega)
          obtain ⟨y, hy⟩ : ∃ y, y = t[i] := ⟨_, rfl⟩
          rw [← hy] at hce
          have HY := Lib.hid (show t[i]? = some y by rw [hy]; simp [hit])
          clear hy
          rw [show ((i + 1 : Nat) : Int) - 1 = (i : Int) from by omega]
          go_wp2_with (at_builtin; refine wpList_append_one rfl (.tmp 67) (.tmp 72) 30 rfl wo.heap.size 5 (.int .u8 0) 1 Tryz.underlying30 Tryz.infoByte rfl _ _ _ rfl hv (.int .u8 y) rfl rfl ?h63 ?hby ?hba ?_)
          case h63 => unfold maxLen; omega
          case hby => omega
          case hba => omega
          intro v' w1 hv1 hg1
          have R := Lib.hid (out_rel (by omega) HY.out HLL.out hv hb2 hB2 hv1 hg1)
          clear hv hv1 hg1 hb2
          go_wp2
          go_roundw
          case rel => exact R.out
          case measure => simp only [intOf]; omega
        · have hj0 : j = 0 := by omega
          subst hj0
          rw [show ((0 : Nat) : Int) - 1 = -1 from rfl]
          have hcv := run_convert_reads (P := Tryz.prog) 30 9 5 (by simp) (Reads.own hv) Tryz.underlying30 Tryz.underlying5 Tryz.underlying9
          clear hv
          go_wp2
          go_ret2
          refine ⟨?_, hb.trans (hb2.mono hB')⟩
          rw [HT.out, HF.out]
          rfl

set_option maxHeartbeats 1000000 in
theorem ref_encode4 (n : Int) (w : World) (h0 : 65536 ≤ n) (h1 : n < 2097152) :
    Calls Tryz.prog 101 #[.int .i64 n] w fun e w' => e = .returned (.tuple #[.string (bytesOf ((240 + topL 3 n) :: (tailL 3 n).reverse)), .int .i64 0]) ∧ Below w.heap.size w w' := by
  go_enter Tryz.func101, Tryz.ntmps101
  go_wp2
  refine wp_loop_rounds 3 ?_
  iterate 3 (rw [rounds_succ]; go_wp2)
  go_loopw [0, 6, 7] (fun x v i wr => TailRel n 4 w.heap.size w x v i wr) (fun _ _ i _ => 4 - (intOf i).toNat)
  case atStart => exact ⟨0, n, [], by omega, rfl, rfl, by omega, by omega, rfl, rfl, World.ownsRow_nil _ _ _ _, Below.refl _ _, rfl, Nat.le_refl _⟩
  case round =>
    obtain ⟨j, n', acc, hj, rfl, rfl, hn0, hn1, hacc, htop, hv, hb, hal, hB⟩ := hrel
    have HA := Lib.hid hacc
    have HT := Lib.hid htop
    have HL := Lib.hid hal
    clear hacc htop
    by_cases hlt : j + 1 < 4
    · have hlen : acc.length ≤ 5 := by omega
      clear hal
      go_wp2_with (at_builtin; refine wpList_append_one rfl (.tmp 36) (.tmp 41) 30 rfl w.heap.size 5 (.int .u8 0) 1 Tryz.underlying30 Tryz.infoByte rfl _ _ _ rfl hv (.int .u8 (128 + n' % 64)) rfl rfl ?h63 ?hby ?hba ?_)
      case h63 => unfold maxLen; omega
      case hby => omega
      case hba => omega
      intro v' w1 hv1 hg1
      have R := Lib.hid (tail_rel (n := n) (k := 4) hlt hn0 hn1 HA.out HT.out hv hb (Nat.le_refl _) HL.out hB hv1 hg1)
      clear hv hv1 hg1 hb
      go_wp2
      go_roundw
      case rel => exact R.out
      case measure => simp [intOf]; omega
    · have hj2 : j = 3 := by omega
      subst hj2
      rw [show ((3 : Nat) : Int) + 1 = 4 from rfl]
      clear hal hlt hj
      have hacc : acc = tailL 3 n := by have := HA.out; simpa [tailL] using this
      have htop : n' = topL 3 n := HT.out
      subst hacc htop
      rw [tailL_length] at hv
      have hrd := Reads.own hv
      have htl := tailL_length 3 n
      have hne : tailL 3 n ≠ [] := by intro h; rw [h] at htl; simp at htl
      obtain ⟨ao, cap, hu6, hrd⟩ := hrd
      obtain ⟨g, hg, hao, hrc⟩ := hrd hne
      rw [htl] at hu6
      subst hao hu6
      have hb3 : topL 3 n ≤ 7 := by simp only [topL]; omega
      clear HA HT HL hv hne hrd
      obtain ⟨t, ht⟩ : ∃ t, t = tailL 3 n := ⟨_, rfl⟩
      obtain ⟨f, hf⟩ : ∃ f, f = topL 3 n := ⟨_, rfl⟩
      rw [← ht] at htl hrc
      rw [← hf] at hb3 hn0 hn1 ⊢
      have HT := Lib.hid ht
      have HF := Lib.hid hf
      have HTL := Lib.hid htl
      have HRC := Lib.hid hrc
      clear ht hf htl hrc
      go_wp2
      refine wp_loop_rounds 5 ?_
      iterate 5 (rw [rounds_succ]; go_wp2)
      have hB' : w.heap.size ≤ wr.heap.size := hb.size
      obtain ⟨wo, rfl⟩ : ∃ wo : World, wo = wr := ⟨_, rfl⟩
      go_loopw [10, 11] (fun v i wr => OutRel t (240 + f) wo.heap.size wo v i wr) (fun _ i _ => (intOf i + 1).toNat)
      case atStart =>
        have htl := HTL.out
        refine ⟨3, by omega, rfl, ?_, (Below.refl _ _).alloc (Nat.le_refl _) _, by simp⟩
        rw [List.drop_of_length_le (by omega)]
        exact World.ownsRow_lit (base := wo.heap.size) (e := 5) (size := 1) wo #[.int .u8 (240 + f)] 1 (Nat.le_refl _) (by unfold maxLen; omega) rfl
      case round =>
        obtain ⟨j, hj, rfl, hv, hb2, hB2⟩ := hrel
        rw [HTL.out] at hj
        by_cases hlt : 1 ≤ j
        · obtain ⟨i, rfl⟩ : ∃ i, j = i + 1 := ⟨j - 1, by omega⟩
          have hit : i < t.length := by rw [HTL.out]; omega
          have hlen : ((240 + f) :: (t.drop (i + 1)).reverse).length ≤ 6 := by have := HTL.out; simp only [List.length_cons, List.length_reverse, List.length_drop]; omega
          obtain ⟨L, hL⟩ : ∃ L, L = (240 + f) :: (t.drop (i + 1)).reverse := ⟨_, rfl⟩
          rw [← hL] at hv hlen
          have HLL := Lib.hid hL
          clear hL
          have hce : wr.cell? ⟨g, i, none⟩ = some (.int .u8 t[i]) := by rw [hb2.cell (p := ⟨g, i, none⟩) hg]; exact HRC.out i (by omega)
          obtain ⟨y, hy⟩ : ∃ y, y = t[i] := ⟨_, rfl⟩
          rw [← hy] at hce
          have HY := Lib.hid (show t[i]? = some y by rw [hy]; simp [hit])
          clear hy
          rw [show ((i + 1 : Nat) : Int) - 1 = (i : Int) from by omega]
          go_wp2_with (at_builtin; refine wpList_append_one rfl (.tmp 67) (.tmp 72) 30 rfl wo.heap.size 5 (.int .u8 0) 1 Tryz.underlying30 Tryz.infoByte rfl _ _ _ rfl hv (.int .u8 y) rfl rfl ?h63 ?hby ?hba ?_)
          case h63 => unfold maxLen; omega
          case hby => omega
          case hba => omega
          intro v' w1 hv1 hg1
          have R := Lib.hid (out_rel (by omega) HY.out HLL.out hv hb2 hB2 hv1 hg1)
          clear hv hv1 hg1 hb2
          go_wp2
          go_roundw
          case rel => exact R.out
          case measure => simp only [intOf]; omega
        · have hj0 : j = 0 := by omega
          subst hj0
          rw [show ((0 : Nat) : Int) - 1 = -1 from rfl]
          have hcv := run_convert_reads (P := Tryz.prog) 30 9 5 (by simp) (Reads.own hv) Tryz.underlying30 Tryz.underlying5 Tryz.underlying9
          clear hv
          go_wp2
          go_ret2
          refine ⟨?_, hb.trans (hb2.mono hB')⟩
          rw [HT.out, HF.out]
          rfl

set_option maxHeartbeats 1000000 in
theorem ref_encode5 (n : Int) (w : World) (h0 : 2097152 ≤ n) (h1 : n < 67108864) :
    Calls Tryz.prog 101 #[.int .i64 n] w fun e w' => e = .returned (.tuple #[.string (bytesOf ((248 + topL 4 n) :: (tailL 4 n).reverse)), .int .i64 0]) ∧ Below w.heap.size w w' := by
  go_enter Tryz.func101, Tryz.ntmps101
  go_wp2
  refine wp_loop_rounds 4 ?_
  iterate 4 (rw [rounds_succ]; go_wp2)
  go_loopw [0, 6, 7] (fun x v i wr => TailRel n 5 w.heap.size w x v i wr) (fun _ _ i _ => 5 - (intOf i).toNat)
  case atStart => exact ⟨0, n, [], by omega, rfl, rfl, by omega, by omega, rfl, rfl, World.ownsRow_nil _ _ _ _, Below.refl _ _, rfl, Nat.le_refl _⟩
  case round =>
    obtain ⟨j, n', acc, hj, rfl, rfl, hn0, hn1, hacc, htop, hv, hb, hal, hB⟩ := hrel
    have HA := Lib.hid hacc
    have HT := Lib.hid htop
    have HL := Lib.hid hal
    clear hacc htop
    by_cases hlt : j + 1 < 5
    · have hlen : acc.length ≤ 5 := by omega
      clear hal
      go_wp2_with (at_builtin; refine wpList_append_one rfl (.tmp 36) (.tmp 41) 30 rfl w.heap.size 5 (.int .u8 0) 1 Tryz.underlying30 Tryz.infoByte rfl _ _ _ rfl hv (.int .u8 (128 + n' % 64)) rfl rfl ?h63 ?hby ?hba ?_)
      case h63 => unfold maxLen; omega
      case hby => omega
      case hba => omega
      intro v' w1 hv1 hg1
      have R := Lib.hid (tail_rel (n := n) (k := 5) hlt hn0 hn1 HA.out HT.out hv hb (Nat.le_refl _) HL.out hB hv1 hg1)
      clear hv hv1 hg1 hb
      go_wp2
      go_roundw
      case rel => exact R.out
      case measure => simp [intOf]; omega
    · have hj2 : j = 4 := by omega
      subst hj2
      rw [show ((4 : Nat) : Int) + 1 = 5 from rfl]
      clear hal hlt hj
      have hacc : acc = tailL 4 n := by have := HA.out; simpa [tailL] using this
      have htop : n' = topL 4 n := HT.out
      subst hacc htop
      rw [tailL_length] at hv
      have hrd := Reads.own hv
      have htl := tailL_length 4 n
      have hne : tailL 4 n ≠ [] := by intro h; rw [h] at htl; simp at htl
      obtain ⟨ao, cap, hu6, hrd⟩ := hrd
      obtain ⟨g, hg, hao, hrc⟩ := hrd hne
      rw [htl] at hu6
      subst hao hu6
      have hb3 : topL 4 n ≤ 3 := by simp only [topL]; omega
      clear HA HT HL hv hne hrd
      obtain ⟨t, ht⟩ : ∃ t, t = tailL 4 n := ⟨_, rfl⟩
      obtain ⟨f, hf⟩ : ∃ f, f = topL 4 n := ⟨_, rfl⟩
      rw [← ht] at htl hrc
      rw [← hf] at hb3 hn0 hn1 ⊢
      have HT := Lib.hid ht
      have HF := Lib.hid hf
      have HTL := Lib.hid htl
      have HRC := Lib.hid hrc
      clear ht hf htl hrc
      go_wp2
      refine wp_loop_rounds 6 ?_
      iterate 6 (rw [rounds_succ]; go_wp2)
      have hB' : w.heap.size ≤ wr.heap.size := hb.size
      obtain ⟨wo, rfl⟩ : ∃ wo : World, wo = wr := ⟨_, rfl⟩
      go_loopw [10, 11] (fun v i wr => OutRel t (248 + f) wo.heap.size wo v i wr) (fun _ i _ => (intOf i + 1).toNat)
      case atStart =>
        have htl := HTL.out
        refine ⟨4, by omega, rfl, ?_, (Below.refl _ _).alloc (Nat.le_refl _) _, by simp⟩
        rw [List.drop_of_length_le (by omega)]
        exact World.ownsRow_lit (base := wo.heap.size) (e := 5) (size := 1) wo #[.int .u8 (248 + f)] 1 (Nat.le_refl _) (by unfold maxLen; omega) rfl
      case round =>
        obtain ⟨j, hj, rfl, hv, hb2, hB2⟩ := hrel
        rw [HTL.out] at hj
        by_cases hlt : 1 ≤ j
        · obtain ⟨i, rfl⟩ : ∃ i, j = i + 1 := ⟨j - 1, by omega⟩
          have hit : i < t.length := by rw [HTL.out]; omega
          have hlen : ((248 + f) :: (t.drop (i + 1)).reverse).length ≤ 6 := by have := HTL.out; simp only [List.length_cons, List.length_reverse, List.length_drop]; omega
          obtain ⟨L, hL⟩ : ∃ L, L = (248 + f) :: (t.drop (i + 1)).reverse := ⟨_, rfl⟩
          rw [← hL] at hv hlen
          have HLL := Lib.hid hL
          clear hL
          have hce : wr.cell? ⟨g, i, none⟩ = some (.int .u8 t[i]) := by rw [hb2.cell (p := ⟨g, i, none⟩) hg]; exact HRC.out i (by omega)
          obtain ⟨y, hy⟩ : ∃ y, y = t[i] := ⟨_, rfl⟩
          rw [← hy] at hce
          have HY := Lib.hid (show t[i]? = some y by rw [hy]; simp [hit])
          clear hy
          rw [show ((i + 1 : Nat) : Int) - 1 = (i : Int) from by omega]
          go_wp2_with (at_builtin; refine wpList_append_one rfl (.tmp 67) (.tmp 72) 30 rfl wo.heap.size 5 (.int .u8 0) 1 Tryz.underlying30 Tryz.infoByte rfl _ _ _ rfl hv (.int .u8 y) rfl rfl ?h63 ?hby ?hba ?_)
          case h63 => unfold maxLen; omega
          case hby => omega
          case hba => omega
          intro v' w1 hv1 hg1
          have R := Lib.hid (out_rel (by omega) HY.out HLL.out hv hb2 hB2 hv1 hg1)
          clear hv hv1 hg1 hb2
          go_wp2
          go_roundw
          case rel => exact R.out
          case measure => simp only [intOf]; omega
        · have hj0 : j = 0 := by omega
          subst hj0
          rw [show ((0 : Nat) : Int) - 1 = -1 from rfl]
          have hcv := run_convert_reads (P := Tryz.prog) 30 9 5 (by simp) (Reads.own hv) Tryz.underlying30 Tryz.underlying5 Tryz.underlying9
          clear hv
          go_wp2
          go_ret2
          refine ⟨?_, hb.trans (hb2.mono hB')⟩
          rw [HT.out, HF.out]
          rfl

set_option maxHeartbeats 1000000 in
theorem ref_encode6 (n : Int) (w : World) (h0 : 67108864 ≤ n) (h1 : n < 2147483648) :
    Calls Tryz.prog 101 #[.int .i64 n] w fun e w' => e = .returned (.tuple #[.string (bytesOf ((252 + topL 5 n) :: (tailL 5 n).reverse)), .int .i64 0]) ∧ Below w.heap.size w w' := by
  go_enter Tryz.func101, Tryz.ntmps101
  go_wp2
  refine wp_loop_rounds 5 ?_
  iterate 5 (rw [rounds_succ]; go_wp2)
  go_loopw [0, 6, 7] (fun x v i wr => TailRel n 6 w.heap.size w x v i wr) (fun _ _ i _ => 6 - (intOf i).toNat)
  case atStart => exact ⟨0, n, [], by omega, rfl, rfl, by omega, by omega, rfl, rfl, World.ownsRow_nil _ _ _ _, Below.refl _ _, rfl, Nat.le_refl _⟩
  case round =>
    obtain ⟨j, n', acc, hj, rfl, rfl, hn0, hn1, hacc, htop, hv, hb, hal, hB⟩ := hrel
    have HA := Lib.hid hacc
    have HT := Lib.hid htop
    have HL := Lib.hid hal
    clear hacc htop
    by_cases hlt : j + 1 < 6
    · have hlen : acc.length ≤ 5 := by omega
      clear hal
      go_wp2_with (at_builtin; refine wpList_append_one rfl (.tmp 36) (.tmp 41) 30 rfl w.heap.size 5 (.int .u8 0) 1 Tryz.underlying30 Tryz.infoByte rfl _ _ _ rfl hv (.int .u8 (128 + n' % 64)) rfl rfl ?h63 ?hby ?hba ?_)
      case h63 => unfold maxLen; omega
      case hby => omega
      case hba => omega
      intro v' w1 hv1 hg1
      have R := Lib.hid (tail_rel (n := n) (k := 6) hlt hn0 hn1 HA.out HT.out hv hb (Nat.le_refl _) HL.out hB hv1 hg1)
      clear hv hv1 hg1 hb
      go_wp2
      go_roundw
      case rel => exact R.out
      case measure => simp [intOf]; omega
    · have hj2 : j = 5 := by omega
      subst hj2
      rw [show ((5 : Nat) : Int) + 1 = 6 from rfl]
      clear hal hlt hj
      have hacc : acc = tailL 5 n := by have := HA.out; simpa [tailL] using this
      have htop : n' = topL 5 n := HT.out
      subst hacc htop
      rw [tailL_length] at hv
      have hrd := Reads.own hv
      have htl := tailL_length 5 n
      have hne : tailL 5 n ≠ [] := by intro h; rw [h] at htl; simp at htl
      obtain ⟨ao, cap, hu6, hrd⟩ := hrd
      obtain ⟨g, hg, hao, hrc⟩ := hrd hne
      rw [htl] at hu6
      subst hao hu6
      have hb3 : topL 5 n ≤ 1 := by simp only [topL]; omega
      clear HA HT HL hv hne hrd
      obtain ⟨t, ht⟩ : ∃ t, t = tailL 5 n := ⟨_, rfl⟩
      obtain ⟨f, hf⟩ : ∃ f, f = topL 5 n := ⟨_, rfl⟩
      rw [← ht] at htl hrc
      rw [← hf] at hb3 hn0 hn1 ⊢
      have HT := Lib.hid ht
      have HF := Lib.hid hf
      have HTL := Lib.hid htl
      have HRC := Lib.hid hrc
      clear ht hf htl hrc
      go_wp2
      refine wp_loop_rounds 7 ?_
      iterate 7 (rw [rounds_succ]; go_wp2)
      have hB' : w.heap.size ≤ wr.heap.size := hb.size
      obtain ⟨wo, rfl⟩ : ∃ wo : World, wo = wr := ⟨_, rfl⟩
      go_loopw [10, 11] (fun v i wr => OutRel t (252 + f) wo.heap.size wo v i wr) (fun _ i _ => (intOf i + 1).toNat)
      case atStart =>
        have htl := HTL.out
        refine ⟨5, by omega, rfl, ?_, (Below.refl _ _).alloc (Nat.le_refl _) _, by simp⟩
        rw [List.drop_of_length_le (by omega)]
        exact World.ownsRow_lit (base := wo.heap.size) (e := 5) (size := 1) wo #[.int .u8 (252 + f)] 1 (Nat.le_refl _) (by unfold maxLen; omega) rfl
      case round =>
        obtain ⟨j, hj, rfl, hv, hb2, hB2⟩ := hrel
        rw [HTL.out] at hj
        by_cases hlt : 1 ≤ j
        · obtain ⟨i, rfl⟩ : ∃ i, j = i + 1 := ⟨j - 1, by omega⟩
          have hit : i < t.length := by rw [HTL.out]; omega
          have hlen : ((252 + f) :: (t.drop (i + 1)).reverse).length ≤ 6 := by have := HTL.out; simp only [List.length_cons, List.length_reverse, List.length_drop]; omega
          obtain ⟨L, hL⟩ : ∃ L, L = (252 + f) :: (t.drop (i + 1)).reverse := ⟨_, rfl⟩
          rw [← hL] at hv hlen
          have HLL := Lib.hid hL
          clear hL
          have hce : wr.cell? ⟨g, i, none⟩ = some (.int .u8 t[i]) := by rw [hb2.cell (p := ⟨g, i, none⟩) hg]; exact HRC.out i (by omega)
          obtain ⟨y, hy⟩ : ∃ y, y = t[i] := ⟨_, rfl⟩
          rw [← hy] at hce
          have HY := Lib.hid (show t[i]? = some y by rw [hy]; simp [hit])
          clear hy
          rw [show ((i + 1 : Nat) : Int) - 1 = (i : Int) from by omega]
          go_wp2_with (at_builtin; refine wpList_append_one rfl (.tmp 67) (.tmp 72) 30 rfl wo.heap.size 5 (.int .u8 0) 1 Tryz.underlying30 Tryz.infoByte rfl _ _ _ rfl hv (.int .u8 y) rfl rfl ?h63 ?hby ?hba ?_)
          case h63 => unfold maxLen; omega
          case hby => omega
          case hba => omega
          intro v' w1 hv1 hg1
          have R := Lib.hid (out_rel (by omega) HY.out HLL.out hv hb2 hB2 hv1 hg1)
          clear hv hv1 hg1 hb2
          go_wp2
          go_roundw
          case rel => exact R.out
          case measure => simp only [intOf]; omega
        · have hj0 : j = 0 := by omega
          subst hj0
          rw [show ((0 : Nat) : Int) - 1 = -1 from rfl]
          have hcv := run_convert_reads (P := Tryz.prog) 30 9 5 (by simp) (Reads.own hv) Tryz.underlying30 Tryz.underlying5 Tryz.underlying9
          clear hv
          go_wp2
          go_ret2
          refine ⟨?_, hb.trans (hb2.mono hB')⟩
          rw [HT.out, HF.out]
          rfl

theorem ref_encode (n : Int) (w : World) :
    Calls Tryz.prog 101 #[.int .i64 n] w fun e w' => e = .returned (.tuple #[.string (encS n), .int .i64 (encE n)]) ∧ Below w.heap.size w w' := by
  by_cases h : n < 0 ∨ 2147483647 < n
  · exact ref_encode_no n w h
  have e1 : encS n = bytesOf (encI n) := by unfold encS; rw [if_neg h]
  have e2 : encE n = 0 := by unfold encE; rw [if_neg h]
  rw [e1, e2]
  unfold encI
  split
  · exact ref_encode1 n w (by omega) (by omega)
  split
  · exact ref_encode2 n w (by omega) (by omega)
  split
  · have := ref_encode3 n w (by omega) (by omega)
    simp only [topL, tailL, List.reverse_cons, List.reverse_nil, List.nil_append, List.cons_append] at this
    rwa [show n / 64 / 64 = n / 4096 from by omega] at this
  split
  · have := ref_encode4 n w (by omega) (by omega)
    simp only [topL, tailL, List.reverse_cons, List.reverse_nil, List.nil_append, List.cons_append] at this
    rwa [show n / 64 / 64 / 64 = n / 262144 from by omega, show n / 64 / 64 = n / 4096 from by omega] at this
  split
  · have := ref_encode5 n w (by omega) (by omega)
    simp only [topL, tailL, List.reverse_cons, List.reverse_nil, List.nil_append, List.cons_append] at this
    rwa [show n / 64 / 64 / 64 / 64 = n / 16777216 from by omega, show n / 64 / 64 / 64 = n / 262144 from by omega, show n / 64 / 64 = n / 4096 from by omega] at this
  · have := ref_encode6 n w (by omega) (by omega)
    simp only [topL, tailL, List.reverse_cons, List.reverse_nil, List.nil_append, List.cons_append] at this
    rwa [show n / 64 / 64 / 64 / 64 / 64 = n / 1073741824 from by omega, show n / 64 / 64 / 64 / 64 = n / 16777216 from by omega, show n / 64 / 64 / 64 = n / 262144 from by omega, show n / 64 / 64 = n / 4096 from by omega] at this

end Go.Proofs.YtajeghkmgcpgiaaGreatDoor
