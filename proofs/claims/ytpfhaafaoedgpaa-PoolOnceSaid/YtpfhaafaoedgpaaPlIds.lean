/-
  Layer 12: the developers' pool: its objects' numbers.
-/
import Derived.Test.YtpfhaafaoedgpaaPlGiv
namespace Go.Proofs.Ytpfhaafaoedgpaa.Pl
open Go Go.RowKit

theorem ids_snoc : ∀ (n : Int) (l : Ob) (a : Option Int), idsL n (l ++ [a]) = idsL n l ++ (match a with | none => [] | some _ => [n + l.length])
  | n, [], none => rfl
  | n, [], some s => by simp [idsL]
  | n, none :: l, a => by
    rw [List.cons_append]
    simp only [idsL]
    rw [ids_snoc (n + 1) l a]
    cases a with
    | none => rfl
    | some s => simp; omega
  | n, some t :: l, a => by
    rw [List.cons_append]
    simp only [idsL]
    rw [ids_snoc (n + 1) l a]
    cases a with
    | none => simp
    | some s => simp; omega
theorem ids_take (l : Ob) (k : Nat) (h : k < l.length) : idsL 1 (l.take (k + 1)) = idsL 1 (l.take k) ++ (match l[k] with | none => [] | some _ => [(k : Int) + 1]) := by
  rw [List.take_succ_eq_append_getElem h, ids_snoc]
  rw [List.length_take, Nat.min_eq_left (by omega), Int.add_comm]
theorem ids_le : ∀ (n : Int) (l : Ob), (idsL n l).length ≤ l.length
  | _, [] => Nat.le_refl _
  | n, none :: l => Nat.le_succ_of_le (ids_le (n + 1) l)
  | n, some _ :: l => Nat.succ_le_succ (ids_le (n + 1) l)
theorem ids_few (l : Ob) (k : Nat) : (idsL 1 (l.take k)).length ≤ l.length := Nat.le_trans (ids_le 1 _) (by rw [List.length_take]; omega)

section
variable {w w' : World} {b : Nat} {m : Int} {l : Ob} {vs vf : Value} {fr : List Int} {F : List Nat}
set_option maxHeartbeats 2000000 in
theorem ids_fn (h : PAt w b m l vs vf fr) : Calls Try.prog 24 #[.pointer (some ⟨b, 0, none⟩)] w (IdsSays l w) := by
  have hlen := h.len
  have hcl := cnt_le l
  have cc := count_fn h
  obtain ⟨aS, cS, hv, _, _⟩ := row_len h.sizes
  rw [szs_len] at hv
  subst hv
  have x0 := cell_of h.cells 0 _ rfl
  have x3 := cell_of h.cells 3 _ rfl
  have HS := Lib.hid h.sizes
  have HP := Lib.hid h.ok.pos
  clear h
  obtain ⟨c, hc⟩ : ∃ c, c = cntL l := ⟨_, rfl⟩
  rw [← hc] at cc hcl
  obtain ⟨MC, hMC⟩ : ∃ MC, MC = madeCells #[Value.int .i64 0] c := ⟨_, rfl⟩
  obtain ⟨iB, hiB, hzB, hsB, hbB⟩ := info_parts infoInt
  have hmk : ∀ W : World, (Instr.makeSlice 36 (.int .i64 0) (.int .i64 (c : Int))).run Try.prog W = .ok (.slice (some ⟨W.heap.size, 0, none⟩) 0 c) (W.alloc (.cells MC 3)) := fun W => by
    have := run_make (P := Try.prog) W 36 3 iB (.int .i64 0) Try.underlying36 hiB hzB .i64 .i64 0 (c : Int) (by omega) (by omega) (by rw [hbB]; omega) (by omega)
    rw [hsB] at this
    simp only [Int.toNat_natCast, Int.toNat_zero, Nat.mul_one] at this
    rw [this, hMC]
    rfl
  have HOW := Lib.hid (World.ownsRow_made (base := w.heap.size) (size := 1) (e := 3) w MC c (Nat.le_refl _) (Nat.le_trans (m := 65536) (by omega) (by decide)) (by rw [hMC, size_madeCells]; omega))
  have HB0 := Lib.hid ((show Below w.heap.size w (w.alloc (.cells MC 3)).drew from ((Below.refl _ _).alloc (Nat.le_refl _) _).trans ((drew_below _).mono (by simp))))
  clear hMC hiB hzB hsB hbB hc
  obtain ⟨n, hn⟩ : ∃ n, n = l.length := ⟨_, rfl⟩
  rw [← hn] at x3 hlen hcl
  have HN := Lib.hid hn
  clear hn
  go_enter Try.func24, Try.ntmps24
  go_wp2_with fail
  refine (made_fn b w x0).mono ?_
  rintro e w1 ⟨rfl, hw⟩
  subst hw
  go_wp2_with fail
  refine cc.mono ?_
  rintro e w2 ⟨rfl, hw⟩
  subst hw
  clear cc
  have x5 := (HB0.out.cell (p := ⟨b, 3, none⟩) (World.block_lt_of_cell? _ _ x3)).trans x3
  have hown : (w1.alloc (.cells MC 3)).drew.ownsRow w1.heap.size 3 1 (.slice (some ⟨w1.heap.size, 0, none⟩) 0 c) ([] : List Int).length (ints []) := HOW.out
  have HB1 := Lib.hid HB0.out
  have HOW1 := Lib.hid hown
  clear hown
  have x6 : (w1.alloc (.cells MC 3)).cell? ⟨b, 3, none⟩ = some (.slice aS n cS) := x5
  go_wp2_with fail
  clear x6 hmk
  generalize (w1.alloc (.cells MC 3)).drew = W at *
  go_loopg [17, 3] n (fun r i v wr => ∃ (k : Nat) (ao : Option Addr) (mm cc : Nat), r = n - k ∧ i = .int .i64 k ∧ k ≤ n ∧ v = .slice ao mm cc ∧ wr.ownsRow w1.heap.size 3 1 (.slice ao mm cc) (idsL 1 (l.take k)).length (ints (idsL 1 (l.take k))) ∧ Below w1.heap.size w1 wr)
  case atStart => exact ⟨0, _, _, _, rfl, rfl, Nat.zero_le _, rfl, HOW1.out, HB1.out⟩
  case round =>
    obtain ⟨k, ao, mm, cc, rfl, rfl, hk, rfl, hown, hb⟩ := hrel
    have HO := Lib.hid hown
    have HB := Lib.hid hb
    have hrow := row_below HS.out hb
    clear hown hb
    have e0 := IntWalk.i64_in ((k : Int) + 1) (by omega)
    by_cases hlt : k < n
    · have hlt' : (k : Int) < n := by omega
      have hkl : k < l.length := by have := HN.out; omega
      obtain ⟨g, cap, e1, _, _, _, hx, _⟩ := row_item hrow k (by rw [szs_len]; exact hkl)
      injection e1 with e11 e12 e13
      subst e11
      subst e13
      rw [szs_at hkl] at hx
      have HT := Lib.hid (ids_take l k hkl)
      have HF := Lib.hid (ids_few l k)
      have HFN := Lib.hid hlen
      clear e12 hrow
      cases hlk : l[k] with
      | none =>
        rw [hlk] at hx HT
        have hx : wr.cell? ⟨g, k, none⟩ = some (.int .i64 (-1)) := hx
        clear hlk
        go_wp2_with fail
        go_roundg (n - (k + 1))
        case measure => omega
        case rel => exact ⟨k + 1, ao, mm, cc, rfl, by go_num, by omega, rfl, by rw [HT.out, List.append_nil]; exact HO.out, HB.out⟩
      | some s =>
        have hs := HP.out s (by rw [← hlk]; exact List.getElem_mem hkl)
        rw [hlk] at hx HT
        have hx : wr.cell? ⟨g, k, none⟩ = some (.int .i64 s) := hx
        have hs2 : (s != -1) = true := by rw [bne_iff_ne]; omega
        clear hlk
        go_wp2_with (at_builtin; go_loud (refine wpList_append_at rfl (.tmp 24) (.tmp 27) 36 rfl w1.heap.size 3 (.int .i64 0) 8 Try.underlying36 infoInt rfl (.slice ao mm cc) (idsL 1 (l.take k)).length (ints (idsL 1 (l.take k))) rfl HO.out (.int .i64 ((k : Int) + 1)) rfl rfl ?l1 ?m1 ?n1 ?_))
        case l1 => exact Nat.le_trans (m := 65537) (by have := HF.out; have := HFN.out; have := HN.out; omega) (by decide)
        case m1 => exact Nat.le_trans (Nat.mul_le_mul_right 8 (m := 65537) (by have := HF.out; have := HFN.out; have := HN.out; omega)) (by decide)
        case n1 => exact HB.out.size
        intro v1 w2 h1 h2 h3
        obtain ⟨ao2, mm2, cc2, rfl⟩ := own_some h1
        have hb2 := HB.out.trans (below_appended HO.out h2 HB.out.size)
        have HB2 := Lib.hid hb2
        have HO2 := Lib.hid (show w2.ownsRow w1.heap.size 3 1 (.slice ao2 mm2 cc2) (idsL 1 (l.take (k + 1))).length (ints (idsL 1 (l.take (k + 1)))) by
          rw [HT.out, List.length_append]
          unfold ints
          rw [List.map_append]
          exact h1)
        clear h1 h2 h3 hb2
        go_wp2_with fail
        go_roundg (n - (k + 1))
        case measure => omega
        case rel => exact ⟨k + 1, ao2, mm2, cc2, rfl, by go_num, by omega, rfl, HO2.out, HB2.out⟩
    · have hkn : k = n := by omega
      have HK := Lib.hid (show l.take k = l from List.take_of_length_le (by have := HN.out; omega))
      go_wp2_with fail
      go_ret
      have ho := HO.out
      rw [HK.out] at ho
      have hl := ids_le 1 l
      refine ⟨_, rfl, (LstP.own (n := (idsL 1 l).length) ho (by unfold Len; have := HN.out; omega)).mono (fun _ _ _ => trivial), HB.out⟩
end
end Go.Proofs.Ytpfhaafaoedgpaa.Pl
