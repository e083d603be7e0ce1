/-
  LexNumbers.
-/
import Derived.Test.YtajeghkmgcpgiaaGreatDoorLexXs
import Derived.Laws.MakeOwn
namespace Go.Proofs.YtajeghkmgcpgiaaGreatDoor.Lex
open Go.RowKit

def noFloats : List ByteArray := [⟨#[49, 46, 53]⟩, ⟨#[49, 101, 51]⟩, ⟨#[97, 47, 98]⟩, ⟨#[57, 50, 50, 51, 51, 55, 50, 48, 51, 54, 56, 53, 52, 55, 55, 53, 56, 48, 56]⟩, ⟨#[46, 53]⟩, ⟨#[49, 46, 46, 50]⟩, ⟨#[48, 120, 49, 112, 52]⟩, ⟨#[48, 120, 46, 49]⟩, ⟨#[49, 101, 43, 53]⟩, ⟨#[50, 94, 51]⟩, ⟨#[51, 46]⟩, ⟨#[48, 120, 49, 46, 56]⟩]
def noFloatsC : Array Value := #[.string ⟨#[49, 46, 53]⟩, .string ⟨#[49, 101, 51]⟩, .string ⟨#[97, 47, 98]⟩, .string ⟨#[57, 50, 50, 51, 51, 55, 50, 48, 51, 54, 56, 53, 52, 55, 55, 53, 56, 48, 56]⟩, .string ⟨#[46, 53]⟩, .string ⟨#[49, 46, 46, 50]⟩, .string ⟨#[48, 120, 49, 112, 52]⟩, .string ⟨#[48, 120, 46, 49]⟩, .string ⟨#[49, 101, 43, 53]⟩, .string ⟨#[50, 94, 51]⟩, .string ⟨#[51, 46]⟩, .string ⟨#[48, 120, 49, 46, 56]⟩]
theorem noFloats_wrong : ∀ (k : Nat) (h : k < 12), tokensL ((noFloats[k]'h).data.toList) = ([], 31, 1) := by decide +kernel
def noTokens : List ByteArray := [⟨#[51, 120]⟩, ⟨#[48, 120]⟩, ⟨#[64]⟩, ⟨#[91, 61, 120]⟩, ⟨#[48, 120, 103]⟩, ⟨#[49, 50, 95]⟩, ⟨#[39, 92, 113, 39]⟩, ⟨#[34, 92, 52, 48, 48, 34]⟩, ⟨#[33]⟩, ⟨#[0]⟩, ⟨#[195, 164]⟩]
def noTokensC : Array Value := #[.string ⟨#[51, 120]⟩, .string ⟨#[48, 120]⟩, .string ⟨#[64]⟩, .string ⟨#[91, 61, 120]⟩, .string ⟨#[48, 120, 103]⟩, .string ⟨#[49, 50, 95]⟩, .string ⟨#[39, 92, 113, 39]⟩, .string ⟨#[34, 92, 52, 48, 48, 34]⟩, .string ⟨#[33]⟩, .string ⟨#[0]⟩, .string ⟨#[195, 164]⟩]
theorem noTokens_wrong : ∀ (k : Nat) (h : k < 11), tokensL ((noTokens[k]'h).data.toList) = ([], 30, 1) := by decide +kernel

/-! ### 65536 bytes x -/
theorem infoU8 : (Tryz.prog.info? 5).map (fun i => (i.zero, i.size, i.bytes)) = some (some (.int .u8 0), 1, 1) := by kernel_rfl
theorem make_row (w : World) : (Instr.makeSlice 30 (.int .i64 65536) (.int .i64 65536)).run Tryz.prog w = .ok (.slice (some ⟨w.heap.size, 0, none⟩) 65536 65536) (w.alloc (.cells (madeCells #[.int .u8 0] 65536) 5)) := by
  obtain ⟨i, hi, hz, hsize, hby⟩ := info_parts infoU8
  have := run_makeSlice (P := Tryz.prog) w 30 5 i _ Tryz.underlying30 hi hz .i64 .i64 65536 65536 (by decide) (by decide) (by rw [hsize]; decide) (by rw [hby]; decide) (by decide)
  rw [hsize] at this
  exact this
theorem row_set {w : World} {G k : Nat} {C : Array Value} {T : TypeId} {fr : Nat × Nat} (v : Value) (h : w.heap[G]? = some (.cells C T fr)) : (w.setCell ⟨G, k, none⟩ v).heap[G]? = some (.cells (C.setIfInBounds k v) T fr) := by
  show (Array.modify w.heap G _)[G]? = _
  rw [Array.getElem?_modify, if_pos rfl, h]
  rfl
theorem xs_set {C : Array Value} {k : Nat} (hs : C.size = 65536) (hk : k < 65536) (h : ∀ j, j < k → C[j]? = some (.int .u8 120)) : ∀ j, j < k + 1 → (C.setIfInBounds k (.int .u8 120))[j]? = some (.int .u8 120) := fun j hj => by
  rw [Array.getElem?_setIfInBounds]
  by_cases e : k = j
  · rw [if_pos e, if_pos (by omega)]
  · rw [if_neg e]; exact h j (by omega)
def xs (n : Nat) : List Int := List.replicate n 120
/-- A row of n bytes x. -/
def XRow (w : World) (G k : Nat) : Prop := ∃ C, w.heap[G]? = some (.cells C 5 (0, 0)) ∧ C.size = 65536 ∧ ∀ j, j < k → C[j]? = some (.int .u8 120)

theorem infoStr : (Tryz.prog.info? 9).map (fun i => (i.zero, i.size, i.bytes)) = some (some (.string ⟨#[]⟩), 1, 16) := by kernel_rfl
theorem TxReads.own {w : World} {b : Nat} {v : Value} {l : List ByteArray} (h : w.ownsRow b 9 1 v l.length (l.map Value.string)) : TxReads w v l := by
  rcases h.2 with ⟨rfl, h0⟩ | ⟨g, cap, cur, rfl, _, hg, _⟩
  · exact ⟨none, 0, by rw [h0], fun hl => absurd (List.eq_nil_of_length_eq_zero h0) hl⟩
  · refine ⟨_, cap, rfl, fun _ => ⟨g, (Array.getElem?_eq_some_iff.1 hg).1, rfl, fun i hi => ?_⟩⟩
    have := h.cells (g := g) rfl i (.string l[i]) (by rw [List.getElem?_map, List.getElem?_eq_getElem hi]; rfl)
    rwa [show (⟨g, 0, none⟩ : Addr).add i = ⟨g, i, none⟩ from by simp [Addr.add]; omega] at this

set_option maxHeartbeats 2000000 in
theorem own_signs (w : World) (hV : LVars w) : Calls Tryz.prog 14 #[] w fun e w' => ∃ v, e = .returned v ∧ TxReads w' v signsT ∧ Below w.heap.size w w' := by
  obtain ⟨T, fr, hg⟩ := hV.signs
  clear hV
  go_enter Tryz.func14, Tryz.ntmps14
  go_wp2_with (refine wpList_load_row rfl 49 _ rfl 0 rfl T _ fr _ hg Tryz.underlying49 rfl (by kernel_rfl) ?_)
  generalize hcs : (signsT.map Value.string).toArray = cs at *
  have HCS := Lib.hid hcs
  clear hcs hg
  go_loopg [1, 5] 31 (fun r v x wr => ∃ k : Nat, r = 31 - k ∧ k ≤ 31 ∧ x = .int .i64 (k : Int) ∧ wr.ownsRow w.heap.size 9 1 v k ((signsT.take k).map Value.string) ∧ Below w.heap.size w wr)
  case atStart => exact ⟨0, rfl, by omega, rfl, World.ownsRow_nil _ _ _ _, Below.refl _ _⟩
  case round =>
    obtain ⟨k, rfl, hk, rfl, ho, hb⟩ := hrel
    have HO := Lib.hid ho
    have HB := Lib.hid hb
    clear ho hb
    by_cases hk31 : k < 31
    · have hix := run_index_agg (P := Tryz.prog) 49 9 31 cs k (.string (signsT[k]'hk31)) Tryz.underlying49 Tryz.isAgg9 Tryz.sizeOf9 hk31 (by rw [← HCS.out]; simp; exact List.getElem?_eq_getElem (show k < signsT.length from hk31)) (k : Int) rfl
      have htk := Lib.hid (show (signsT.take (k + 1)).map Value.string = (signsT.take k).map Value.string ++ [.string (signsT[k]'hk31)] by rw [List.take_succ_eq_append_getElem (show k < signsT.length from hk31), List.map_append]; rfl)
      generalize signsT[k]'hk31 = u at *
      have hsz := HB.out.size
      go_wp2_with (at_builtin; refine wpList_append_one rfl (.tmp 8) (.tmp 10) 27 rfl w.heap.size 9 (.string ⟨#[]⟩) 16 Tryz.underlying27 infoStr rfl _ _ _ rfl HO.out (.string u) rfl rfl ?z1 ?z2 ?z3 ?_)
      case z1 => unfold maxLen; omega
      case z2 => omega
      case z3 => omega
      intro v1 w1 ho1 hg1
      have hb1 := below_appended HO.out hg1 (by omega)
      have HB1 := Lib.hid (HB.out.trans hb1)
      have HO1 := Lib.hid ho1
      clear hb1 ho1 hg1 hix
      go_wp2_with fail
      go_roundg (31 - (k + 1))
      case measure => omega
      case rel => exact ⟨k + 1, by omega, by omega, by go_num, by rw [htk.out, List.map_take]; exact HO1.out, HB1.out⟩
    · obtain rfl : k = 31 := by omega
      have HR := Lib.hid (TxReads.own (l := signsT) HO.out)
      go_wp2_with fail
      go_ret
      exact ⟨_, rfl, HR.out, HB.out⟩
theorem signs_reads {w : World} {g : Nat} (h : TextsAt w g signsT) : TxReads w (.slice (some ⟨g, 0, none⟩) 31 31) signsT := ⟨_, 31, rfl, fun _ => ⟨g, h.1, rfl, h.2⟩⟩
theorem words_ok : ∀ (k : Nat) (h : k < 22), wordB (wordsT[k]'h) = true ∧ tokensL ((wordsT[k]'h).data.toList) = ([⟨2, wordsT[k]'h, 0, 1⟩, ⟨6, ⟨#[]⟩, 0, 1⟩], 0, 0) ∧ wordB ((wordsT[k]'h) ++ ⟨#[120]⟩) = false ∧ (wordsT[k]'h).size ≤ 10 := by decide +kernel
theorem XRow.below {w w' : World} {G k : Nat} (h : XRow w G k) (hb : Below w.heap.size w w') : XRow w' G k := by
  obtain ⟨C, hC, r⟩ := h
  exact ⟨C, (hb.block G (Array.getElem?_eq_some_iff.1 hC).1).trans hC, r⟩
theorem conv_xs {w : World} {G : Nat} (h : XRow w G 65536) (d n cap : Nat) (hd : d + n = 65536) :
    (convert 30 9 (.slice (some ⟨G, d, none⟩) n cap)).run Tryz.prog w = .ok (.string (bytesOf (xs n))) w := by
  obtain ⟨C, hC, hs, hx⟩ := h
  have := run_convert_ints (P := Tryz.prog) w 30 9 5 ⟨G, d, none⟩ cap (xs n) Tryz.underlying30 Tryz.underlying5 Tryz.underlying9 (fun j hj => by
    have hj' : j < n := by simpa [xs] using hj
    rw [show (⟨G, d, none⟩ : Addr).add j = ⟨G, d + j, none⟩ from by simp [Addr.add]]
    refine cell_of_heap4 hC (d + j) _ ?_
    rw [hx (d + j) (by omega)]
    simp [xs])
  rwa [show (xs n).length = n from by simp [xs]] at this
theorem xs_list (n : Nat) : (bytesOf (xs n)).data.toList = List.replicate n (120 : UInt8) := by
  show (List.map (fun x : Int => UInt8.ofNat x.toNat) (xs n)) = _
  rw [xs, List.map_replicate]; rfl

set_option maxHeartbeats 8000000 in
set_option maxRecDepth 100000 in
theorem lexNumbers_walk (w : World) (hV : LVars w) :
    Calls Tryz.prog 3 #[] w fun e w' => e = .returned (.bool true) ∧ Below w.heap.size w w' := by
  have HV := Lib.hid hV
  clear hV
  go_enter Tryz.func3, Tryz.ntmps3
  go_wp2_with fail
  refine (tok_is _ _ _ _ _).mono ?_
  rintro e w1 ⟨rfl, b1⟩
  have B1 := Lib.hid (trans_below (Below.refl _ _) b1)
  clear b1
  go_wp2_with fail
  refine (tok_is _ _ _ _ _).mono ?_
  rintro e w2 ⟨rfl, b2⟩
  have B2 := Lib.hid (trans_below B1.out b2)
  clear b2
  go_wp2_with fail
  refine (tok_is _ _ _ _ _).mono ?_
  rintro e w3 ⟨rfl, b3⟩
  have B3 := Lib.hid (trans_below B2.out b3)
  clear b3
  go_wp2_with fail
  refine (is_yes _ _ [⟨1, ⟨#[97]⟩, 0, 1⟩, ⟨2, ⟨#[101, 110, 100]⟩, 0, 2⟩, ⟨6, ⟨#[]⟩, 0, 2⟩] _ (reads_lit rfl rfl) (by decide +kernel) (by decide) (HV.out.below (Below.alloc B3.out (Below.size B3.out) _))).mono ?_
  rintro e w4 ⟨rfl, b4⟩
  have B4 := Lib.hid (trans_below B3.out (trans_below ((Below.refl _ _).alloc (Nat.le_refl _) _) b4))
  clear b4
  go_wp2_with fail
  refine (tok_is _ _ _ _ _).mono ?_
  rintro e w5 ⟨rfl, b5⟩
  have B5 := Lib.hid (trans_below B4.out b5)
  clear b5
  go_wp2_with fail
  refine (tok_is _ _ _ _ _).mono ?_
  rintro e w6 ⟨rfl, b6⟩
  have B6 := Lib.hid (trans_below B5.out b6)
  clear b6
  go_wp2_with fail
  refine (is_yes _ _ [⟨5, ⟨#[120, 93, 93, 10]⟩, 0, 1⟩, ⟨6, ⟨#[]⟩, 0, 3⟩] _ (reads_lit rfl rfl) (by decide +kernel) (by decide) (HV.out.below (Below.alloc B6.out (Below.size B6.out) _))).mono ?_
  rintro e w7 ⟨rfl, b7⟩
  have B7 := Lib.hid (trans_below B6.out (trans_below ((Below.refl _ _).alloc (Nat.le_refl _) _) b7))
  clear b7
  go_wp2_with fail
  refine (tok_is _ _ _ _ _).mono ?_
  rintro e w8 ⟨rfl, b8⟩
  have B8 := Lib.hid (trans_below B7.out b8)
  clear b8
  go_wp2_with fail
  refine (is_yes _ _ [⟨6, ⟨#[]⟩, 0, 1⟩] _ (reads_lit rfl rfl) (by decide +kernel) (by decide) (HV.out.below (Below.alloc B8.out (Below.size B8.out) _))).mono ?_
  rintro e w9 ⟨rfl, b9⟩
  have B9 := Lib.hid (trans_below B8.out (trans_below ((Below.refl _ _).alloc (Nat.le_refl _) _) b9))
  clear b9
  go_wp2_with fail
  refine (tok_is _ _ _ _ _).mono ?_
  rintro e w10 ⟨rfl, b10⟩
  have B10 := Lib.hid (trans_below B9.out b10)
  clear b10
  go_wp2_with fail
  refine (tok_is _ _ _ _ _).mono ?_
  rintro e w11 ⟨rfl, b11⟩
  have B11 := Lib.hid (trans_below B10.out b11)
  clear b11
  go_wp2_with fail
  refine (is_yes _ _ [⟨1, ⟨#[120]⟩, 0, 5⟩, ⟨6, ⟨#[]⟩, 0, 5⟩] _ (reads_lit rfl rfl) (by decide +kernel) (by decide) (HV.out.below (Below.alloc B11.out (Below.size B11.out) _))).mono ?_
  rintro e w12 ⟨rfl, b12⟩
  have B12 := Lib.hid (trans_below B11.out (trans_below ((Below.refl _ _).alloc (Nat.le_refl _) _) b12))
  clear b12
  go_wp2_with fail
  refine (tok_is _ _ _ _ _).mono ?_
  rintro e w13 ⟨rfl, b13⟩
  have B13 := Lib.hid (trans_below B12.out b13)
  clear b13
  go_wp2_with fail
  refine (tok_is _ _ _ _ _).mono ?_
  rintro e w14 ⟨rfl, b14⟩
  have B14 := Lib.hid (trans_below B13.out b14)
  clear b14
  go_wp2_with fail
  refine (is_yes _ _ [⟨5, ⟨#[10]⟩, 0, 1⟩, ⟨6, ⟨#[]⟩, 0, 3⟩] _ (reads_lit rfl rfl) (by decide +kernel) (by decide) (HV.out.below (Below.alloc B14.out (Below.size B14.out) _))).mono ?_
  rintro e w15 ⟨rfl, b15⟩
  have B15 := Lib.hid (trans_below B14.out (trans_below ((Below.refl _ _).alloc (Nat.le_refl _) _) b15))
  clear b15
  go_wp2_with fail
  obtain ⟨WA, hWA⟩ : ∃ W, W = w15.alloc (.cells noFloatsC 9) := ⟨_, rfl⟩
  have HTA := Lib.hid (texts_new w15 noFloats 9 noFloatsC rfl)
  have HBA := Lib.hid (B15.out.alloc B15.out.size (.cells noFloatsC 9))
  rw [show (w15.alloc (.cells #[.string ⟨#[49, 46, 53]⟩, .string ⟨#[49, 101, 51]⟩, .string ⟨#[97, 47, 98]⟩, .string ⟨#[57, 50, 50, 51, 51, 55, 50, 48, 51, 54, 56, 53, 52, 55, 55, 53, 56, 48, 56]⟩, .string ⟨#[46, 53]⟩, .string ⟨#[49, 46, 46, 50]⟩, .string ⟨#[48, 120, 49, 112, 52]⟩, .string ⟨#[48, 120, 46, 49]⟩, .string ⟨#[49, 101, 43, 53]⟩, .string ⟨#[50, 94, 51]⟩, .string ⟨#[51, 46]⟩, .string ⟨#[48, 120, 49, 46, 56]⟩] 9)) = WA from hWA.symm]
  rw [← hWA] at HTA HBA
  have hgA := HTA.out.1
  generalize w15.heap.size = gA at *
  clear hWA
  go_loopg [46] 12 (fun r i wr => ∃ k : Nat, r = 12 - k ∧ i = .int .i64 k ∧ k ≤ 12 ∧ Below WA.heap.size WA wr)
  case atStart => exact ⟨0, rfl, rfl, Nat.zero_le _, Below.refl _ _⟩
  case round =>
    obtain ⟨k, rfl, rfl, hk, hbw⟩ := hrel
    have HBW := Lib.hid hbw
    clear hbw
    by_cases hlt : k < 12
    · have hlt' : (k : Int) < 12 := by omega
      have hc := (HTA.out.below HBW.out).2 k hlt
      have hw := noFloats_wrong k hlt
      generalize noFloats[k]'hlt = tx at *
      go_wp2_with fail
      refine (wrong_yes tx 31 1 _ hw (HV.out.below (trans_below HBA.out HBW.out))).mono ?_
      rintro e wy ⟨rfl, by1⟩
      have HBY := Lib.hid (trans_below HBW.out by1)
      clear by1 hc hw
      go_wp2_with fail
      go_roundg (12 - (k + 1))
      case measure => omega
      case rel => exact ⟨k + 1, rfl, by go_num, by omega, HBY.out⟩
    · obtain rfl : k = 12 := by omega
      have HBAE := Lib.hid (trans_below HBA.out HBW.out)
      clear HBW HTA HBA
      generalize wr = wrA at *
      go_wp2_with fail
      obtain ⟨WC, hWC⟩ : ∃ W, W = wrA.alloc (.cells noTokensC 9) := ⟨_, rfl⟩
      have HTC := Lib.hid (texts_new wrA noTokens 9 noTokensC rfl)
      have HBC := Lib.hid (HBAE.out.alloc HBAE.out.size (.cells noTokensC 9))
      rw [show (wrA.alloc (.cells #[.string ⟨#[51, 120]⟩, .string ⟨#[48, 120]⟩, .string ⟨#[64]⟩, .string ⟨#[91, 61, 120]⟩, .string ⟨#[48, 120, 103]⟩, .string ⟨#[49, 50, 95]⟩, .string ⟨#[39, 92, 113, 39]⟩, .string ⟨#[34, 92, 52, 48, 48, 34]⟩, .string ⟨#[33]⟩, .string ⟨#[0]⟩, .string ⟨#[195, 164]⟩] 9)) = WC from hWC.symm]
      rw [← hWC] at HTC HBC
      have hgC := HTC.out.1
      generalize wrA.heap.size = gC at *
      clear hWC
      go_loopg [56] 11 (fun r i wr => ∃ k : Nat, r = 11 - k ∧ i = .int .i64 k ∧ k ≤ 11 ∧ Below WC.heap.size WC wr)
      case atStart => exact ⟨0, rfl, rfl, Nat.zero_le _, Below.refl _ _⟩
      case round =>
        obtain ⟨k, rfl, rfl, hk, hbw⟩ := hrel
        have HBW := Lib.hid hbw
        clear hbw
        by_cases hlt : k < 11
        · have hlt' : (k : Int) < 11 := by omega
          have hc := (HTC.out.below HBW.out).2 k hlt
          have hw := noTokens_wrong k hlt
          generalize noTokens[k]'hlt = tx at *
          go_wp2_with fail
          refine (wrong_yes tx 30 1 _ hw (HV.out.below (trans_below HBC.out HBW.out))).mono ?_
          rintro e wy ⟨rfl, by1⟩
          have HBY := Lib.hid (trans_below HBW.out by1)
          clear by1 hc hw
          go_wp2_with fail
          go_roundg (11 - (k + 1))
          case measure => omega
          case rel => exact ⟨k + 1, rfl, by go_num, by omega, HBY.out⟩
        · obtain rfl : k = 11 := by omega
          have HBCE := Lib.hid (trans_below HBC.out HBW.out)
          clear HBW HTC HBC
          generalize wr = wrC at *
          go_wp2_with fail
          refine (wrong_yes _ 30 2 _ (by decide +kernel) (HV.out.below HBCE.out)).mono ?_
          rintro e w101 ⟨rfl, b101⟩
          have B101 := Lib.hid (trans_below HBCE.out b101)
          clear b101
          go_wp2_with fail
          refine (wrong_yes _ 30 1 _ (by decide +kernel) (HV.out.below B101.out)).mono ?_
          rintro e w102 ⟨rfl, b102⟩
          have B102 := Lib.hid (trans_below B101.out b102)
          clear b102
          go_wp2_with fail
          refine (wrong_yes _ 30 2 _ (by decide +kernel) (HV.out.below B102.out)).mono ?_
          rintro e w103 ⟨rfl, b103⟩
          have B103 := Lib.hid (trans_below B102.out b103)
          clear b103
          go_wp2_with fail
          refine (wrong_yes _ 30 1 _ (by decide +kernel) (HV.out.below B103.out)).mono ?_
          rintro e w104 ⟨rfl, b104⟩
          have B104 := Lib.hid (trans_below B103.out b104)
          clear b104
          go_wp2_with fail
          refine (tok_is _ _ _ _ _).mono ?_
          rintro e w105 ⟨rfl, b105⟩
          have B105 := Lib.hid (trans_below B104.out b105)
          clear b105
          go_wp2_with fail
          refine (tok_is _ _ _ _ _).mono ?_
          rintro e w106 ⟨rfl, b106⟩
          have B106 := Lib.hid (trans_below B105.out b106)
          clear b106
          go_wp2_with fail
          refine (tok_is _ _ _ _ _).mono ?_
          rintro e w107 ⟨rfl, b107⟩
          have B107 := Lib.hid (trans_below B106.out b107)
          clear b107
          go_wp2_with fail
          refine (is_yes _ _ [⟨5, ⟨#[97]⟩, 0, 1⟩, ⟨1, ⟨#[120]⟩, 0, 3⟩, ⟨6, ⟨#[]⟩, 0, 3⟩] _ (reads_lit rfl rfl) (by decide +kernel) (by decide) (HV.out.below (Below.alloc B107.out (Below.size B107.out) _))).mono ?_
          rintro e w108 ⟨rfl, b108⟩
          have B108 := Lib.hid (trans_below B107.out (trans_below ((Below.refl _ _).alloc (Nat.le_refl _) _) b108))
          clear b108
          go_wp2_with fail
          refine (tok_is _ _ _ _ _).mono ?_
          rintro e w109 ⟨rfl, b109⟩
          have B109 := Lib.hid (trans_below B108.out b109)
          clear b109
          go_wp2_with fail
          refine (tok_is _ _ _ _ _).mono ?_
          rintro e w110 ⟨rfl, b110⟩
          have B110 := Lib.hid (trans_below B109.out b110)
          clear b110
          go_wp2_with fail
          refine (tok_is _ _ _ _ _).mono ?_
          rintro e w111 ⟨rfl, b111⟩
          have B111 := Lib.hid (trans_below B110.out b111)
          clear b111
          go_wp2_with fail
          refine (is_yes _ _ [⟨5, ⟨#[97, 10, 98]⟩, 0, 1⟩, ⟨1, ⟨#[121]⟩, 0, 3⟩, ⟨6, ⟨#[]⟩, 0, 3⟩] _ (reads_lit rfl rfl) (by decide +kernel) (by decide) (HV.out.below (Below.alloc B111.out (Below.size B111.out) _))).mono ?_
          rintro e w112 ⟨rfl, b112⟩
          have B112 := Lib.hid (trans_below B111.out (trans_below ((Below.refl _ _).alloc (Nat.le_refl _) _) b112))
          clear b112
          go_wp2_with fail
          refine (tok_is _ _ _ _ _).mono ?_
          rintro e w113 ⟨rfl, b113⟩
          have B113 := Lib.hid (trans_below B112.out b113)
          clear b113
          go_wp2_with fail
          refine (tok_is _ _ _ _ _).mono ?_
          rintro e w114 ⟨rfl, b114⟩
          have B114 := Lib.hid (trans_below B113.out b114)
          clear b114
          go_wp2_with fail
          refine (tok_is _ _ _ _ _).mono ?_
          rintro e w115 ⟨rfl, b115⟩
          have B115 := Lib.hid (trans_below B114.out b115)
          clear b115
          go_wp2_with fail
          refine (tok_is _ _ _ _ _).mono ?_
          rintro e w116 ⟨rfl, b116⟩
          have B116 := Lib.hid (trans_below B115.out b116)
          clear b116
          go_wp2_with fail
          refine (is_yes _ _ [⟨4, ⟨#[]⟩, (-1), 1⟩, ⟨4, ⟨#[]⟩, 9223372036854775807, 1⟩, ⟨4, ⟨#[]⟩, 7, 1⟩, ⟨6, ⟨#[]⟩, 0, 1⟩] _ (reads_lit rfl rfl) (by decide +kernel) (by decide) (HV.out.below (Below.alloc B116.out (Below.size B116.out) _))).mono ?_
          rintro e w117 ⟨rfl, b117⟩
          have B117 := Lib.hid (trans_below B116.out (trans_below ((Below.refl _ _).alloc (Nat.le_refl _) _) b117))
          clear b117
          go_wp2_with fail
          refine (tok_is _ _ _ _ _).mono ?_
          rintro e w118 ⟨rfl, b118⟩
          have B118 := Lib.hid (trans_below B117.out b118)
          clear b118
          go_wp2_with fail
          refine (is_yes _ _ [⟨6, ⟨#[]⟩, 0, 2⟩] _ (reads_lit rfl rfl) (by decide +kernel) (by decide) (HV.out.below (Below.alloc B118.out (Below.size B118.out) _))).mono ?_
          rintro e w119 ⟨rfl, b119⟩
          have B119 := Lib.hid (trans_below B118.out (trans_below ((Below.refl _ _).alloc (Nat.le_refl _) _) b119))
          clear b119
          go_wp2_with fail
          refine (tok_is _ _ _ _ _).mono ?_
          rintro e w120 ⟨rfl, b120⟩
          have B120 := Lib.hid (trans_below B119.out b120)
          clear b120
          go_wp2_with fail
          refine (tok_is _ _ _ _ _).mono ?_
          rintro e w121 ⟨rfl, b121⟩
          have B121 := Lib.hid (trans_below B120.out b121)
          clear b121
          go_wp2_with fail
          refine (tok_is _ _ _ _ _).mono ?_
          rintro e w122 ⟨rfl, b122⟩
          have B122 := Lib.hid (trans_below B121.out b122)
          clear b122
          go_wp2_with fail
          refine (tok_is _ _ _ _ _).mono ?_
          rintro e w123 ⟨rfl, b123⟩
          have B123 := Lib.hid (trans_below B122.out b123)
          clear b123
          go_wp2_with fail
          refine (tok_is _ _ _ _ _).mono ?_
          rintro e w124 ⟨rfl, b124⟩
          have B124 := Lib.hid (trans_below B123.out b124)
          clear b124
          go_wp2_with fail
          refine (tok_is _ _ _ _ _).mono ?_
          rintro e w125 ⟨rfl, b125⟩
          have B125 := Lib.hid (trans_below B124.out b125)
          clear b125
          go_wp2_with fail
          refine (tok_is _ _ _ _ _).mono ?_
          rintro e w126 ⟨rfl, b126⟩
          have B126 := Lib.hid (trans_below B125.out b126)
          clear b126
          go_wp2_with fail
          refine (tok_is _ _ _ _ _).mono ?_
          rintro e w127 ⟨rfl, b127⟩
          have B127 := Lib.hid (trans_below B126.out b127)
          clear b127
          go_wp2_with fail
          refine (tok_is _ _ _ _ _).mono ?_
          rintro e w128 ⟨rfl, b128⟩
          have B128 := Lib.hid (trans_below B127.out b128)
          clear b128
          go_wp2_with fail
          refine (is_yes _ _ [⟨1, ⟨#[97]⟩, 0, 1⟩, ⟨3, ⟨#[46]⟩, 0, 1⟩, ⟨1, ⟨#[98]⟩, 0, 1⟩, ⟨3, ⟨#[58]⟩, 0, 1⟩, ⟨1, ⟨#[99]⟩, 0, 1⟩, ⟨3, ⟨#[58, 58]⟩, 0, 1⟩, ⟨3, ⟨#[46, 46, 46]⟩, 0, 1⟩, ⟨3, ⟨#[60, 60]⟩, 0, 1⟩, ⟨6, ⟨#[]⟩, 0, 1⟩] _ (reads_lit rfl rfl) (by decide +kernel) (by decide) (HV.out.below (Below.alloc B128.out (Below.size B128.out) _))).mono ?_
          rintro e w129 ⟨rfl, b129⟩
          have B129 := Lib.hid (trans_below B128.out (trans_below ((Below.refl _ _).alloc (Nat.le_refl _) _) b129))
          clear b129
          have hmk := fun w => make_row w
          go_wp2_with fail
          obtain ⟨W5, hW5⟩ : ∃ W, W = w129.alloc (.cells (madeCells #[.int .u8 0] 65536) 5) := ⟨_, rfl⟩
          have HX := Lib.hid (show XRow W5 w129.heap.size 0 from ⟨_, hW5 ▸ heap_new _ _, by rw [size_madeCells], fun j hj => absurd hj (Nat.not_lt_zero _)⟩)
          have HB5 := Lib.hid (B129.out.alloc B129.out.size (.cells (madeCells #[.int .u8 0] 65536) 5))
          have hgw : w.heap.size ≤ w129.heap.size := B129.out.size
          rw [← hW5] at HB5
          rw [← hW5]
          clear hW5 hmk
          generalize w129.heap.size = G at *
          go_loopg [115] 65536 (fun r i wr => ∃ k : Nat, r = 65536 - k ∧ i = .int .i64 k ∧ k ≤ 65536 ∧ Below w.heap.size w wr ∧ XRow wr G k)
          case atStart => exact ⟨0, rfl, rfl, Nat.zero_le _, HB5.out, HX.out⟩
          case round =>
            clear HX HB5
            obtain ⟨k, rfl, rfl, hk, hbw, C, hC, hCs, hCx⟩ := hrel
            by_cases hlt : k < 65536
            · have hlt' : (k : Int) < 65536 := by omega
              have HN := Lib.hid (show XRow (wr.setCell ⟨G, k, none⟩ (.int .u8 120)) G (k + 1) from ⟨_, row_set _ hC, by simp [hCs], xs_set hCs hlt hCx⟩)
              have HBN := Lib.hid (hbw.setCell (p := ⟨G, k, none⟩) hgw (.int .u8 120))
              have hcell := cell_of_heap4 hC k _ (Array.getElem?_eq_getElem (by omega))
              have hfree := free_of_heap4 hC k
              generalize C[k]'(by omega) = cv at *
              clear hC hCs hCx hbw
              go_wp2_with fail
              go_roundg (65536 - (k + 1))
              case measure => omega
              case rel => exact ⟨k + 1, rfl, by go_num, by omega, HBN.out, HN.out⟩
            · obtain rfl : k = 65536 := by omega
              have HXR := Lib.hid (show XRow wr G 65536 from ⟨C, hC, hCs, hCx⟩)
              have HBW := Lib.hid hbw
              clear hC hCs hCx hbw
              have cv1 := conv_xs HXR.out 0 65536 65536 rfl
              have cA := fun w hV => own_tokens (bytesOf (xs 65536)) w hV
              rw [xs_list, tokensL, if_pos (by rw [List.length_replicate]; decide)] at cA
              unfold ToksSays at cA
              dsimp only at cA
              have cB := fun w hV => own_tokens (bytesOf (xs 65535)) w hV
              obtain ⟨tx, htx⟩ := tokens_xs 65535 (by decide) (by decide)
              rw [xs_list, htx] at cB
              unfold ToksSays at cB
              dsimp only at cB
              generalize hX6 : bytesOf (xs 65536) = X6 at *
              clear hX6 htx
              go_wp2_with fail
              refine (cA _ (HV.out.below HBW.out)).mono ?_
              rintro e w201 ⟨v201, rfl, hv201, hb201⟩
              have HX2 := Lib.hid (HXR.out.below hb201)
              have HB2 := Lib.hid (HBW.out.trans (hb201.mono HBW.out.size))
              have cv2 := conv_xs (HX2.out.below ((Below.refl w201.heap.size w201).alloc (Nat.le_refl _) (.cells #[.int .i64 3, .int .i64 0] 33))) 1 65535 65535 rfl
              generalize hX5 : bytesOf (xs 65535) = X5 at *
              clear hX5 hv201 cv1 cA
              go_wp2_with fail
              refine (cB _ (HV.out.below (HB2.out.alloc HB2.out.size _))).mono ?_
              rintro e w202 ⟨v202, rfl, ⟨ao, ca, rfl, _⟩, hb202⟩
              have hA1 : (w202.alloc (.cells #[.int .i64 0, .int .i64 0] 33)).heap[w201.heap.size]? = some (.cells #[.int .i64 3, .int .i64 0] 33 (0, 0)) := by
                rw [heap_old _ (by have := hb202.size; simp at this; omega), hb202.block w201.heap.size (by simp), heap_new]
              have hA2 := heap_new w202 (.cells #[.int .i64 0, .int .i64 0] 33)
              have HB7 := Lib.hid ((HB2.out.trans (((Below.refl w201.heap.size w201).alloc (Nat.le_refl _) (.cells #[.int .i64 3, .int .i64 0] 33) |>.trans (hb202.mono (by simp))).mono HB2.out.size)).alloc (by have := HB2.out.size; have := hb202.size; simp at this; omega) (.cells #[.int .i64 0, .int .i64 0] 33))
              have hlen : ([tx, ⟨6, ⟨#[]⟩, 0, 1⟩] : List Tok).length = 2 := rfl
              rw [hlen]
              clear cB cv2 HX2 HXR hb202 hlen
              go_wp2_with fail
              refine (ref_words _).mono ?_
              rintro e w203 ⟨rfl, ht3, hb203⟩
              have hF1 := Lib.hid ((hb203.block w201.heap.size (Array.getElem?_eq_some_iff.1 hA1).1).trans hA1)
              have hF2 := Lib.hid ((hb203.block w202.heap.size (by simp)).trans hA2)
              have HT3 := Lib.hid ht3
              have HB8 := Lib.hid (HB7.out.trans (hb203.mono HB7.out.size))
              have HV8 := Lib.hid (HV.out.below HB8.out)
              clear hA1 hA2 hb203 ht3 HB7 HB2
              generalize (w202.alloc (.cells #[.int .i64 0, .int .i64 0] 33)).heap.size = g3 at *
              generalize w201.heap.size = g1 at *
              generalize w202.heap.size = g2 at *
              go_wp2_with fail
              go_loopg [137] 22 (fun r i wr => ∃ k : Nat, r = 22 - k ∧ i = .int .i64 k ∧ k ≤ 22 ∧ Below w203.heap.size w203 wr)
              case atStart => exact ⟨0, rfl, rfl, Nat.zero_le _, Below.refl _ _⟩
              case round =>
                obtain ⟨k, rfl, rfl, hk, hbw⟩ := hrel
                have HBV := Lib.hid hbw
                clear hbw
                by_cases hlt : k < 22
                · have hlt' : (k : Int) < 22 := by omega
                  have hc := (HT3.out.below HBV.out).2 k hlt
                  obtain ⟨q1, q2, q3, q4⟩ := words_ok k hlt
                  generalize wordsT[k]'hlt = ty at *
                  have cw := fun w => own_wordB ty w
                  rw [q1] at cw
                  have cx := fun w => own_wordB (ty ++ ⟨#[120]⟩) w
                  rw [q3] at cx
                  have hcat := fun w => run_string_add_sum (P := Tryz.prog) (w := w) ty ⟨#[120]⟩ (by show ty.size + 1 ≤ _; omega)
                  generalize ty ++ ⟨#[120]⟩ = tyx at *
                  clear q1 q3
                  go_wp2_with fail
                  refine (cw _).mono ?_
                  rintro e v1 ⟨rfl, b1⟩
                  have D1 := Lib.hid (trans_below HBV.out b1)
                  clear b1
                  go_wp2_with fail
                  refine (tok_is _ _ _ _ _).mono ?_
                  rintro e v2 ⟨rfl, b2⟩
                  have D2 := Lib.hid (trans_below D1.out b2)
                  clear b2
                  go_wp2_with fail
                  refine (tok_is _ _ _ _ _).mono ?_
                  rintro e v3 ⟨rfl, b3⟩
                  have D3 := Lib.hid (trans_below D2.out b3)
                  clear b3
                  go_wp2_with fail
                  refine (is_yes ty _ [⟨2, ty, 0, 1⟩, ⟨6, ⟨#[]⟩, 0, 1⟩] _ (reads_lit rfl rfl) q2 (by show 2 ≤ 1000000000; decide) (HV.out.below (trans_below HB8.out (D3.out.alloc D3.out.size _)))).mono ?_
                  rintro e v4 ⟨rfl, b4⟩
                  have D4 := Lib.hid (trans_below D3.out (trans_below ((Below.refl _ _).alloc (Nat.le_refl _) _) b4))
                  clear b4
                  go_wp2_with fail
                  refine (cx _).mono ?_
                  rintro e v5 ⟨rfl, b5⟩
                  have D5 := Lib.hid (trans_below D4.out b5)
                  clear b5
                  go_wp2_with fail
                  go_roundg (22 - (k + 1))
                  case measure => omega
                  case rel => exact ⟨k + 1, rfl, by go_num, by omega, D5.out⟩
                · obtain rfl : k = 22 := by omega
                  go_wp2_with fail
                  refine (tok_is _ _ _ _ _).mono ?_
                  rintro e w301 ⟨rfl, b301⟩
                  have B301 := Lib.hid (trans_below HBV.out b301)
                  clear b301
                  go_wp2_with fail
                  refine (tok_is _ _ _ _ _).mono ?_
                  rintro e w302 ⟨rfl, b302⟩
                  have B302 := Lib.hid (trans_below B301.out b302)
                  clear b302
                  go_wp2_with fail
                  refine (tok_is _ _ _ _ _).mono ?_
                  rintro e w303 ⟨rfl, b303⟩
                  have B303 := Lib.hid (trans_below B302.out b303)
                  clear b303
                  go_wp2_with fail
                  refine (tok_is _ _ _ _ _).mono ?_
                  rintro e w304 ⟨rfl, b304⟩
                  have B304 := Lib.hid (trans_below B303.out b304)
                  clear b304
                  go_wp2_with fail
                  refine (is_yes _ _ [⟨4, ⟨#[]⟩, 14, 1⟩, ⟨3, ⟨#[43]⟩, 0, 1⟩, ⟨4, ⟨#[]⟩, 1, 1⟩, ⟨6, ⟨#[]⟩, 0, 1⟩] _ (reads_lit rfl rfl) (by decide +kernel) (by decide) (HV8.out.below (Below.alloc B304.out (Below.size B304.out) _))).mono ?_
                  rintro e w305 ⟨rfl, b305⟩
                  have B305 := Lib.hid (trans_below B304.out (trans_below ((Below.refl _ _).alloc (Nat.le_refl _) _) b305))
                  clear b305
                  go_wp2_with fail
                  refine (wrong_yes _ 31 1 _ (by decide +kernel) (HV8.out.below B305.out)).mono ?_
                  rintro e w306 ⟨rfl, b306⟩
                  have B306 := Lib.hid (trans_below B305.out b306)
                  clear b306
                  have HB9 := Lib.hid (trans_below HB8.out B306.out)
                  have kA := cell_of_heap4 ((B306.out.block g1 (Array.getElem?_eq_some_iff.1 hF1.out).1).trans hF1.out)
                  have kB := cell_of_heap4 ((B306.out.block g2 (Array.getElem?_eq_some_iff.1 hF2.out).1).trans hF2.out)
                  have kA0 := kA 0 (.int .i64 3) rfl
                  have kA1 := kA 1 (.int .i64 0) rfl
                  have kB0 := kB 0 (.int .i64 0) rfl
                  have kB1 := kB 1 (.int .i64 0) rfl
                  have hm := fault_guard
                  have hq3 := fun w => eql_fault 3 0 3 0 w
                  have hq0 := fun w => eql_fault 0 0 0 0 w
                  clear kA kB
                  go_wp2_with fail
                  refine (own_signs _ (HV.out.below HB9.out)).mono ?_
                  rintro e x1 ⟨vs, rfl, hvs, b1⟩
                  have E1 := Lib.hid (trans_below HB9.out b1)
                  go_wp2_with fail
                  refine (ref_signs _).mono ?_
                  rintro e x2 ⟨rfl, hvt, b2⟩
                  have E2 := Lib.hid (trans_below E1.out b2)
                  have hvs2 := hvs.below b2
                  clear b1 b2
                  go_wp2_with fail
                  refine (same_texts _ _ signsT _ hvs2 (signs_reads hvt) (by decide)).mono ?_
                  rintro e x3 ⟨rfl, b3⟩
                  have E3 := Lib.hid (trans_below E2.out b3)
                  clear b3
                  go_wp2_with fail
                  refine (awake_lex _ (HV.out.below E3.out)).mono ?_
                  rintro e x4 ⟨rfl, b4⟩
                  have E4 := Lib.hid (trans_below E3.out b4)
                  clear b4
                  go_wp2_with fail
                  go_ret
                  exact ⟨rfl, E4.out⟩


end Go.Proofs.YtajeghkmgcpgiaaGreatDoor.Lex
