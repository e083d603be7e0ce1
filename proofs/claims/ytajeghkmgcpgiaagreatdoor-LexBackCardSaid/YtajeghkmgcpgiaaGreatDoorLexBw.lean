/-
  LexBack's helpers: hex, written, plain, by contracts.
-/
import Derived.Test.YtajeghkmgcpgiaaGreatDoorLexBo
import Derived.Test.YtajeghkmgcpgiaaGreatDoorLexOj
import Derived.Test.YtajeghkmgcpgiaaGreatDoorLexJ
import Derived.Test.YtajeghkmgcpgiaaGreatDoorTxQuote
namespace Go.Proofs.YtajeghkmgcpgiaaGreatDoor.Lex
open Go.RowKit

theorem i64_and15 (n : Int) : bits .and .i64 n 15 = n % 16 := by
  have h63 : (BitVec.ofInt 64 15).toNat = 2 ^ 4 - 1 := by decide
  have key : (BitVec.ofInt 64 n &&& BitVec.ofInt 64 15).toNat = (n % ((2 ^ 64 : Nat) : Int)).toNat % 2 ^ 4 := by
    rw [BitVec.toNat_and, BitVec.toNat_ofInt, h63, Nat.and_two_pow_sub_one_eq_mod]
  show IntKind.i64.wrap ((BitVec.ofInt 64 n &&& BitVec.ofInt 64 15).toNat : Nat) = n % 16
  rw [key, IntKind.wrap_i64]
  omega
theorem i64_and7 (n : Int) : bits .and .i64 n 7 = n % 8 := by
  have h63 : (BitVec.ofInt 64 7).toNat = 2 ^ 3 - 1 := by decide
  have key : (BitVec.ofInt 64 n &&& BitVec.ofInt 64 7).toNat = (n % ((2 ^ 64 : Nat) : Int)).toNat % 2 ^ 3 := by
    rw [BitVec.toNat_and, BitVec.toNat_ofInt, h63, Nat.and_two_pow_sub_one_eq_mod]
  show IntKind.i64.wrap ((BitVec.ofInt 64 n &&& BitVec.ofInt 64 7).toNat : Nat) = n % 8
  rw [key, IntKind.wrap_i64]
  omega
def hexT : ByteArray := ⟨#[48, 49, 50, 51, 52, 53, 54, 55, 56, 57, 97, 98, 99, 100, 101, 102]⟩
theorem hexT_cut : ∀ d < 16, hexT.extract d (d + 1) = ⟨#[hexC d]⟩ := by decide +kernel
theorem cons_text (c : UInt8) (acc : List UInt8) : (⟨#[c]⟩ : ByteArray) ++ ⟨acc.toArray⟩ = ⟨(c :: acc).toArray⟩ := by
  apply ByteArray.ext
  apply Array.ext'
  simp
theorem hex_text (l : List UInt8) : (⟨#[48, 120]⟩ : ByteArray) ++ ⟨l.toArray⟩ = ⟨(48 :: 120 :: l).toArray⟩ := by
  apply ByteArray.ext
  apply Array.ext'
  simp

set_option maxHeartbeats 1000000 in
theorem law_hex (n : Int) (w : World) (hn : Num.In64 n) : Calls Tryz.prog 29 #[.int .i64 n] w fun e w' => e = .returned (.string ⟨(48 :: 120 :: hexD n : List UInt8).toArray⟩) ∧ w = w' := by
  have hfin := hex_text (hexD n)
  have hD : hexS (16 - 0) n [] = hexD n := rfl
  generalize hexD n = H at *
  have HF := Lib.hid hfin
  have HD := Lib.hid hD
  clear hfin hD
  obtain ⟨hn1, hn2⟩ := hn
  go_enter Tryz.func29, Tryz.ntmps29
  go_wp2_with fail
  go_loopg [0, 3, 4] 16 (fun r a b c wr => ∃ (k : Nat) (m : Int) (acc : List UInt8), r = 16 - k ∧ k ≤ 16 ∧ a = .int .i64 m ∧ b = .string ⟨acc.toArray⟩ ∧ c = .int .i64 (k : Int) ∧ acc.length = k ∧ -9223372036854775808 ≤ m ∧ m ≤ 9223372036854775807 ∧ hexS (16 - k) m acc = H ∧ w = wr)
  case atStart => exact ⟨0, n, [], rfl, by omega, rfl, rfl, rfl, rfl, hn1, hn2, HD.out, rfl⟩
  case round =>
    obtain ⟨k, m, acc, rfl, hk, rfl, rfl, rfl, hlen, hm1, hm2, hS, rfl⟩ := hrel
    by_cases hk16 : k < 16
    · obtain ⟨d, hd⟩ : ∃ d : Nat, d = (m % 16).toNat := ⟨_, rfl⟩
      have hd16 : d < 16 := by omega
      have hdm : m % 16 = (d : Int) := by omega
      have ha := i64_and15 m
      rw [hdm] at ha
      have hsl := run_within (P := Tryz.prog) 9 hexT (d : Int) ((d : Int) + 1) d (d + 1) Tryz.underlying9 (by omega) (by show d + 1 ≤ 16; omega) rfl (by omega)
      rw [hexT_cut d hd16] at hsl
      unfold hexT at hsl
      have hcat := fun w => run_string_add_sum (P := Tryz.prog) (w := w) ⟨#[hexC d]⟩ ⟨acc.toArray⟩ (by have z1 : (⟨#[hexC d]⟩ : ByteArray).size = 1 := rfl; have z2 : (⟨acc.toArray⟩ : ByteArray).size = acc.length := rfl; omega)
      rw [cons_text] at hcat
      have HS := Lib.hid (show hexS (16 - (k + 1)) (m / 16) (hexC d :: acc) = H by
        rw [← hS, show 16 - k = (16 - (k + 1)) + 1 by omega, hexS, hd])
      have hq1 : -9223372036854775808 ≤ m / 16 := by omega
      have hq2 : m / 16 ≤ 9223372036854775807 := by omega
      have hd15 : (d : Int) ≤ 15 := by omega
      generalize hexC d = c at *
      clear hS hd hdm
      go_wp2_with fail
      go_roundg (16 - (k + 1))
      case measure => omega
      case rel => exact ⟨k + 1, m / 16, c :: acc, by omega, by omega, rfl, rfl, by go_num, by rw [List.length_cons, hlen], hq1, hq2, HS.out, rfl⟩
    · obtain rfl : k = 16 := by omega
      have hacc : acc = H := hS
      subst hacc
      have hcat := fun w => run_string_add_sum (P := Tryz.prog) (w := w) ⟨#[48, 120]⟩ ⟨acc.toArray⟩ (by have z1 : (⟨#[48, 120]⟩ : ByteArray).size = 2 := rfl; have z2 : (⟨acc.toArray⟩ : ByteArray).size = acc.length := rfl; omega)
      rw [HF.out] at hcat
      go_wp2_with fail
      go_ret
      exact ⟨rfl, rfl⟩

theorem own_itoa (n : Int) (w : World) (hn : Num.In64 n) (hV : LVars w) : Calls Tryz.prog 30 #[.int .i64 n] w fun e w' => e = .returned (.string ⟨(Lib.itoa n).toArray⟩) ∧ Below w.heap.size w w' := by
  have c := Tryz.strconv_FormatInt_10 n hn.1 hn.2 w hV.num.tab
  clear hn hV
  go_enter Tryz.func30, Tryz.ntmps30
  go_wp2_with fail
  refine c.mono ?_
  rintro e w1 ⟨rfl, k, os, rfl⟩
  go_wp2
  go_ret
  exact ⟨rfl, Lib.below_grow _ _ (Nat.le_refl _) _ _⟩

set_option maxHeartbeats 2000000 in
theorem law_written (t : Tok) (w : World) (hs : t.s.size ≤ 20000) (hn : Num.In64 t.n) (hV : LVars w) :
    Calls Tryz.prog 20 #[.agg #[.int .u8 t.k, .string t.s, .int .i64 t.n, .int .i64 t.line]] w fun e w' => e = .returned (.string ⟨(wrt t).toArray⟩) ∧ Below w.heap.size w w' := by
  have hW : wrt t = if t.k = 4 then (if t.n < 0 then 48 :: 120 :: hexD t.n else Lib.itoa t.n) else if t.k = 5 then 34 :: (quotL t.s.data.toList ++ [34]) else t.s.data.toList := rfl
  have ch := fun w => law_hex t.n w hn
  have ci := fun w hV => own_itoa t.n w hn hV
  have cq := fun w => own_quote t.s w (by omega)
  have HV := Lib.hid hV
  clear hV
  generalize wrt t = W at *
  obtain ⟨k, s, n, line⟩ := t
  dsimp only at hW ch ci cq hs hn ⊢
  by_cases h4 : k = 4
  · have t4 : ((k : Int) == 4) = true := by rw [h4]; rfl
    rw [if_pos h4] at hW
    by_cases h0 : n < 0
    · rw [if_pos h0] at hW
      have HW := Lib.hid hW
      generalize (48 :: 120 :: hexD n : List UInt8) = X at *
      clear hW h4
      go_enter Tryz.func20, Tryz.ntmps20
      go_wp2_with fail
      refine (ch _).mono ?_
      rintro e w1 ⟨rfl, rfl⟩
      go_wp2_with fail
      go_ret
      exact ⟨by rw [HW.out]; rfl, (Below.refl _ _).alloc (Nat.le_refl _) _⟩
    · rw [if_neg h0] at hW
      have HW := Lib.hid hW
      clear hW h4
      go_enter Tryz.func20, Tryz.ntmps20
      go_wp2_with fail
      refine (ci _ (HV.out.below ((Below.refl _ w).alloc (Nat.le_refl _) _))).mono ?_
      rintro e w1 ⟨rfl, b1⟩
      have B1 := Lib.hid (trans_below ((Below.refl _ w).alloc (Nat.le_refl _) _) b1)
      clear b1
      go_wp2_with fail
      go_ret
      exact ⟨by rw [HW.out]; rfl, B1.out⟩
  · have t4 : ((k : Int) == 4) = false := by rw [beq_eq_false_iff_ne]; omega
    rw [if_neg h4] at hW
    by_cases h5 : k = 5
    · have t5 : ((k : Int) == 5) = true := by rw [h5]; rfl
      rw [if_pos h5] at hW
      have HW := Lib.hid hW
      clear hW h4 h5
      go_enter Tryz.func20, Tryz.ntmps20
      go_wp2_with fail
      refine (cq _).mono ?_
      rintro e w1 ⟨rfl, b1⟩
      have B1 := Lib.hid (trans_below ((Below.refl _ w).alloc (Nat.le_refl _) _) b1)
      clear b1
      go_wp2_with fail
      go_ret
      exact ⟨by rw [HW.out]; rfl, B1.out⟩
    · have t5 : ((k : Int) == 5) = false := by rw [beq_eq_false_iff_ne]; omega
      rw [if_neg h5] at hW
      have HW := Lib.hid hW
      clear hW h4 h5
      go_enter Tryz.func20, Tryz.ntmps20
      go_wp2_with fail
      go_ret
      exact ⟨by rw [HW.out]; rfl, (Below.refl _ _).alloc (Nat.le_refl _) _⟩

set_option maxHeartbeats 2000000 in
theorem law_plain (x : Value) (l : List Tok) (w : World) (hx : TokReads w x l) (hl : l.length ≤ 1000000) :
    Calls Tryz.prog 21 #[x] w fun e w' => ∃ v, e = .returned v ∧ TokReads w' v (l.map pl) ∧ Below w.heap.size w w' := by
  obtain ⟨ao, ca, rfl, hca⟩ := hx
  obtain ⟨n, hna⟩ : ∃ n, n = l.length := ⟨_, rfl⟩
  rw [← hna]
  rw [← hna] at hl
  have HNA := Lib.hid hna
  clear hna
  go_enter Tryz.func21, Tryz.ntmps21
  go_wp2_with fail
  go_loopg [3, 4] n (fun r v i wr => ∃ k : Nat, r = n - k ∧ i = .int .i64 k ∧ k ≤ n ∧ wr.ownsRow w.heap.size 25 4 v ((l.take k).map pl).length (toksCells ((l.take k).map pl)) ∧ Below w.heap.size w wr)
  case atStart => exact ⟨0, rfl, rfl, Nat.zero_le _, World.ownsRow_nil _ _ _ _, Below.refl _ _⟩
  case round =>
    obtain ⟨k, rfl, rfl, hk, ho, hbw⟩ := hrel
    have HO := Lib.hid ho
    have hsz := hbw.size
    have hpl : ((l.take k).map pl).length = k := by have := HNA.out; rw [List.length_map, List.length_take]; omega
    by_cases hlt : k < n
    · have hlt' : (k : Int) < n := by omega
      have hlta : k < l.length := by have := HNA.out; omega
      obtain ⟨g, hg, rfl, hc⟩ := hca (fun h => by rw [h] at hlta; cases hlta)
      obtain ⟨c0, c1, c2, c3⟩ := hc k hlta
      rw [← hbw.cell (p := ⟨g, _, none⟩) hg] at c0 c1 c2 c3
      have htk := Lib.hid (show (l.take (k + 1)).map pl = (l.take k).map pl ++ [pl (l[k]'hlta)] by rw [List.take_succ_eq_append_getElem hlta, List.map_append]; rfl)
      generalize l[k]'hlta = t at *
      generalize (l.take k).map pl = P at *
      have HBW := Lib.hid hbw
      have HO2 := Lib.hid (own_below HO.out ((Below.refl _ wr).alloc (Nat.le_refl _) (.cells #[.int .u8 t.k, .string t.s, .int .i64 t.n, .int .i64 0] 25)))
      have HB2 := Lib.hid (HBW.out.alloc hsz (.cells #[.int .u8 t.k, .string t.s, .int .i64 t.n, .int .i64 0] 25))
      have e0 := IntWalk.i64_in k (by omega)
      clear hca hc hbw ho
      go_wp2_with (at_builtin; refine wpList_append_tok rfl (.tmp 17) (.tmp 19) rfl w.heap.size _ P (pl t) t.k 0 rfl rfl rfl HO2.out _ rfl (by simp) ?p1 ?p2 ?_)
      case p1 => omega
      case p2 => simp; omega
      intro v1 w1 ho1 hg1
      have hb1 := below_appended HO2.out hg1 (by simp; omega)
      have HB3 := Lib.hid (HB2.out.trans hb1)
      have HO3 := Lib.hid ho1
      clear hb1 ho1 hg1 c0 c1 c2 c3 e0
      go_wp2_with fail
      go_roundg (n - (k + 1))
      case measure => omega
      case rel => exact ⟨k + 1, rfl, by go_num, by omega, by rw [htk.out, List.length_append, List.length_singleton, hpl]; exact HO3.out, HB3.out⟩
    · obtain rfl : k = n := by omega
      have htk : l.take k = l := List.take_of_length_le (by have := HNA.out; omega)
      have hR := TokReads.own HO.out
      rw [htk] at hR
      have HR := Lib.hid hR
      have HBW := Lib.hid hbw
      clear hbw ho hR htk
      go_wp2_with fail
      go_ret
      exact ⟨_, rfl, HR.out, HBW.out⟩

end Go.Proofs.YtajeghkmgcpgiaaGreatDoor.Lex
