/-
  Package texts: Quote, by contract.
-/
import Derived.Test.YtajeghkmgcpgiaaGreatDoorTxMath
import Derived.Test.YtajeghkmgcpgiaaGreatDoorTextsGm
import Derived.Test.YtajeghkmgcpgiaaGreatDoorOwnBuilder
namespace Go.Proofs.YtajeghkmgcpgiaaGreatDoor
open Go.RowKit

theorem quot_34 : quotB 34 = [92, 34] := rfl
theorem quot_92 : quotB 92 = [92, 92] := rfl
theorem quot_10 : quotB 10 = [92, 110] := rfl
theorem quot_self {b : Nat} (h1 : b ≠ 34) (h2 : b ≠ 92) (h3 : 32 ≤ b) (h4 : b ≤ 126) : quotB b = [UInt8.ofNat b] := by
  unfold quotB; rw [if_neg (by omega), if_neg h1, if_neg h2, if_pos ⟨h3, h4⟩]
theorem quot_dig {b : Nat} (h1 : b ≠ 10) (h : ¬ (32 ≤ b ∧ b ≤ 126)) : quotB b = [92, UInt8.ofNat (48 + b / 100), UInt8.ofNat (48 + b / 10 % 10), UInt8.ofNat (48 + b % 10)] := by
  unfold quotB; rw [if_neg h1, if_neg (by omega), if_neg (by omega), if_neg h]; rfl

/-- What is written up to place k. -/
structure QuotAt (s : ByteArray) (k : Nat) (acc : List UInt8) : Prop where
  le : k ≤ s.size
  says : acc = 34 :: quotL (s.data.toList.take k)
theorem QuotAt.small {s : ByteArray} {k : Nat} {acc : List UInt8} (h : QuotAt s k acc) : acc.length ≤ 1 + 4 * k := by
  have h1 := quotL_size (s.data.toList.take k)
  have h2 : (s.data.toList.take k).length ≤ k := List.length_take_le _ _
  rw [h.says, List.length_cons]; omega
theorem QuotAt.more {s : ByteArray} {k b : Nat} {acc t : List UInt8} (h : QuotAt s k acc) (hk : k < s.size) (hb : byteAt s k = b) (ht : quotB b = t) : QuotAt s (k + 1) (acc ++ t) :=
  ⟨hk, by rw [h.says, quot_more hk, hb, ht]; rfl⟩
theorem QuotAt.done {s : ByteArray} {acc : List UInt8} (h : QuotAt s s.size acc) : (⟨(acc ++ [34]).toArray⟩ : ByteArray) = quoteT s.data.toList := by
  rw [h.says, List.take_of_length_le (show s.data.toList.length ≤ s.size from Nat.le_refl _)]; rfl

def digs (x y z : Nat) : List UInt8 := [92, UInt8.ofNat (48 + x), UInt8.ofNat (48 + y), UInt8.ofNat (48 + z)]
theorem digs_cells (w : World) {x y z : Nat} (hx : x ≤ 9) (hy : y ≤ 9) (hz : z ≤ 9) (j : Nat) (u : Value) (h : (Lib.byteCells (digs x y z))[j]? = some u) :
    (w.alloc (.cells #[.int .u8 92, .int .u8 (48 + (x : Int)), .int .u8 (48 + (y : Int)), .int .u8 (48 + (z : Int))] 5)).cell? ⟨w.heap.size, j, none⟩ = some u := by
  have e : ∀ n, n ≤ 9 → ((UInt8.ofNat (48 + n)).toNat : Int) = 48 + (n : Int) := fun n hn => by
    have : (UInt8.ofNat (48 + n)).toNat = 48 + n := by rw [UInt8.toNat_ofNat']; omega
    omega
  have hl : Lib.byteCells (digs x y z) = [.int .u8 92, .int .u8 (48 + (x : Int)), .int .u8 (48 + (y : Int)), .int .u8 (48 + (z : Int))] := by
    unfold Lib.byteCells digs
    simp only [List.map_cons, List.map_nil, e x hx, e y hy, e z hz]
    rfl
  rw [hl] at h
  rw [World.cell?_alloc_mark, ← h]
  simp
theorem write_digs (w0 : World) (l : List UInt8) (x y z : Nat) (W : World) (h : Bld w0 w0.heap.size l W) (hl : l.length ≤ 1000000000) (hx : x ≤ 9) (hy : y ≤ 9) (hz : z ≤ 9) :
    Calls Tryz.prog 61 #[.pointer (some ⟨w0.heap.size, 0, none⟩), .slice (some ⟨W.heap.size, 0, none⟩) 4 4]
      (W.alloc (.cells #[.int .u8 92, .int .u8 (48 + (x : Int)), .int .u8 (48 + (y : Int)), .int .u8 (48 + (z : Int))] 5)) fun e w' => e = .returned (.tuple #[.int .i64 4, .nilIface]) ∧ Bld w0 w0.heap.size (l ++ digs x y z) w' :=
  write_bytes w0 w0.heap.size l W.heap.size 4 (digs x y z) _ (h.alloc _) hl (show 4 ≤ 1000000000 by decide) (digs_cells W hx hy hz) (Nat.ne_of_gt h.lt)

set_option maxHeartbeats 4000000 in
set_option maxRecDepth 100000 in
theorem own_quote (s : ByteArray) (w : World) (hs : s.size ≤ 100000000) :
    Calls Tryz.prog 31 #[.string s] w fun e w' => e = .returned (.string (quoteT s.data.toList)) ∧ Below w.heap.size w w' := by
  go_enter Tryz.func31, Tryz.ntmps31
  go_wp2_with fail
  refine (write_byte w w.heap.size [] 34 _ (Bld.fresh w) (by decide) (by decide)).mono ?_
  rintro e w1 ⟨rfl, b1⟩
  have B1 := Lib.hid b1
  clear b1
  go_wp2_with fail
  go_loopw [9] (fun i wr => ∃ (k : Nat) (acc : List UInt8), i = .int .i64 k ∧ QuotAt s k acc ∧ Bld w w.heap.size acc wr) (fun i _ => s.size - (intOf i).toNat)
  case atStart => exact ⟨0, _, rfl, ⟨Nat.zero_le _, rfl⟩, B1.out⟩
  case round =>
    obtain ⟨k, acc, rfl, hu, hb⟩ := hrel
    have hle := hu.le
    have hsm := hu.small
    have HU := Lib.hid hu
    have HB := Lib.hid hb
    clear hu hb
    by_cases hlt : k < s.size
    · have hlt' : (k : Int) < s.size := by omega
      have hx := run_index_at (P := Tryz.prog) 9 s (k : Int) k Tryz.underlying9 hlt rfl
      have hb9 := byteAt_lt s k
      have HM := fun t (ht : quotB (byteAt s k) = t) => HU.out.more hlt rfl ht
      generalize byteAt s k = b at *
      by_cases h34 : b = 34 ∨ b = 92
      · rcases h34 with hc | hc
        · have t1 : ((b : Int) == 34) = true := by rw [hc]; rfl
          have HQ := Lib.hid (HM _ ((congrArg quotB hc).trans quot_34))
          have HC := Lib.hid (show UInt8.ofNat b = 34 by rw [hc]; rfl)
          clear HM hc
          go_wp2_with fail
          refine (write_byte w w.heap.size acc 92 wr HB.out (by decide) (by omega)).mono ?_
          rintro e w1 ⟨rfl, b1⟩
          go_wp2_with fail
          refine (write_byte w w.heap.size _ b w1 b1 hb9 (by rw [List.length_append, List.length_singleton]; omega)).mono ?_
          rintro e w2 ⟨rfl, b2⟩
          rw [HC.out, List.append_assoc] at b2
          have B2 := Lib.hid b2
          clear b1 b2
          go_wp2_with fail
          go_roundw
          case rel => exact ⟨k + 1, _, by go_num, HQ.out, B2.out⟩
          case measure => simp only [intOf]; omega
        · have t1 : ((b : Int) == 34) = false := by rw [hc]; rfl
          have t2 : ((b : Int) == 92) = true := by rw [hc]; rfl
          have HQ := Lib.hid (HM _ ((congrArg quotB hc).trans quot_92))
          have HC := Lib.hid (show UInt8.ofNat b = 92 by rw [hc]; rfl)
          clear HM hc
          go_wp2_with fail
          refine (write_byte w w.heap.size acc 92 wr HB.out (by decide) (by omega)).mono ?_
          rintro e w1 ⟨rfl, b1⟩
          go_wp2_with fail
          refine (write_byte w w.heap.size _ b w1 b1 hb9 (by rw [List.length_append, List.length_singleton]; omega)).mono ?_
          rintro e w2 ⟨rfl, b2⟩
          rw [HC.out, List.append_assoc] at b2
          have B2 := Lib.hid b2
          clear b1 b2
          go_wp2_with fail
          go_roundw
          case rel => exact ⟨k + 1, _, by go_num, HQ.out, B2.out⟩
          case measure => simp only [intOf]; omega
      · have t1 : ((b : Int) == 34) = false := by rw [beq_eq_false_iff_ne]; omega
        have t2 : ((b : Int) == 92) = false := by rw [beq_eq_false_iff_ne]; omega
        by_cases h10 : b = 10
        · have t3 : ((b : Int) == 10) = true := by rw [h10]; rfl
          have HQ := Lib.hid (HM _ ((congrArg quotB h10).trans quot_10))
          clear HM h10 h34
          go_wp2_with fail
          refine (write_text w w.heap.size acc ⟨#[92, 110]⟩ wr HB.out (by omega) (by decide)).mono ?_
          rintro e w1 ⟨rfl, b1⟩
          have B1 := Lib.hid b1
          clear b1
          go_wp2_with fail
          go_roundw
          case rel => exact ⟨k + 1, _, by go_num, HQ.out, B1.out⟩
          case measure => simp only [intOf]; omega
        · have t3 : ((b : Int) == 10) = false := by rw [beq_eq_false_iff_ne]; omega
          by_cases hp : 32 ≤ b ∧ b ≤ 126
          · obtain ⟨hp1, hp2⟩ := hp
            have hp1' : (32 : Int) ≤ b := by omega
            have hp2' : (b : Int) ≤ 126 := by omega
            have HQ := Lib.hid (HM _ (quot_self (by omega) (by omega) hp1 hp2))
            clear HM h10 h34
            go_wp2_with fail
            refine (write_byte w w.heap.size acc b wr HB.out hb9 (by omega)).mono ?_
            rintro e w1 ⟨rfl, b1⟩
            have B1 := Lib.hid b1
            clear b1
            go_wp2_with fail
            go_roundw
            case rel => exact ⟨k + 1, _, by go_num, HQ.out, B1.out⟩
            case measure => simp only [intOf]; omega
          · have HQ := Lib.hid (HM _ (quot_dig h10 hp))
            obtain ⟨x, hx1⟩ : ∃ x, x = b / 100 := ⟨_, rfl⟩
            obtain ⟨q, hq1⟩ : ∃ q, q = b / 10 := ⟨_, rfl⟩
            obtain ⟨y, hy1⟩ : ∃ y, y = q % 10 := ⟨_, rfl⟩
            obtain ⟨z, hz1⟩ : ∃ z, z = b % 10 := ⟨_, rfl⟩
            rw [← hq1, ← hx1, ← hy1, ← hz1] at HQ
            have x9 : (x : Int) ≤ 2 := by omega
            have y9 : (y : Int) ≤ 9 := by omega
            have z9 : (z : Int) ≤ 9 := by omega
            have q9 : (q : Int) ≤ 25 := by omega
            have v1 : (b : Int) / 100 = x := by omega
            have v2 : (b : Int) / 10 = q := by omega
            have v3 : (q : Int) % 10 = y := by omega
            have v4 : (b : Int) % 10 = z := by omega
            have w1 : (b : Int).tdiv 100 = x := by rw [Int.tdiv_eq_ediv_of_nonneg (by omega)]; exact v1
            have w2 : (b : Int).tdiv 10 = q := by rw [Int.tdiv_eq_ediv_of_nonneg (by omega)]; exact v2
            have w3 : (q : Int).tmod 10 = y := by rw [Int.tmod_eq_emod_of_nonneg (by omega)]; exact v3
            have w4 : (b : Int).tmod 10 = z := by rw [Int.tmod_eq_emod_of_nonneg (by omega)]; exact v4
            have u1 : decide ((32 : Int) ≤ b) = true → decide ((b : Int) ≤ 126) = false := by simp; omega
            clear hx1 hq1 hy1 hz1 HM h10 h34
            by_cases h32 : 32 ≤ b
            · have h32' : (32 : Int) ≤ b := by omega
              have h126 : decide ((b : Int) ≤ 126) = false := by simp; omega
              clear u1
              go_wp2_with fail
              refine (write_digs w acc x y z wr HB.out (by omega) (by omega) (by omega) (by omega)).mono ?_
              rintro e w1 ⟨rfl, b1⟩
              have B1 := Lib.hid b1
              clear b1
              go_wp2_with fail
              go_roundw
              case rel => exact ⟨k + 1, _, by go_num, HQ.out, B1.out⟩
              case measure => simp only [intOf]; omega
            · have h32' : decide ((32 : Int) ≤ b) = false := by simp; omega
              clear u1
              go_wp2_with fail
              refine (write_digs w acc x y z wr HB.out (by omega) (by omega) (by omega) (by omega)).mono ?_
              rintro e w1 ⟨rfl, b1⟩
              have B1 := Lib.hid b1
              clear b1
              go_wp2_with fail
              go_roundw
              case rel => exact ⟨k + 1, _, by go_num, HQ.out, B1.out⟩
              case measure => simp only [intOf]; omega
    · obtain rfl : k = s.size := by omega
      have HD := Lib.hid HU.out.done
      go_wp2_with fail
      refine (write_byte w w.heap.size acc 34 wr HB.out (by decide) (by omega)).mono ?_
      rintro e w2 ⟨rfl, b2⟩
      go_wp2_with fail
      refine (builder_text w w.heap.size _ w2 b2).mono ?_
      rintro e w3 ⟨rfl, b3⟩
      have B3 := Lib.hid b3
      clear b2 b3
      go_wp2_with fail
      go_ret
      exact ⟨by rw [← HD.out]; rfl, B3.out.low⟩

end Go.Proofs.YtajeghkmgcpgiaaGreatDoor
