/-
  Layer 12: the law PoolNone, over what the calls say of a pool that New did not make.
-/
import Derived.Test.YtpfhaafaoedgpaaPlAwake
namespace Go.Proofs.Ytpfhaafaoedgpaa.Pl
open Go Go.RowKit

/-- The zero pool: ITS CELLS ARE THE DEVELOPERS' STRUCT'S: change this line with it. -/
def zeroPool : Array Value := #[.pointer none, .int .i64 0, .int .i64 0, .slice none 0 0, .slice none 0 0]
/-- What the calls say of a pool that is none. -/
structure DeadSays (DP : World → Value → Prop) : Prop where
  keep : ∀ {w w' p}, DP w p → Below w.heap.size w w' → DP w' p
  take : ∀ {w p} (size : Int), DP w p → In64 size → Calls Try.prog 8 #[p, .int .i64 size] w (fun e w' => e = .returned (.tuple #[.int .i64 0, .int .i64 1]) ∧ Below w.heap.size w w')
  size : ∀ {w p} (id : Int), DP w p → In64 id → Calls Try.prog 12 #[p, .int .i64 id] w (fun e w' => e = .returned (.tuple #[.int .i64 0, .bool false]) ∧ Below w.heap.size w w')
  give : ∀ {w p} (id : Int), DP w p → In64 id → Calls Try.prog 9 #[p, .int .i64 id] w (fun e w' => e = .returned (.int .i64 1) ∧ Below w.heap.size w w')
  resize : ∀ {w p} (id size : Int), DP w p → In64 id → In64 size → Calls Try.prog 10 #[p, .int .i64 id, .int .i64 size] w (fun e w' => e = .returned (.int .i64 1) ∧ Below w.heap.size w w')
  used : ∀ {w p}, DP w p → Calls Try.prog 14 #[p] w (fun e w' => e = .returned (.int .i64 0) ∧ Below w.heap.size w w')
  count : ∀ {w p}, DP w p → Calls Try.prog 13 #[p] w (fun e w' => e = .returned (.int .i64 0) ∧ Below w.heap.size w w')
  ids : ∀ {w p}, DP w p → Calls Try.prog 24 #[p] w (fun e w' => ∃ ao cap, e = .returned (.slice ao 0 cap) ∧ Below w.heap.size w w')
  copy : ∀ {w p}, DP w p → Calls Try.prog 20 #[p] w (fun e w' => e = .returned (.pointer none) ∧ Below w.heap.size w w')
  nil : ∀ w, DP w (.pointer none)
  zero : ∀ (w : World), DP (w.alloc (.cells zeroPool 52)) (.pointer (some ⟨w.heap.size, 0, none⟩))

set_option maxHeartbeats 4000000 in
set_option maxRecDepth 100000 in
theorem none_walk (PA : PoolP) (H : PoolSays PA) (DP : World → Value → Prop) (D : DeadSays DP) (id size : Int) (h1 : In64 id) (h2 : In64 size) (w : World) :
    Calls Try.prog 5 #[.int .i64 id, .int .i64 size] w (fun e w' => e = .returned (.bool true) ∧ Below w.heap.size w w') := by
  have hb0 : Below w.heap.size w ((w.alloc (.cells zeroPool 52)).alloc (.cells #[.pointer none, .pointer (some ⟨w.heap.size, 0, none⟩)] 22)) := ((Below.refl _ _).alloc (Nat.le_refl _) _).alloc (by simp) _
  have hd : DP ((w.alloc (.cells zeroPool 52)).alloc (.cells #[.pointer none, .pointer (some ⟨w.heap.size, 0, none⟩)] 22)) (.pointer (some ⟨w.heap.size, 0, none⟩)) := D.keep (D.zero w) ((Below.refl _ _).alloc (Nat.le_refl _) _)
  have hl : ((w.alloc (.cells zeroPool 52)).alloc (.cells #[.pointer none, .pointer (some ⟨w.heap.size, 0, none⟩)] 22)).heap[w.heap.size + 1]? = some (.cells #[.pointer none, .pointer (some ⟨w.heap.size, 0, none⟩)] 22 (0, 0)) := by
    have := new_block (w.alloc (.cells zeroPool 52)) (.cells #[.pointer none, .pointer (some ⟨w.heap.size, 0, none⟩)] 22)
    rwa [show (w.alloc (.cells zeroPool 52)).heap.size = w.heap.size + 1 from by simp] at this
  have HB0 := Lib.hid hb0
  have HD := Lib.hid hd
  have HL := Lib.hid hl
  have HI1 := Lib.hid h1
  have HI2 := Lib.hid h2
  clear hb0 hd hl h1 h2
  unfold zeroPool at HB0 HD HL
  go_enter Try.func5, Try.ntmps5
  go_wp2_with fail
  generalize hW : (w.alloc (.cells #[.pointer none, .int .i64 0, .int .i64 0, .slice none 0 0, .slice none 0 0] 52)).alloc (.cells #[.pointer none, .pointer (some ⟨w.heap.size, 0, none⟩)] 22) = W at *
  clear hW
  go_loopg [17] 2 (fun r i wr => ∃ k : Nat, r = 2 - k ∧ i = .int .i64 k ∧ k ≤ 2 ∧ Below W.heap.size W wr)
  case atStart => exact ⟨0, rfl, rfl, Nat.zero_le _, Below.refl _ _⟩
  case round =>
    obtain ⟨k, rfl, rfl, hk, hbw⟩ := hrel
    by_cases hlt : k < 2
    · have hlt' : (k : Int) < 2 := by omega
      have e0 := IntWalk.i64_in ((k : Int) + 1) (by omega)
      obtain ⟨p, hp, hdp⟩ : ∃ p, W.cell? ⟨w.heap.size + 1, k, none⟩ = some p ∧ DP W p := by
        match k, hlt with
        | 0, _ => exact ⟨_, cell_of HL.out 0 _ rfl, D.nil W⟩
        | 1, _ => exact ⟨_, cell_of HL.out 1 _ rfl, HD.out⟩
      rw [← hbw.cell (p := ⟨w.heap.size + 1, k, none⟩) (lt_of_get HL.out)] at hp
      have HDP := Lib.hid (D.keep hdp hbw)
      have HBW := Lib.hid hbw
      clear hdp hbw
      go_wp2_with fail
      refine (D.take size HDP.out HI2.out).mono ?_
      rintro e w1 ⟨rfl, b1⟩
      have HB1 := Lib.hid (HBW.out.trans (b1.mono HBW.out.size))
      have HD1 := Lib.hid (D.keep HDP.out b1)
      clear b1
      go_wp2_with fail
      refine (D.size id HD1.out HI1.out).mono ?_
      rintro e w2 ⟨rfl, b2⟩
      have HB2 := Lib.hid (HB1.out.trans (b2.mono HB1.out.size))
      have HD2 := Lib.hid (D.keep HD1.out b2)
      clear b2
      go_wp2_with fail
      refine (D.give id HD2.out HI1.out).mono ?_
      rintro e w3 ⟨rfl, b3⟩
      have HB3 := Lib.hid (HB2.out.trans (b3.mono HB2.out.size))
      have HD3 := Lib.hid (D.keep HD2.out b3)
      clear b3
      go_wp2_with fail
      refine (D.resize id size HD3.out HI1.out HI2.out).mono ?_
      rintro e w4 ⟨rfl, b4⟩
      have HB4 := Lib.hid (HB3.out.trans (b4.mono HB3.out.size))
      have HD4 := Lib.hid (D.keep HD3.out b4)
      clear b4
      go_wp2_with fail
      refine (D.used HD4.out).mono ?_
      rintro e w5 ⟨rfl, b5⟩
      have HB5 := Lib.hid (HB4.out.trans (b5.mono HB4.out.size))
      have HD5 := Lib.hid (D.keep HD4.out b5)
      clear b5
      go_wp2_with fail
      refine (D.count HD5.out).mono ?_
      rintro e w6 ⟨rfl, b6⟩
      have HB6 := Lib.hid (HB5.out.trans (b6.mono HB5.out.size))
      have HD6 := Lib.hid (D.keep HD5.out b6)
      clear b6
      go_wp2_with fail
      refine (D.ids HD6.out).mono ?_
      rintro e w7 ⟨ao, cap, rfl, b7⟩
      have HB7 := Lib.hid (HB6.out.trans (b7.mono HB6.out.size))
      have HD7 := Lib.hid (D.keep HD6.out b7)
      clear b7
      go_wp2_with fail
      refine (D.copy HD7.out).mono ?_
      rintro e w8 ⟨rfl, b8⟩
      have HB8 := Lib.hid (HB7.out.trans (b8.mono HB7.out.size))
      clear b8
      go_wp2_with fail
      go_roundg (2 - (k + 1))
      case measure => omega
      case rel => exact ⟨k + 1, rfl, by go_num, by omega, HB8.out⟩
    · have hnl : ¬ (k : Int) < 2 := by omega
      have HBW := Lib.hid hbw
      clear hbw
      go_wp2_with fail
      refine (awake_fn PA H wr).mono ?_
      rintro e w9 ⟨rfl, b9⟩
      have HB9 := Lib.hid (HB0.out.trans ((HBW.out.trans (b9.mono HBW.out.size)).mono HB0.out.size))
      clear b9
      go_wp2_with fail
      go_ret
      exact ⟨rfl, HB9.out⟩
end Go.Proofs.Ytpfhaafaoedgpaa.Pl
