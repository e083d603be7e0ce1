/-
  A part of the proof.
-/
import Derived.Lib.Hide
import Derived.Test.YtnkejjlidgnkkaaGreatDoorClRR
set_option maxRecDepth 100000
set_option maxHeartbeats 40000000
namespace Go.Proofs.YtnkejjlidgnkkaaGreatDoor.Nd

open Go.Lib renaming hid → qh
open Go Go.RowKit Go.ChangeShapes Go.WideShapes Go.Shelf
theorem own_of (v : Value) (these : List Nat) (w : World) (hK : Kl w v these) :
  Calls Tryz.prog 61 #[v] w fun e w' => ∃ fv, e = .returned fv /\ Fn1 w' fv (isB these) /\ Below w.heap.size w w' := by
 have HK := qh hK;obtain ⟨ao, cap, rfl, hr⟩ := hK;clear hr;generalize these.length = n at *;go_enter Tryz.func61, Tryz.ntmps61;go_wp2_with fail;go_ret;have hal : Below w.heap.size w (w.alloc (.cells #[.slice ao n cap] 43)) := (Below.refl _ _).alloc (Nat.le_refl _) _;have hbox := new_block w (.cells #[.slice ao n cap] 43);have hsz : (w.alloc (.cells #[.slice ao n cap] 43)).heap.size = w.heap.size + 1 := by simp
 refine ⟨_, rfl, ⟨105, _, rfl, enters_of Tryz.func105 (by kernel_rfl) rfl, fun W k hW hk => ?_⟩, hal⟩;have hc := cell_of ((hW.block w.heap.size (by omega)).trans hbox) 0 _ rfl;have hKW := (HK.out.below hal).below hW;have c := contains_n _ these k W hKW;clear hKW hW hbox hal hsz;generalize w.heap.size = b at *;go_enter Tryz.func105, Tryz.ntmps105;go_wp2_with fail;refine c.mono ?_;rintro e w1 ⟨rfl, rfl⟩;go_wp2_with fail;go_ret;exact ⟨ret_bool (by unfold isB; rw [List.contains_eq_mem]), Below.refl _ _⟩
theorem indexFunc (v fv : Value) (ks : List Nat) (p : Nat -> Bool) (w : World) (hK : Kl w v ks) (hF : Fn1 w fv p) :
  Calls Tryz.prog 135 #[v, fv] w fun e w' => (∃ i : Int, e = .returned (.int .i64 i) /\ (0 <= i ↔ ∃ k ∈ ks, p k = true) /\ -1 <= i /\ i <= 1000000000) /\ Below w.heap.size w w' := by
 have HK := qh hK;obtain ⟨ao, cap, rfl, hl, hc2, _, _⟩ := hK;obtain ⟨n, hn⟩ : ∃ n, n = ks.length := ⟨_, rfl⟩;rw [<- hn] at hl hc2;rw [<- hn] at HK ⊢;have HN := qh hn;clear hn;obtain ⟨f, caps, rfl, he, hcalls⟩ := hF;have HF := qh hcalls;clear hcalls;go_enter Tryz.func135, Tryz.ntmps135;go_wp2_with fail;go_loopg [8] n (fun r i wr => ∃ k : Nat, r = n - k /\ i = .int .i64 (k : Int) /\ k <= n /\ Below w.heap.size w wr /\ ∀ i (hi : i < k) y, ks[i]? = some y -> p y = false)
 case atStart => exact ⟨0, rfl, rfl, Nat.zero_le _, Below.refl _ _, fun i hi => absurd hi (by omega)⟩
 case round =>
  obtain ⟨k, rfl, rfl, hk, hb, hno⟩ := hrel;have HNO := qh hno;have HB := qh hb;clear hno hb;by_cases hlt : k < n
  ·have hkl : k < ks.length := by have := HN.out; omega
   obtain ⟨g, off, rfl, hcell, h256⟩ := (HK.out.below HB.out).at hkl;obtain ⟨y, hy⟩ : ∃ y, ks[k] = y := ⟨_, rfl⟩;rw [hy] at hcell h256;have HY := qh hy;clear hy;have hlt' : (k : Int) < n := by omega
   have c := HF.out wr y HB.out h256;obtain ⟨b, hb⟩ : ∃ b, p y = b := ⟨_, rfl⟩;rw [hb] at c;have HPB := qh hb;clear hb;cases b with
   | true =>
    go_wp2_with fail;refine c.mono ?_;rintro e w1 ⟨rfl, b1⟩;have HB1 := qh b1;clear b1;go_wp2_with fail;go_ret;exact ⟨⟨_, rfl, ⟨fun _ => ⟨y, by rw [<- HY.out]; exact List.getElem_mem hkl, HPB.out⟩, fun _ => by omega⟩, by omega, by omega⟩, grew_trans HB.out HB1.out⟩
   | false =>
    go_wp2_with fail;refine c.mono ?_;rintro e w1 ⟨rfl, b1⟩;have HB1 := qh b1;clear b1;go_wp2_with fail;go_roundg (n - (k + 1))
    case measure => omega
    case rel => exact ⟨k + 1, rfl, by go_num, by omega, grew_trans HB.out HB1.out, fun i hi z h => by
     rcases Nat.lt_or_ge i k with h1 | h1
     ·exact HNO.out i h1 z h
     ·obtain rfl : i = k := by omega
      rw [List.getElem?_eq_getElem hkl, HY.out] at h;rw [<- Option.some.inj h]; exact HPB.out⟩
  ·obtain rfl : k = n := by omega
   have hlt' : ¬ (k : Int) < k := by omega
   go_wp2_with fail;go_ret;refine ⟨⟨-1, rfl, ⟨fun h => absurd h (by omega), fun ⟨y, hm, hp⟩ => ?_⟩, by omega, by omega⟩, HB.out⟩
   exfalso
   obtain ⟨i, hi, e⟩ := List.getElem_of_mem hm;have := HNO.out i (by have := HN.out; omega) y (by rw [List.getElem?_eq_getElem hi, e]);rw [hp] at this; cases this
theorem containsFunc (v fv : Value) (ks : List Nat) (p : Nat -> Bool) (w : World) (hK : Kl w v ks) (hF : Fn1 w fv p) :
  Calls Tryz.prog 107 #[v, fv] w fun e w' => e = .returned (.bool (ks.any p)) /\ Below w.heap.size w w' := by
 have c := indexFunc v fv ks p w hK hF;obtain ⟨ao, cap, rfl, _⟩ := hK;obtain ⟨f, caps, rfl, _⟩ := hF;have hany : (∃ k ∈ ks, p k = true) ↔ ks.any p = true := by rw [List.any_eq_true]
 have HA := qh hany;clear hany;generalize ks.any p = b at *;go_enter Tryz.func107, Tryz.ntmps107;go_wp2_with fail;refine c.mono ?_;rintro e w1 ⟨⟨i, rfl, hi, h1, h2⟩, b1⟩;have HI := qh (hi.trans HA.out);have HB1 := qh b1;clear hi c b1;by_cases h0 : 0 <= i
 ·have hb := HI.out.1 h0;go_wp2_with fail;go_ret;exact ⟨ret_bool (by simp [hb]), HB1.out⟩
 ·have hb : b = false := by
   cases hb : b with
   | false => rfl
   | true => exact absurd (HI.out.2 hb) h0
  go_wp2_with fail;go_ret;exact ⟨ret_bool (by simp [h0, hb]), HB1.out⟩
theorem Kl.part {w : World} {ao : Option Addr} {n cap : Nat} {ks : List Nat} (h : Kl w (.slice ao n cap) ks) (lo hi : Nat) (h1 : lo <= hi) (h2 : hi <= ks.length) :
  ∃ ao' c', (Instr.slice 61 (.slice ao n cap) (some (.int .i64 (lo : Int))) (some (.int .i64 (hi : Int))) none).run Tryz.prog w = .ok (.slice ao' (hi - lo) c') w /\ Kl w (.slice ao' (hi - lo) c') ((ks.drop lo).take (hi - lo)) := by
 obtain ⟨ao0, cap0, e, hl, hc2, h256, hc⟩ := h;cases e;have ht : Tryz.prog.underlying 61 = some (.slice (Tryz.prog.elem 61)) := by kernel_rfl
 have hz : ∀ w, (Go.sizeOf (Tryz.prog.elem 61)).run Tryz.prog w = .ok 1 w := fun w => by
  have he : Tryz.prog.elem 61 = 23 := by kernel_rfl
  rw [he];simp
 have hlen : ((ks.drop lo).take (hi - lo)).length = hi - lo := by rw [List.length_take, List.length_drop]; omega
 have hrun := run_slice_lh w 61 ao ks.length cap ht .i64 .i64 (lo : Int) (hi : Int) (by omega) (by omega) (by omega);rw [hz] at hrun;refine ⟨if cap = lo then ao else ao.map (·.add (lo * 1)), cap - lo, ?_, ?_⟩
 ·rw [hrun];simp [Result.andThen, sliced]
 ·refine ⟨_, _, by rw [hlen], by rw [hlen]; omega, by rw [hlen]; omega, fun k hk => h256 k (List.mem_of_mem_drop (List.mem_of_mem_take hk)), fun hne => ?_⟩;have hpos : lo < hi := by
   rcases Nat.lt_or_ge lo hi with h | h
   ·exact h
   ·exfalso
    apply hne
    rw [show hi - lo = 0 by omega, List.take_zero]
  obtain ⟨g, off, hg, rfl, hx⟩ := hc (fun h => by rw [h, List.length_nil] at h2; omega);refine ⟨g, off + lo, hg, ?_, fun j hj => ?_⟩
  ·rw [if_neg (by omega)];simp [Addr.add]
  ·rw [hlen] at hj;rw [Nat.add_assoc, hx (lo + j) (by omega)];simp
theorem own_are (v fv : Value) (ks : List Nat) (lo hi : Int) (p : Nat -> Bool) (w : World) (hK : Kl w v ks) (hF : Fn1 w fv p) :
  Calls Tryz.prog 62 #[v, .int .i64 lo, .int .i64 hi, fv] w fun e w' => e = .returned (.bool (areB ks lo hi p)) /\ Below w.heap.size w w' := by
 have HK := qh hK;have HF := qh hF;obtain ⟨ao, cap, rfl, hl, hc2, _, _⟩ := hK;obtain ⟨f, caps, rfl, _⟩ := hF;obtain ⟨n, hn⟩ : ∃ n, n = ks.length := ⟨_, rfl⟩;rw [<- hn] at hl hc2;rw [<- hn] at HK ⊢;have HN := qh hn;obtain ⟨B, hB⟩ : ∃ B, areB ks lo hi p = B := ⟨_, rfl⟩;rw [hB];by_cases hg : 0 <= lo /\ lo <= hi /\ hi <= (n : Int)
 ·obtain ⟨g1, g2, g3⟩ := hg;obtain ⟨a, rfl⟩ := Int.eq_ofNat_of_zero_le g1;obtain ⟨b, rfl⟩ := Int.eq_ofNat_of_zero_le (show 0 <= hi by omega);have hB2 : B = ((ks.drop a).take (b - a)).all p := by
   rw [<- hB];unfold areB;rw [decide_eq_true (by rw [<- hn]; exact ⟨g1, g2, g3⟩), Bool.true_and]
   rfl
  have HB2 := qh hB2;have k1 : ¬ ((a : Int) < 0) := by omega
  have k2 : ¬ ((b : Int) < a) := by omega
  have k3 : ¬ ((n : Int) < b) := by omega
  have hal : Below w.heap.size w (w.alloc (.cells #[.func (.func f) #[] caps] 98)) := (Below.refl _ _).alloc (Nat.le_refl _) _;have hbox := new_block w (.cells #[.func (.func f) #[] caps] 98);obtain ⟨ao', c', hrun, hpart⟩ := (HK.out.below hal).part a b (by omega) (by omega);have hsz : (w.alloc (.cells #[.func (.func f) #[] caps] 98)).heap.size = w.heap.size + 1 := by simp
  have hF1 := HF.out.below hal;clear hB hB2 hn g1 g2 g3;have HAL := qh hal;clear hal;have hfn : Fn1 (w.alloc (.cells #[.func (.func f) #[] caps] 98)) (.func (.func 108) #[] #[.pointer (some ⟨w.heap.size, 0, none⟩)]) (fun k => !p k) := by
   refine ⟨108, _, rfl, enters_of Tryz.func108 (by kernel_rfl) rfl, fun W k hW hk => ?_⟩;have hc := cell_of ((hW.block w.heap.size (by omega)).trans hbox) 0 _ rfl;obtain ⟨f', caps', e', he', hcalls⟩ := hF1.below hW;cases e';have c := hcalls W k (Below.refl _ _) hk;clear hcalls hrun hpart hW hbox hsz HK HAL hF1;generalize w.heap.size = q at *;obtain ⟨bb, hbb⟩ : ∃ bb, p k = bb := ⟨_, rfl⟩
   dsimp only
   rw [hbb] at c ⊢;clear hbb;go_enter Tryz.func108, Tryz.ntmps108;go_wp2_with fail;refine c.mono ?_;rintro e w1 ⟨rfl, b1⟩;have HB1 := qh b1;clear b1;go_wp2_with fail;go_ret;exact ⟨rfl, HB1.out⟩
  have c := containsFunc _ _ _ _ _ hpart hfn;clear hpart hfn hbox hsz hF1;have hall : B = !((ks.drop a).take (b - a)).any fun k => !p k := by
   rw [HB2.out, List.all_eq_not_any_not]
  have HALL := qh hall;clear hall;obtain ⟨A, hA⟩ : ∃ A, ((ks.drop a).take (b - a)).any (fun k => !p k) = A := ⟨_, rfl⟩;rw [hA] at c HALL;clear hA;go_enter Tryz.func62, Tryz.ntmps62;go_wp2_with fail;refine c.mono ?_;rintro e w1 ⟨rfl, b1⟩;have HB1 := qh b1;clear b1;go_wp2_with fail;go_ret;exact ⟨ret_bool HALL.out.symm, HAL.out.trans (HB1.out.mono (by simp))⟩
 ·have hBf : B = false := by
   rw [<- hB];unfold areB;rw [decide_eq_false (by rw [<- hn]; exact hg), Bool.false_and]
  subst hBf;clear hB hn;have hal : Below w.heap.size w (w.alloc (.cells #[.func (.func f) #[] caps] 98)) := (Below.refl _ _).alloc (Nat.le_refl _) _;have HAL := qh hal;clear hal;by_cases h1 : lo < 0
  ·go_enter Tryz.func62, Tryz.ntmps62;go_wp2_with fail;go_ret;exact ⟨rfl, HAL.out⟩
  ·by_cases h2 : hi < lo
   ·go_enter Tryz.func62, Tryz.ntmps62;go_wp2_with fail;go_ret;exact ⟨rfl, HAL.out⟩
   ·have h3 : (n : Int) < hi := by omega
    go_enter Tryz.func62, Tryz.ntmps62;go_wp2_with fail;go_ret;exact ⟨rfl, HAL.out⟩

open Go.Lib renaming hid → qh
open Go Go.RowKit Go.ChangeShapes Go.WideShapes Go.Shelf
def Fs (w : World) (v : Value) (ps : List (Nat -> Bool)) : Prop :=
 ∃ ao cap, v = .slice ao ps.length cap /\ ps.length <= 1000 /\ (ps ≠ [] -> ∃ g off, g < w.heap.size /\ ao = some ⟨g, off, none⟩ /\ ∀ (j : Nat) (h : j < ps.length), ∃ fv, w.cell? ⟨g, off + j, none⟩ = some fv /\ Fn1 w fv ps[j])
theorem Fs.below {w w' : World} {v : Value} {ps : List (Nat -> Bool)} (h : Fs w v ps) (hb : Below w.heap.size w w') : Fs w' v ps := by
 obtain ⟨ao, cap, rfl, hl, hc⟩ := h;refine ⟨ao, cap, rfl, hl, fun hne => ?_⟩;obtain ⟨g, off, hg, rfl, hx⟩ := hc hne;refine ⟨g, off, Nat.lt_of_lt_of_le hg hb.size, rfl, fun j h => ?_⟩;obtain ⟨fv, h1, h2⟩ := hx j h;exact ⟨fv, by rw [hb.cell (p := ⟨g, off + j, none⟩) hg]; exact h1, h2.below hb⟩
theorem Fs.at {w : World} {ao : Option Addr} {n cap : Nat} {ps : List (Nat -> Bool)} (h : Fs w (.slice ao n cap) ps) {j : Nat} (hj : j < ps.length) : ∃ g off f caps, ao = some ⟨g, off, none⟩ /\ w.cell? ⟨g, off + j, none⟩ = some (.func (.func f) #[] caps) /\ (∀ args W, (callFunc f args).run Tryz.prog W = .ok (.enter f args) W) /\ ∀ W (k : Nat), Below w.heap.size w W -> k < 256 -> Calls Tryz.prog f (#[.int .u8 (k : Int)] ++ caps) W fun e W' => e = .returned (.bool (ps[j] k)) /\ Below W.heap.size W W' := by
 obtain ⟨ao', cap', e, _, hc⟩ := h;cases e;obtain ⟨g, off, _, rfl, hx⟩ := hc (fun h => by rw [h] at hj; cases hj);obtain ⟨fv, h1, f, caps, rfl, he, hcalls⟩ := hx j hj;exact ⟨g, off, f, caps, rfl, h1, he, hcalls⟩
theorem rowL_iff : ∀ (ks : List Nat) (ps : List (Nat -> Bool)), rowL ks ps = true ↔ ks.length = ps.length /\ ∀ (i k : Nat) (p : Nat -> Bool), ks[i]? = some k -> ps[i]? = some p -> p k = true
 | [], [] => ⟨fun _ => ⟨rfl, fun i k p h => (by cases h)⟩, fun _ => rfl⟩
 | [], _ :: _ => ⟨fun h => (by cases h), fun h => (by cases h.1)⟩
 | _ :: _, [] => ⟨fun h => (by cases h), fun h => (by cases h.1)⟩
 | k :: ks, p :: ps => by
  rw [rowL, Bool.and_eq_true, rowL_iff ks ps]
  constructor
  ·rintro ⟨h1, h2, h3⟩;refine ⟨by rw [List.length_cons, List.length_cons, h2], fun i k' p' hk hp => ?_⟩;cases i with
   | zero => cases hk; cases hp; exact h1
   | succ i => exact h3 i k' p' hk hp
  ·rintro ⟨h1, h2⟩;exact ⟨h2 0 k p rfl rfl, by rw [List.length_cons, List.length_cons] at h1; omega, fun i k' p' hk hp => h2 (i + 1) k' p' hk hp⟩
theorem own_row (v vs : Value) (ks : List Nat) (ps : List (Nat -> Bool)) (w : World) (hK : Kl w v ks) (hF : Fs w vs ps) :
  Calls Tryz.prog 64 #[v, vs] w fun e w' => e = .returned (.bool (rowL ks ps)) /\ Below w.heap.size w w' := by
 have HK := qh hK;have HF := qh hF;obtain ⟨ao, cap, rfl, hl, hc2, _, _⟩ := hK;obtain ⟨ap, capp, rfl, hlp, _⟩ := hF;have HR := qh (rowL_iff ks ps);obtain ⟨B, hB⟩ : ∃ B, rowL ks ps = B := ⟨_, rfl⟩;rw [hB] at HR ⊢;clear hB;obtain ⟨n, hn⟩ : ∃ n, n = ks.length := ⟨_, rfl⟩;obtain ⟨m, hm⟩ : ∃ m, m = ps.length := ⟨_, rfl⟩;rw [<- hn] at hl hc2;rw [<- hm] at hlp;rw [<- hn] at HK ⊢;rw [<- hm] at HF ⊢;rw [<- hn, <- hm] at HR;have HN := qh hn;have HM := qh hm;clear hn hm;by_cases hnm : n = m
 ·subst hnm;go_enter Tryz.func64, Tryz.ntmps64;go_wp2_with fail;go_loopg [14] n (fun r i wr => ∃ k : Nat, r = n - k /\ i = .int .i64 (k : Int) /\ k <= n /\ Below w.heap.size w wr /\ ∀ i (hi : i < k) (y : Nat) (p : Nat -> Bool), ks[i]? = some y -> ps[i]? = some p -> p y = true)
  case atStart => exact ⟨0, rfl, rfl, Nat.zero_le _, Below.refl _ _, fun i hi => absurd hi (by omega)⟩
  case round =>
   obtain ⟨k, rfl, rfl, hk, hb, hno⟩ := hrel;have HNO := qh hno;have HB := qh hb;clear hno hb;by_cases hlt : k < n
   ·have hkl : k < ks.length := by have := HN.out; omega
    have hkp : k < ps.length := by have := HM.out; omega
    obtain ⟨g, off, rfl, hcell, h256⟩ := (HK.out.below HB.out).at hkl;obtain ⟨y, hy⟩ : ∃ y, ks[k] = y := ⟨_, rfl⟩;rw [hy] at hcell h256;have HY := qh hy;clear hy;obtain ⟨gp, offp, f, caps, rfl, hcellp, he, hcalls⟩ := (HF.out.below HB.out).at hkp;obtain ⟨p, hp⟩ : ∃ p, ps[k] = p := ⟨_, rfl⟩;rw [hp] at hcalls;have HP := qh hp;clear hp;have hlt' : (k : Int) < n := by omega
    have c := hcalls wr y (Below.refl _ _) h256;clear hcalls;obtain ⟨b, hb⟩ : ∃ b, p y = b := ⟨_, rfl⟩;rw [hb] at c;have HPB := qh hb;clear hb;cases b with
    | false =>
     go_wp2_with fail;refine c.mono ?_;rintro e w1 ⟨rfl, b1⟩;have HB1 := qh b1;clear b1;go_wp2_with fail;go_ret;refine ⟨ret_bool ?_, grew_trans HB.out HB1.out⟩;cases B with
     | false => rfl
     | true =>
      exfalso
      have := (HR.out.1 rfl).2 k y p (by rw [List.getElem?_eq_getElem hkl, HY.out]) (by rw [List.getElem?_eq_getElem hkp, HP.out]);rw [HPB.out] at this;cases this
    | true =>
     go_wp2_with fail;refine c.mono ?_;rintro e w1 ⟨rfl, b1⟩;have HB1 := qh b1;clear b1;go_wp2_with fail;go_roundg (n - (k + 1))
     case measure => omega
     case rel => exact ⟨k + 1, rfl, by go_num, by omega, grew_trans HB.out HB1.out, fun i hi z q h h' => by
      rcases Nat.lt_or_ge i k with h1 | h1
      ·exact HNO.out i h1 z q h h'
      ·obtain rfl : i = k := by omega
       rw [List.getElem?_eq_getElem hkl, HY.out] at h;rw [List.getElem?_eq_getElem hkp, HP.out] at h';rw [<- Option.some.inj h, <- Option.some.inj h']; exact HPB.out⟩
   ·obtain rfl : k = n := by omega
    have hlt' : ¬ (k : Int) < k := by omega
    go_wp2_with fail;go_ret;refine ⟨ret_bool ?_, HB.out⟩;exact (HR.out.2 ⟨by first | trivial | rfl, fun i y p h h' => HNO.out i (by have := (List.getElem?_eq_some_iff.1 h).1; have := HN.out; omega) y p h h'⟩).symm
 ·have hnm' : ¬ ((n : Int) = m) := by omega
  have hBf : B = false := by
   cases B with
   | false => rfl
   | true => exact absurd (HR.out.1 rfl).1 hnm
  subst hBf;go_enter Tryz.func64, Tryz.ntmps64;go_wp2_with fail;go_ret;exact ⟨rfl, Below.refl _ _⟩
theorem own_list (v : Value) (ks : List Nat) (lo hi least : Int) (w : World) (hK : Kl w v ks) (h1 : 0 <= lo) (h2 : lo <= 1000000000) (h3 : -1 <= hi) (h4 : hi <= 1000000000) :
  Calls Tryz.prog 66 #[v, .int .i64 lo, .int .i64 hi, .int .i64 least] w fun e w' => e = .returned (.bool (listB ks lo hi least)) /\ Below w.heap.size w w' := by
 have c := own_are v (.func (.func 65) #[] #[]) ks lo hi exprK w hK (fn_expr w);obtain ⟨ao, cap, rfl, hl, hc2, _, hr⟩ := hK;clear hr;have e1 : IntKind.i64.wrap (hi - lo) = hi - lo := IntWalk.i64_in _ (by omega);unfold listB;generalize areB ks lo hi exprK = A at *;generalize ks.length = n at *;by_cases g1 : least <= hi - lo
 ·by_cases g2 : hi - lo <= 200
  ·rw [decide_eq_true ⟨g1, g2⟩, Bool.true_and];go_enter Tryz.func66, Tryz.ntmps66;go_wp2_with fail;refine c.mono ?_;rintro e w1 ⟨rfl, b1⟩;have HB1 := qh b1;clear b1;go_wp2_with fail;go_ret;exact ⟨rfl, HB1.out⟩
  ·rw [decide_eq_false (fun h => g2 h.2), Bool.false_and];go_enter Tryz.func66, Tryz.ntmps66;go_wp2_with fail;go_ret;exact ⟨rfl, Below.refl _ _⟩
 ·rw [decide_eq_false (fun h => g1 h.1), Bool.false_and];go_enter Tryz.func66, Tryz.ntmps66;go_wp2_with fail;go_ret;exact ⟨rfl, Below.refl _ _⟩
theorem kl_lit (w : World) (t : TypeId) (cs : Array Value) (ks : List Nat) (g n : Nat) (he : cs.toList = ks.map (fun (k : Nat) => Value.int .u8 (k : Int))) (hl : ks.length <= 1000000000) (h256 : ∀ k ∈ ks, k < 256) (hg : g = w.heap.size) (hn : n = ks.length) :
  Kl (w.alloc (.cells cs t)) (.slice (some ⟨g, 0, none⟩) n n) ks := by
 subst hg hn;refine ⟨_, _, rfl, Nat.le_refl _, hl, h256, fun _ => ⟨w.heap.size, 0, by simp, rfl, fun j h => ?_⟩⟩;rw [Nat.zero_add, World.cell?_alloc_mark];rw [<- Array.getElem?_toList, he, List.getElem?_map, List.getElem?_eq_getElem h]
 rfl
theorem fs_lit (w : World) (t : TypeId) (cs : Array Value) (ps : List (Nat -> Bool)) (g n : Nat) (hl : ps.length <= 1000) (hg : g = w.heap.size) (hn : n = ps.length) (h : ∀ (j : Nat) (hj : j < ps.length), ∃ fv, cs[j]? = some fv /\ Fn1 w fv ps[j]) :
  Fs (w.alloc (.cells cs t)) (.slice (some ⟨g, 0, none⟩) n n) ps := by
 subst hg hn;refine ⟨_, _, rfl, hl, fun _ => ⟨w.heap.size, 0, by simp, rfl, fun j hj => ?_⟩⟩;obtain ⟨fv, h1, h2⟩ := h j hj;refine ⟨fv, ?_, h2.below ((Below.refl _ _).alloc (Nat.le_refl _) _)⟩;rw [Nat.zero_add, World.cell?_alloc_mark];exact h1

open Go.Lib renaming hid → qh
open Go Go.RowKit Go.ChangeShapes Go.WideShapes Go.Shelf
theorem boxed_then {w w2 : World} {cs : Array Value} {t : TypeId} {o : Obj} (b : Below ((w.alloc (.cells cs t)).alloc o).heap.size ((w.alloc (.cells cs t)).alloc o) w2) : w2.heap[w.heap.size]? = some (.cells cs t (0, 0)) /\ Below w.heap.size w w2 := by
 have h1 : Below w.heap.size w ((w.alloc (.cells cs t)).alloc o) := ((Below.refl _ _).alloc (Nat.le_refl _) _).alloc (by simp) _;exact ⟨(b.block _ (by simp; omega)).trans ((Below.heap_alloc _ _ _ (by simp)).trans (new_block w _)), h1.trans (b.mono (by simp; omega))⟩
theorem below_lit {w w1 w2 : World} {o : Obj} (h : Below w.heap.size w w1) (b : Below (w1.alloc o).heap.size (w1.alloc o) w2) : Below w.heap.size w w2 :=
 (h.alloc h.size o).trans (b.mono (by have := h.size; simp; omega))
theorem pairs_step (m j : Nat) (ks : List Nat) (h : j < m) : pairsGo (m - j) (ks.drop (2 * j)) = (rowL ((ks.drop (2 * j)).take 2) [exprK, blockP] && pairsGo (m - (j + 1)) (ks.drop (2 * (j + 1)))) := by
 rw [show m - j = (m - (j + 1)) + 1 by omega, pairsGo, List.drop_drop, show 2 * j + 2 = 2 * (j + 1) by omega]
theorem own_pairs (v : Value) (ks : List Nat) (w : World) (hK : Kl w v ks) :
  Calls Tryz.prog 104 #[v] w fun e w' => e = .returned (.bool (pairsB ks)) /\ Below w.heap.size w w' := by
 have HK := qh hK;obtain ⟨ao, cap, rfl, hl, hc2, _, hr⟩ := hK;clear hr;obtain ⟨m, hm⟩ : ∃ m, ks.length / 2 = m := ⟨_, rfl⟩;obtain ⟨n, hn⟩ : ∃ n, ks.length = n := ⟨_, rfl⟩;have hd : ((n : Int)).tdiv 2 = (m : Int) := by rw [<- hm, hn]; rw [Int.tdiv_eq_ediv_of_nonneg (by omega)]; omega
 have hmn : 2 * m <= n /\ n < 2 * m + 2 := by omega
 obtain ⟨hmn1, hmn2⟩ := hmn;rw [hn] at hl hc2;have e1 : IntKind.i64.wrap (m : Int) = m := IntWalk.i64_in _ (by omega);have e2 : IntKind.i64.wrap ((m : Int) * 2) = (m : Int) * 2 := IntWalk.i64_in _ (by omega);have hp : pairsB ks = (pairsGo m ks && (decide (0 < m * 2) && areB ks (m * 2 : Nat) n blockP)) := by unfold pairsB; rw [hm, hn]
 rw [hp];have HN := qh hn;rw [hn] at HK ⊢;clear hp hm hn;obtain ⟨R, hR⟩ : ∃ R, R = (pairsGo m ks && (decide (0 < m * 2) && areB ks (m * 2 : Nat) n blockP)) := ⟨_, rfl⟩;rw [<- hR];have HR := qh hR;clear hR;go_enter Tryz.func104, Tryz.ntmps104;go_wp2_with fail;refine (own_of _ [1] _ (kl_lit _ _ _ [1] _ _ (by rfl) (by decide) (by decide) (by simp) (by rfl))).mono ?_;rintro e w2 ⟨fv, rfl, hF, b2⟩;have HF := qh hF;obtain ⟨f, caps, rfl, hE, hC⟩ := hF;clear hE hC;have HB := qh (below_lit (Below.refl w.heap.size w) b2);clear b2;go_wp2_with fail;go_loopg [5] m (fun r i wr => ∃ j a : Nat, r = m - j /\ a = 2 * j /\ i = .int .i64 (a : Int) /\ j <= m /\ Below w2.heap.size w2 wr /\ pairsGo m ks = pairsGo (m - j) (ks.drop (2 * j)))
 case atStart => exact ⟨0, 0, rfl, rfl, rfl, Nat.zero_le _, Below.refl _ _, rfl⟩
 case round =>
  obtain ⟨j, a, rfl, ha, rfl, hj, hb, hgo⟩ := hrel;have HGO := qh hgo;have HA := qh ha;have HBr := qh hb;have HFr := qh (HF.out.below hb);have HB2 := qh (HB.out.trans (hb.mono HB.out.size));clear hgo hb;by_cases hlt : j < m
  ·have hlt' : (a : Int) < (m : Int) * 2 := by omega
   have ea : IntKind.i64.wrap ((a : Int) + 2) = (a : Int) + 2 := IntWalk.i64_in _ (by omega);obtain ⟨ao', c', hrun, hpart⟩ := (HK.out.below HB2.out).part a (a + 2) (by omega) (by have := HN.out; omega);rw [show a + 2 - a = 2 by omega] at hrun hpart;rw [show ((a + 2 : Nat) : Int) = (a : Int) + 2 by omega] at hrun;have hs := pairs_step m j ks hlt;rw [<- ha] at hs;have HS := qh hs;have HPART := qh hpart;clear ha hs hpart;have c := fun t => own_row (.slice ao' 2 c') (.slice (some ⟨wr.heap.size, 0, none⟩) 2 2) ((ks.drop a).take 2) [exprK, blockP] (wr.alloc (.cells #[.func (.func 65) #[] #[], .func (.func f) #[] caps] t)) (HPART.out.below ((Below.refl _ _).alloc (Nat.le_refl _) _)) (fs_lit wr t _ [exprK, blockP] _ _ (by decide) rfl rfl (by intro j hj; match j, hj with | 0, _ => exact ⟨_, rfl, fn_expr _⟩ | 1, _ => exact ⟨_, rfl, HFr.out⟩))
   generalize rowL ((ks.drop a).take 2) [exprK, blockP] = RR at *;cases RR with
   | false =>
    go_wp2_with fail;refine (c _).mono ?_;rintro e w3 ⟨rfl, b3⟩;have HB3 := qh (below_lit HB2.out b3);clear b3 c;go_wp2_with fail;go_ret;refine ⟨ret_bool ?_, HB3.out⟩;rw [HR.out, HGO.out, <- HA.out, HS.out]
    rfl
   | true =>
    go_wp2_with fail;refine (c _).mono ?_;rintro e w3 ⟨rfl, b3⟩;have HB3 := qh (below_lit HBr.out b3);clear b3 c;go_wp2_with fail;go_roundg (m - (j + 1))
    case measure => omega
    case rel => exact ⟨j + 1, a + 2, rfl, by have := HA.out; omega, by go_num, by omega, HB3.out, by rw [HGO.out, <- HA.out, HS.out]; rfl⟩
  ·obtain rfl : j = m := by omega
   have hlt' : ¬ (a : Int) < (j : Int) * 2 := by omega
   have hgo1 : pairsGo j ks = true := by rw [HGO.out, Nat.sub_self]; rfl
   have HG1 := qh hgo1;clear hgo1;by_cases h0 : 0 < j
   ·have h0' : (0 : Int) < (j : Int) * 2 := by omega
    have d := own_are _ _ ks ((j : Int) * 2) n blockP _ (HK.out.below HB2.out) HFr.out;have ed : areB ks (j * 2 : Nat) n blockP = areB ks ((j : Int) * 2) n blockP := by rw [show ((j * 2 : Nat) : Int) = (j : Int) * 2 by omega]
    have HED := qh ed;clear ed;generalize areB ks ((j : Int) * 2) n blockP = RA at *;go_wp2_with fail;refine d.mono ?_;rintro e w3 ⟨rfl, b3⟩;have HB3 := qh (HB2.out.trans (b3.mono HB2.out.size));clear b3;go_wp2_with fail;go_ret;refine ⟨ret_bool ?_, HB3.out⟩;rw [HR.out, HG1.out, HED.out, decide_eq_true (by omega), Bool.true_and, Bool.true_and]
   ·have h0' : ¬ (0 : Int) < (j : Int) * 2 := by omega
    go_wp2_with fail;go_ret;refine ⟨ret_bool ?_, HB2.out⟩;rw [HR.out, decide_eq_false (by omega), Bool.false_and, Bool.and_false]
end Go.Proofs.YtnkejjlidgnkkaaGreatDoor.Nd
