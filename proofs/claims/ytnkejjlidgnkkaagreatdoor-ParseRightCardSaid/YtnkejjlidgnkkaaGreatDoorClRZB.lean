/-
  A part of the proof.
-/
import Derived.Lib.IndexAny
import Derived.Deep.DeepCutAuto
import Derived.Deep.CutBlock
import Derived.Lib.Hide
import Derived.Test.YtnkejjlidgnkkaaGreatDoorClRC
import Derived.Test.YtnkejjlidgnkkaaGreatDoorClRY
import Derived.Test.YtnkejjlidgnkkaaGreatDoorClRZ
import Derived.Test.YtnkejjlidgnkkaaGreatDoorClRZA
set_option maxRecDepth 100000
set_option maxHeartbeats 40000000
namespace Go.Proofs.YtnkejjlidgnkkaaGreatDoor.Lex

open Go.Lib renaming hid → qh
open Go.RowKit
structure Two (w0 : World) (g : Nat) (T1 : TypeId) (v1 : Value) (h : Nat) (T2 : TypeId) (v2 : Value) (W : World) : Prop where
 one : W.heap[g]? = some (.cells #[v1] T1 (0, 0))
 two : W.heap[h]? = some (.cells #[v2] T2 (0, 0))
 res : Res w0 w0.heap.size W
 hg : w0.heap.size < g
 hh : g < h
theorem Two.set {w0 : World} {g : Nat} {T1 : TypeId} {v1 : Value} {h : Nat} {T2 : TypeId} {v2 : Value} {W : World} (t : Two w0 g T1 v1 h T2 v2 W) (v : Value) : Two w0 g T1 v1 h T2 v (W.setCell ⟨h, 0, none⟩ v) := by
 have h1 := t.hg;have h2 := t.hh;refine ⟨?_, one_setCell t.two, ⟨?_, t.res.low.setCell (p := ⟨h, 0, none⟩) (by show w0.heap.size <= h; omega) _, Nat.le_refl _⟩, h1, h2⟩
 ·rw [Below.heap_setCell _ _ _ _ (show g ≠ h by omega)]; exact t.one
 ·rw [Below.heap_setCell _ _ _ _ (show w0.heap.size ≠ h by omega)]; exact t.res.cell
theorem Two.new (w : World) (T1 : TypeId) (v1 : Value) (T2 : TypeId) (v2 : Value) :
  Two w (w.heap.size + 1) T1 v1 (w.heap.size + 1 + 1) T2 v2 (((w.alloc (.cells #[.int .u8 0, .string ⟨#[]⟩, .int .i64 0, .int .i64 0] 55)).alloc (.cells #[v1] T1)).alloc (.cells #[v2] T2)) := by
 refine ⟨?_, ?_, ((Res.fresh w).alloc _).alloc _, by omega, by omega⟩
 ·rw [heap_old _ (by simp)];have := heap_new (w.alloc (.cells #[.int .u8 0, .string ⟨#[]⟩, .int .i64 0, .int .i64 0] 55)) (.cells #[v1] T1)
  simpa using this
 ·have := heap_new ((w.alloc (.cells #[.int .u8 0, .string ⟨#[]⟩, .int .i64 0, .int .i64 0] 55)).alloc (.cells #[v1] T1)) (.cells #[v2] T2)
  simpa using this
theorem num_at (s : ByteArray) (hex : Bool) (n : Nat) (hn : numRun hex 0 s.data.toList = n) : ∀ i, i <= n -> numRun hex (lastB s 0 i) (s.data.toList.drop i) + i = n
 | 0, _ => by rw [List.drop_zero, Nat.add_zero]; exact hn
 | i + 1, h => by
  have ih := num_at s hex n hn i (by omega);have hpos : 0 < numRun hex (lastB s 0 i) (s.data.toList.drop i) := by omega
  by_cases hlt : i < s.size
  ·cases hc : numC hex (lastB s 0 i) (byteAt s i)
   ·rw [num_no hlt hc] at hpos; omega
   ·rw [num_yes (Nat.zero_le _) hlt hc] at ih; omega
  ·rw [drop_end' (by omega)] at hpos;exact absurd hpos (Nat.lt_irrefl 0)
theorem num_in (s : ByteArray) (hex : Bool) (i : Nat) (h : i < numRun hex 0 s.data.toList) : i < s.size /\ numC hex (lastB s 0 i) (byteAt s i) = true := by
 have ih := num_at s hex _ rfl i (by omega);by_cases hlt : i < s.size
 ·refine ⟨hlt, ?_⟩;cases hc : numC hex (lastB s 0 i) (byteAt s i)
  ·rw [num_no hlt hc] at ih; omega
  ·rfl
 ·rw [drop_end' (by omega)] at ih;have : numRun hex (lastB s 0 i) [] = 0 := rfl;omega
theorem num_out (s : ByteArray) (hex : Bool) (h : numRun hex 0 s.data.toList < s.size) : numC hex (lastB s 0 (numRun hex 0 s.data.toList)) (byteAt s (numRun hex 0 s.data.toList)) = false := by
 have ih := num_at s hex _ rfl _ (Nat.le_refl _);cases hc : numC hex (lastB s 0 (numRun hex 0 s.data.toList)) (byteAt s (numRun hex 0 s.data.toList))
 ·rfl
 ·rw [num_yes (Nat.zero_le _) h hc] at ih; omega
def numCh (b : Nat) : Bool := digitB b || letterB b || decide (b = 46) || decide (b = 43 \/ b = 45)
theorem numC_ch {hex : Bool} {L b : Nat} (h : numC hex L b = true) : numCh b = true := by
 unfold numC at h;unfold numCh;simp only [Bool.or_eq_true, Bool.and_eq_true] at h ⊢;rcases h with h | h
 ·exact .inl h
 ·exact .inr h.2
theorem ch_small {b : Nat} (h : numCh b = true) : b < 128 /\ spaceB b = false := by
 unfold numCh digitB letterB at h;unfold spaceB;simp only [Bool.or_eq_true, decide_eq_true_eq] at h;refine ⟨by omega, ?_⟩;rw [decide_eq_false_iff_not];omega
structure NumT (T : ByteArray) : Prop where
 pos : 0 < T.size
 ch : ∀ i, i < T.size -> numCh (byteAt T i) = true
 first : digitB (byteAt T 0) = true \/ byteAt T 0 = 46
theorem run_digits {l : List UInt8} : ∀ {a u : Nat}, Lib.parseUint10 a l = .ok u -> digsL l = true := by
 induction l with
 | nil => intro a u _; rfl
 | cons c r ih =>
  intro a u h;rw [Lib.parseUint10] at h
  split at h
  ·rename_i hc
   split at h
   ·cases h
   ·split at h
    ·cases h
    ·unfold digsL;rw [List.all_cons];have := ih h;unfold digsL at this;rw [this];unfold digitB;rw [decide_eq_true hc]; rfl
  ·cases h
theorem whole (T : ByteArray) : (T.extract 0 T.size).data.toList = T.data.toList := by
 rw [behind_list, List.drop_zero]
theorem hexP_at {T : ByteArray} (h : 0 < T.size) : hexP T.data.toList = (decide (byteAt T 0 = 48) && decide (1 < T.size /\ (byteAt T 1 = 120 \/ byteAt T 1 = 88))) := by
 have h0 := hd_at h;rw [List.drop_zero] at h0;unfold hexP;rw [h0]
 congr 1
 by_cases h1 : 1 < T.size
 ·rw [hd_at h1];simp [h1]
 ·rw [hd_end (by omega)];simp [h1]
theorem numOk_is {T : ByteArray} (h : NumT T) : numOk T = (Num.parseOf T).2 := by
 unfold numOk;have hl : T.data.toList.length = T.size := rfl;have hs0 := (ch_small (h.ch 0 h.pos)).2;have hs1 := (ch_small (h.ch (T.size - 1) (by have := h.pos; omega))).2;have e1 : Num.loFrom T 0 = 0 := Num.loFrom_no h.pos hs0;have e2 : Num.hiFrom T 0 T.size = T.size := Num.hiFrom_no h.pos hs1;have f : byteAt T 0 ≠ 45 /\ byteAt T 0 ≠ 43 := by
  rcases h.first with g | g
  ·unfold digitB at g;rw [decide_eq_true_eq] at g;omega
  ·omega
 have e3 : Num.negAt T 0 T.size = false := by
  unfold Num.negAt;rw [show Num.byteAt T 0 = byteAt T 0 from rfl, decide_eq_false f.1, Bool.and_false]
 have e4 : Num.plusAt T 0 T.size = false := by
  unfold Num.plusAt;rw [show Num.byteAt T 0 = byteAt T 0 from rfl, decide_eq_false f.2, Bool.and_false]
 have e5 : Num.parseOf T = Num.restOf T 0 T.size false := by
  unfold Num.parseOf;rw [e1, e2, Num.coreOf, e3, e4]; rfl
 have hx := hexP_at h.pos;cases hp : (Num.parseOf T).2
 ·rfl
 ·rw [Bool.true_and];cases hh : hexP T.data.toList
  ·rw [Bool.false_or];rw [e5] at hp;unfold Num.restOf at hp;rw [if_neg, whole] at hp
   ·unfold Num.decOf at hp
    split at hp
    ·rename_i u hu;unfold Lib.parseMag at hu
     split at hu
     ·cases hu
     ·exact run_digits hu
    ·cases hp
   ·intro g;rw [hx] at hh;unfold Num.lowX Num.bigX at g;rw [show Num.byteAt T 0 = byteAt T 0 from rfl, show Num.byteAt T (0 + 1) = byteAt T 1 from rfl] at g;simp only [Bool.or_eq_true, Bool.and_eq_true, decide_eq_true_eq] at g;simp only [Bool.and_eq_false_iff, decide_eq_false_iff_not] at hh;omega
  ·rfl
def expT (hex : Bool) : ByteArray := if hex then ⟨#[112, 80]⟩ else ⟨#[101, 69]⟩
theorem exp_is : ∀ hex : Bool, ∀ b : Nat, b < 256 -> decide (0 <= Lib.indexByte (expT hex).data.toList (b : Int).toNat.toUInt8) = power hex b := by decide +kernel
theorem exp_dot : ∀ hex : Bool, ∀ b : Nat, b < 256 -> ((expT hex).data.toList ++ [46]).contains (UInt8.ofNat b) = dotB hex b := by decide +kernel
theorem exp_low : ∀ hex : Bool, ∀ c ∈ (expT hex).data.toList ++ [46], c.toNat < 128 := by decide +kernel
theorem any_contains (chars : List UInt8) : ∀ l : List UInt8, Lib.containsAny l chars = l.any fun c => chars.contains c
 | [] => rfl
 | c :: r => by
  have ih := any_contains chars r;have hge := Lib.indexAny_ge chars r;unfold Lib.containsAny at ih ⊢;rw [List.any_cons, <- ih, Lib.indexAny];cases hc : chars.contains c
  ·rw [if_neg (by decide), Bool.false_or];by_cases h : Lib.indexAny r chars = -1
   ·rw [if_pos (by rw [h]; rfl), h]
   ·rw [if_neg (by simpa using h), decide_eq_true (show (0 : Int) <= Lib.indexAny r chars + 1 by omega), decide_eq_true (show (0 : Int) <= Lib.indexAny r chars by omega)]
  ·rfl
theorem dots_is (hex : Bool) (l : List UInt8) : Lib.containsAny l ((expT hex).data.toList ++ [46]) = dotsL hex l := by
 rw [any_contains];unfold dotsL
 congr 1
 funext c
 have := exp_dot hex c.toNat c.toNat_lt;rw [show UInt8.ofNat c.toNat = c by simp] at this;exact this
theorem own_byte (X : ByteArray) (b : Nat) (w : World) : Calls Tryz.prog 92 #[.string X, .int .u8 b] w fun e w' => e = .returned (.int .i64 (Lib.indexByte X.data.toList (b : Int).toNat.toUInt8)) /\ w = w' := by
 refine (Tryz.strings_IndexByte X b w).mono ?_;rintro e w' ⟨rfl, rfl⟩;exact ⟨rfl, rfl⟩
theorem own_innum (w0 : World) (g h : Nat) (hex : Bool) (L b : Nat) (W : World) (hL : L < 256) (hb : b < 256) (t : Two w0 g 9 (.string (expT hex)) h 5 (.int .u8 L) W) :
  Calls Tryz.prog 91 #[.int .u8 b, .pointer (some ⟨g, 0, none⟩), .pointer (some ⟨h, 0, none⟩)] W fun e w' => e = .returned (.bool (numC hex L b)) /\ w' = W.setCell ⟨h, 0, none⟩ (.int .u8 b) := by
 have c1 := cell_of_one t.one;have c2 := cell_of_one t.two;have f2 := free_of_one t.two;have ci := fun w => own_byte (expT hex) L w
 have hi := exp_is hex L hL;have cd := fun w => own_digit b w hb
 have cl := fun w => own_letter b w hb
 have hN : numC hex L b = (digitB b || letterB b || decide (b = 46) || (power hex L && decide (b = 43 \/ b = 45))) := rfl;generalize expT hex = X at *;generalize Lib.indexByte X.data.toList (L : Int).toNat.toUInt8 = x at *;generalize power hex L = pw at *;generalize numC hex L b = r at *;clear t hL;cases hd1 : digitB b
 ·rw [hd1] at hN cd;cases hl1 : letterB b
  ·rw [hl1] at hN cl;by_cases h46 : b = 46
   ·have t1 : ((b : Int) == 46) = true := by rw [h46]; rfl
    have HR := qh (show r = true by rw [hN, decide_eq_true h46]; rfl);clear h46;clear hN hi;go_enter Tryz.func91, Tryz.ntmps91;go_wp2_with fail;refine (ci _).mono ?_;rintro e w1 ⟨rfl, rfl⟩;go_wp2_with fail;refine (cd _).mono ?_;rintro e w1 ⟨rfl, rfl⟩;go_wp2_with fail;refine (cl _).mono ?_;rintro e w1 ⟨rfl, rfl⟩;go_wp2_with fail;go_ret;exact ⟨by rw [HR.out]; rfl, rfl⟩
   ·have t1 : ((b : Int) == 46) = false := by rw [beq_eq_false_iff_ne]; omega
    rw [decide_eq_false h46] at hN;by_cases hx : 0 <= x
    ·rw [decide_eq_true hx] at hi;rw [<- hi] at hN;by_cases h43 : b = 43
     ·have t2 : ((b : Int) == 43) = true := by rw [h43]; rfl
      have HR := qh (show r = true by rw [hN, decide_eq_true (.inl h43)]; rfl);clear h43 h46;clear hN hi;go_enter Tryz.func91, Tryz.ntmps91;go_wp2_with fail;refine (ci _).mono ?_;rintro e w1 ⟨rfl, rfl⟩;go_wp2_with fail;refine (cd _).mono ?_;rintro e w1 ⟨rfl, rfl⟩;go_wp2_with fail;refine (cl _).mono ?_;rintro e w1 ⟨rfl, rfl⟩;go_wp2_with fail;go_ret;exact ⟨by rw [HR.out]; rfl, rfl⟩
     ·have t2 : ((b : Int) == 43) = false := by rw [beq_eq_false_iff_ne]; omega
      by_cases h45 : b = 45
      ·have t3 : ((b : Int) == 45) = true := by rw [h45]; rfl
       have HR := qh (show r = true by rw [hN, decide_eq_true (.inr h45)]; rfl);clear h43 h46 h45;clear hN hi;go_enter Tryz.func91, Tryz.ntmps91;go_wp2_with fail;refine (ci _).mono ?_;rintro e w1 ⟨rfl, rfl⟩;go_wp2_with fail;refine (cd _).mono ?_;rintro e w1 ⟨rfl, rfl⟩;go_wp2_with fail;refine (cl _).mono ?_;rintro e w1 ⟨rfl, rfl⟩;go_wp2_with fail;go_ret;exact ⟨by rw [HR.out]; rfl, rfl⟩
      ·have t3 : ((b : Int) == 45) = false := by rw [beq_eq_false_iff_ne]; omega
       have HR := qh (show r = false by rw [hN, decide_eq_false (by omega)]; rfl);clear h43 h46 h45;clear hN hi;go_enter Tryz.func91, Tryz.ntmps91;go_wp2_with fail;refine (ci _).mono ?_;rintro e w1 ⟨rfl, rfl⟩;go_wp2_with fail;refine (cd _).mono ?_;rintro e w1 ⟨rfl, rfl⟩;go_wp2_with fail;refine (cl _).mono ?_;rintro e w1 ⟨rfl, rfl⟩;go_wp2_with fail;go_ret;exact ⟨by rw [HR.out]; rfl, rfl⟩
    ·rw [decide_eq_false hx] at hi;rw [<- hi] at hN;have HR := qh (show r = false by rw [hN]; rfl);clear h46;clear hN hi;go_enter Tryz.func91, Tryz.ntmps91;go_wp2_with fail;refine (ci _).mono ?_;rintro e w1 ⟨rfl, rfl⟩;go_wp2_with fail;refine (cd _).mono ?_;rintro e w1 ⟨rfl, rfl⟩;go_wp2_with fail;refine (cl _).mono ?_;rintro e w1 ⟨rfl, rfl⟩;go_wp2_with fail;go_ret;exact ⟨by rw [HR.out]; rfl, rfl⟩
  ·rw [hl1] at hN cl;have HR := qh (show r = true by rw [hN]; rfl);clear hN hi;go_enter Tryz.func91, Tryz.ntmps91;go_wp2_with fail;refine (ci _).mono ?_;rintro e w1 ⟨rfl, rfl⟩;go_wp2_with fail;refine (cd _).mono ?_;rintro e w1 ⟨rfl, rfl⟩;go_wp2_with fail;refine (cl _).mono ?_;rintro e w1 ⟨rfl, rfl⟩;go_wp2_with fail;go_ret;exact ⟨by rw [HR.out]; rfl, rfl⟩
 ·rw [hd1] at hN cd;have HR := qh (show r = true by rw [hN]; rfl);clear hN hi;go_enter Tryz.func91, Tryz.ntmps91;go_wp2_with fail;refine (ci _).mono ?_;rintro e w1 ⟨rfl, rfl⟩;go_wp2_with fail;refine (cd _).mono ?_;rintro e w1 ⟨rfl, rfl⟩;go_wp2_with fail;go_ret;exact ⟨by rw [HR.out]; rfl, rfl⟩
end Go.Proofs.YtnkejjlidgnkkaaGreatDoor.Lex
namespace Go.Proofs.YtnkejjlidgnkkaaGreatDoor.Lex

open Go.Lib renaming hid → qh
open Go.RowKit
theorem Two.below {w0 : World} {g : Nat} {T1 : TypeId} {v1 : Value} {h : Nat} {T2 : TypeId} {v2 : Value} {W W' : World} (t : Two w0 g T1 v1 h T2 v2 W) (hb : Below W.heap.size W W') : Two w0 g T1 v1 h T2 v2 W' :=
 ⟨by rw [hb.block g (Array.getElem?_eq_some_iff.1 t.one).1]; exact t.one, by rw [hb.block h (Array.getElem?_eq_some_iff.1 t.two).1]; exact t.two, t.res.below hb, t.hg, t.hh⟩
theorem byte_ahead {s : ByteArray} {n i : Nat} (hn : n <= s.size) (h : i < n) : byteAt (s.extract 0 n) i = byteAt s i := by
 have := Num.byteAt_extract (s := s) (i := 0) (j := n) (k := i) hn (by omega);rw [Nat.zero_add] at this;exact this
theorem run_all (p : Nat -> Bool) : ∀ l : List UInt8, decide (runL p l = l.length) = l.all fun c => p c.toNat
 | [] => rfl
 | c :: r => by
  have ih := run_all p r;rw [runL, List.all_cons];cases hc : p c.toNat
  ·rw [if_neg (by decide), Bool.false_and, decide_eq_false_iff_not];simp
  ·rw [if_pos rfl, Bool.true_and, <- ih, List.length_cons];simp
theorem num_le (s : ByteArray) (hex : Bool) : numRun hex 0 s.data.toList <= s.size := numRun_le hex s.data.toList 0
theorem num_text {s : ByteArray} (h0 : 0 < s.size) (hB : numB (hd s.data.toList) (hd (s.data.toList.drop 1)) = true) :
  numL s.data.toList = numRun (hexP s.data.toList) 0 s.data.toList /\ s.extract 0 (numRun (hexP s.data.toList) 0 s.data.toList) = numT s.data.toList /\
  NumT (numT s.data.toList) /\ hexP (numT s.data.toList).data.toList = hexP s.data.toList /\ (numT s.data.toList).size = numRun (hexP s.data.toList) 0 s.data.toList := by
 have hL : numL s.data.toList = numRun (hexP s.data.toList) 0 s.data.toList := by
  have := numL_eq s 0;rw [List.drop_zero, Nat.zero_add, if_pos hB] at this;exact this
 have hT : s.extract 0 (numRun (hexP s.data.toList) 0 s.data.toList) = numT s.data.toList := by
  have := take_extract (s := s) (i := 0) (n := numRun (hexP s.data.toList) 0 s.data.toList);rw [Nat.zero_add, List.drop_zero] at this;rw [this, numT, hL]
 have hle := num_le s (hexP s.data.toList);have hh := hd_at h0;rw [List.drop_zero] at hh;have hf : digitB (byteAt s 0) = true \/ byteAt s 0 = 46 := by
  unfold numB at hB;rw [hh] at hB;simp only [Bool.or_eq_true, Bool.and_eq_true, decide_eq_true_eq] at hB;rcases hB with h | h
  ·exact .inl h
  ·exact .inr h.1
 have hx := hexP_at h0;have hpos : 0 < numRun (hexP s.data.toList) 0 s.data.toList := by
  refine Nat.pos_of_ne_zero fun hz => ?_
  have := num_out s (hexP s.data.toList) (by omega);rw [hz] at this;unfold numC at this;rcases hf with h | h
  ·rw [h] at this; cases this
  ·rw [decide_eq_true h, Bool.or_true, Bool.true_or] at this; cases this
 have hsz : (numT s.data.toList).size = numRun (hexP s.data.toList) 0 s.data.toList := by rw [<- hT, ahead_size s _ hle]
 have hN : NumT (numT s.data.toList) := by
  refine ⟨by omega, fun i hi => ?_, ?_⟩
  ·rw [hsz] at hi;rw [<- hT, byte_ahead hle hi];exact numC_ch (num_in s _ i hi).2
  ·rw [<- hT, byte_ahead hle hpos]; exact hf
 refine ⟨hL, hT, hN, ?_, hsz⟩;have hx2 := hexP_at hN.pos;rw [hx2, hsz, <- hT, byte_ahead hle hpos];by_cases h2 : 1 < numRun (hexP s.data.toList) 0 s.data.toList
 ·rw [byte_ahead hle h2];refine Eq.trans ?_ hx.symm
  congr 1
  rw [Bool.eq_iff_iff];simp only [decide_eq_true_eq]
  constructor
  ·rintro ⟨_, h⟩; exact ⟨by omega, h⟩
  ·rintro ⟨_, h⟩; exact ⟨h2, h⟩
 ·simp only [h2, false_and, decide_false, Bool.and_false]
  symm
  cases hxx : hexP s.data.toList
  ·rfl
  ·exfalso
   have h1 : numRun (hexP s.data.toList) 0 s.data.toList = 1 := by omega
   rw [hx, Bool.and_eq_true, decide_eq_true_eq, decide_eq_true_eq] at hxx;have := num_out s (hexP s.data.toList) (by omega);rw [h1] at this;have hl : letterB (byteAt s 1) = true := by
    unfold letterB;rw [decide_eq_true_eq]; omega
   unfold numC at this;rw [hl, Bool.or_true, Bool.true_or, Bool.true_or] at this;cases this
def numO (l : List UInt8) : One := if numberE (numT l) = 0 then ⟨4, ⟨#[]⟩, numberN (numT l), numL l, 0⟩ else ⟨0, ⟨#[]⟩, 0, 0, numberE (numT l)⟩
theorem span_num (s : ByteArray) (hex : Bool) (w0 : World) (g h : Nat) (W : World) (hs : s.size ≤ 1000000000) (t : Two w0 g 9 (.string (expT hex)) h 5 (.int .u8 0) W) :
    Calls Tryz.prog 43 #[.string s, .func (.func 91) #[] #[.pointer (some ⟨g, 0, none⟩), .pointer (some ⟨h, 0, none⟩)]] W
      fun e w' => e = .returned (.int .i64 (numRun hex 0 s.data.toList : Nat)) ∧ ∃ v, Two w0 g 9 (.string (expT hex)) h 5 v w' := by
  refine span_any s 91 #[.pointer (some ⟨g, 0, none⟩), .pointer (some ⟨h, 0, none⟩)] (numRun hex 0 s.data.toList) (fun i w' => Two w0 g 9 (.string (expT hex)) h 5 (.int .u8 (lastB s 0 i : Nat)) w') (fun w' => ∃ v, Two w0 g 9 (.string (expT hex)) h 5 v w') W hs (num_le s hex)
    (enters_of Tryz.func91 (by kernel_rfl) rfl) (fun i w1 hi hR => ?_) (fun hi w1 hR => ?_) (fun _ _ h => ⟨_, h⟩) t
  · have hin := num_in s hex i hi
    have h9 : lastB s 0 i < 256 := by unfold lastB; split; · decide
                                      · exact byteAt_lt s _
    have c := own_innum w0 g h hex (lastB s 0 i) (byteAt s i) w1 h9 (byteAt_lt s i) hR
    rw [hin.2] at c
    refine Calls.mono c ?_
    rintro e w' ⟨rfl, rfl⟩
    refine ⟨rfl, ?_⟩
    have hl : lastB s 0 (i + 1) = byteAt s i := by unfold lastB; rw [if_neg (by omega), Nat.add_sub_cancel]
    rw [hl]
    exact hR.set _
  · have ho := num_out s hex hi
    have h9 : lastB s 0 (numRun hex 0 s.data.toList) < 256 := by unfold lastB; split; · decide
                                                                 · exact byteAt_lt s _
    have c := own_innum w0 g h hex (lastB s 0 (numRun hex 0 s.data.toList)) (byteAt s (numRun hex 0 s.data.toList)) w1 h9 (byteAt_lt s _) hR
    rw [ho] at c
    refine Calls.mono c ?_
    rintro e w' ⟨rfl, rfl⟩
    exact ⟨rfl, _, hR.set _⟩
theorem exp_size (hex : Bool) : (expT hex).size = 2 := by cases hex <;> rfl
theorem own_any (T : ByteArray) (hex : Bool) (w : World) (hT : NumT T) (hs : T.size <= 1000000000) :
  Calls Tryz.prog 94 #[.string T, .string (expT hex ++ ⟨#[46]⟩)] w fun e w' => e = .returned (.bool (dotsL hex T.data.toList)) /\ Below w.heap.size w w' := by
 have hl : (expT hex ++ ⟨#[46]⟩ : ByteArray).data.toList = (expT hex).data.toList ++ [46] := by simp
 have hz : (expT hex ++ ⟨#[46]⟩ : ByteArray).size = 3 := by cases hex <;> rfl
 have hd := dots_is hex T.data.toList;rw [<- hl] at hd;have g1 : ∀ (j : Nat) (b : UInt8), T.data.toList[j]? = some b -> b.toNat < 128 := fun j b hb => by
  have hj : j < T.size := (List.getElem?_eq_some_iff.1 hb).1;obtain ⟨c, e, hd'⟩ := drop_at T j hj;have : T.data.toList[j]? = some c := by rw [<- List.head?_drop, hd']; rfl
  rw [this] at hb
  injection hb with hb
  subst hb;rw [e];exact (ch_small (hT.ch j hj)).1
 have g2 : ∀ (j : Nat) (b : UInt8), (expT hex ++ ⟨#[46]⟩ : ByteArray).data.toList[j]? = some b -> b.toNat < 128 := fun j b hb => by
  rw [hl] at hb;exact exp_low hex b (List.mem_of_getElem? hb)
 generalize (expT hex ++ ⟨#[46]⟩ : ByteArray) = Y at *;have c := Tryz.strings_ContainsAny_laid T Y w (by omega) (by omega) g1 g2;rw [hd] at c;exact c
theorem own_numeral (s : ByteArray) (w : World) (hs : s.size <= 100000000) (h0 : 0 < s.size) (hB : numB (hd s.data.toList) (hd (s.data.toList.drop 1)) = true) (hv : LVars w) :
  Calls Tryz.prog 48 #[.string s] w (OneSays (numO s.data.toList) w) := by
 obtain ⟨hL, hT, hN, hX, hsz⟩ := num_text h0 hB;have hle := num_le s (hexP s.data.toList);have p1 := fun w => has_any s ⟨#[48, 120]⟩ w
 have p2 := fun w => has_any s ⟨#[48, 88]⟩ w
 rw [show (⟨#[48, 120]⟩ : ByteArray).data.toList = [48, 120] from rfl, has_two _ _ _ (by decide) (by decide), show (48 : UInt8).toNat = 48 from rfl, show (120 : UInt8).toNat = 120 from rfl] at p1;rw [show (⟨#[48, 88]⟩ : ByteArray).data.toList = [48, 88] from rfl, has_two _ _ _ (by decide) (by decide), show (48 : UInt8).toNat = 48 from rfl, show (88 : UInt8).toNat = 88 from rfl] at p2;have hPd : hexP s.data.toList = ((decide (hd s.data.toList = 48) && decide (hd (s.data.toList.drop 1) = 120)) || (decide (hd s.data.toList = 48) && decide (hd (s.data.toList.drop 1) = 88))) := by
  unfold hexP;rw [<- Bool.and_or_distrib_left]
  congr 1
  rw [Bool.eq_iff_iff]; simp
 have hO : numO s.data.toList = if (Num.parseOf (numT s.data.toList)).2 = true then ⟨4, ⟨#[]⟩, (Num.parseOf (numT s.data.toList)).1, numRun (hexP s.data.toList) 0 s.data.toList, 0⟩
   else if (digsL (numT s.data.toList).data.toList || dotsL (hexP s.data.toList) (numT s.data.toList).data.toList) = true then ⟨0, ⟨#[]⟩, 0, 0, 31⟩ else ⟨0, ⟨#[]⟩, 0, 0, 30⟩ := by
  unfold numO numberE numberN;rw [numOk_is hN, hL, hX];cases (Num.parseOf (numT s.data.toList)).2
  ·simp only [Bool.false_eq_true, if_false]
   split <;> rfl
  ·rfl
 have hdg := run_all digitB (numT s.data.toList).data.toList;rw [show (fun c : UInt8 => digitB c.toNat) = fun c => digitB c.toNat from rfl, show (numT s.data.toList).data.toList.length = (numT s.data.toList).size from rfl, hsz] at hdg;have hdg : decide (runL digitB (numT s.data.toList).data.toList = numRun (hexP s.data.toList) 0 s.data.toList) = digsL (numT s.data.toList).data.toList := hdg;have hsl := run_ahead (P := Tryz.prog) 9 s (numRun (hexP s.data.toList) 0 s.data.toList) Tryz.underlying9 hle (numRun (hexP s.data.toList) 0 s.data.toList : Nat) rfl;rw [hT] at hsl;have cs := fun g h W t => span_num s (hexP s.data.toList) w g h W (by omega) t
 have cp := fun w hv => Num.parse_any (numT s.data.toList) w (by omega) hv
 have ca := fun w => own_any (numT s.data.toList) (hexP s.data.toList) w hN (by omega)
 have cd := fun w => span_pure (numT s.data.toList) 47 digitB w (by omega) (enters_of Tryz.func47 (by kernel_rfl) rfl) (fun b w hb => own_digit b w hb)
 have a1 := fun w => run_string_add_sum (P := Tryz.prog) (w := w) (expT (hexP s.data.toList)) ⟨#[46]⟩ (by rw [exp_size]; have : (⟨#[46]⟩ : ByteArray).size = 1 := rfl; omega)
 generalize numO s.data.toList = O at *;generalize hPR : Num.parseOf (numT s.data.toList) = PR at *;have hPS : ∀ w e w', Num.ParseSays (numT s.data.toList) w e w' -> e = .returned (.tuple #[.int .i64 PR.1, .bool PR.2]) /\ Below w.heap.size w w' := fun w e w' h => by rw [<- hPR]; exact h
 obtain ⟨x, ok⟩ := PR
 dsimp only at hPS hO
 have PS := qh hPS;clear hPS hPR hX hN hL hT;generalize digsL (numT s.data.toList).data.toList = dg at *;generalize hrd : runL digitB (numT s.data.toList).data.toList = rd at *;generalize numRun (hexP s.data.toList) 0 s.data.toList = n at *;generalize dotsL (hexP s.data.toList) (numT s.data.toList).data.toList = dots at *;generalize numT s.data.toList = T at *;generalize (decide (hd s.data.toList = 48) && decide (hd (s.data.toList.drop 1) = 120)) = b1 at *;generalize (decide (hd s.data.toList = 48) && decide (hd (s.data.toList.drop 1) = 88)) = b2 at *;generalize hexP s.data.toList = hex at *;have HV := qh hv;have HO := qh hO;clear hO hv hB hrd;go_enter Tryz.func48, Tryz.ntmps48;go_upto_region 2 with fail;go_cut [16] (fun c wx => c = .bool hex /\ wx = (w.alloc (.cells #[.int .u8 0, .string ⟨#[]⟩, .int .i64 0, .int .i64 0] 55)).alloc (.cells #[.string ⟨#[101, 69]⟩] 9))
 case first =>
  cases b1
  ·rw [Bool.false_or] at hPd;have HP := qh hPd;clear hPd;go_wp2_with fail;refine (p1 _).mono ?_;rintro e w1 ⟨rfl, rfl⟩;go_wp2_with fail;refine (p2 _).mono ?_;rintro e w1 ⟨rfl, rfl⟩;go_wp2_with fail;go_meet;exact ⟨by rw [HP.out], rfl⟩
  ·have HP := qh (show hex = true by rw [hPd]; rfl);clear hPd;go_wp2_with fail;refine (p1 _).mono ?_;rintro e w1 ⟨rfl, rfl⟩;go_wp2_with fail;go_meet;exact ⟨by rw [HP.out], rfl⟩
 case rest =>
  obtain ⟨rfl, rfl⟩ := hcut;clear hPd p1 p2;go_upto_if 16 with fail;go_cut [] (fun wx => wx = (w.alloc (.cells #[.int .u8 0, .string ⟨#[]⟩, .int .i64 0, .int .i64 0] 55)).alloc (.cells #[.string (expT hex)] 9))
  case first =>
   cases hex
   ·go_wp2_with fail;go_meet
    rfl
   ·go_wp2_with fail;go_meet
    rfl
  case rest =>
   subst hcut;have t0 := Two.new w 9 (.string (expT hex)) 5 (.int .u8 0);have T0 := qh t0;clear t0;cases ok
   ·rw [if_neg (by decide)] at HO;cases dots
    ·rw [Bool.or_false] at HO;cases dg
     ·rw [if_neg (by decide)] at HO;have hne := of_decide_eq_false hdg;have t1 : ((rd : Int) == (n : Int)) = false := by rw [beq_eq_false_iff_ne]; omega
      clear hdg hne;go_wp2_with fail;refine (cs _ _ _ T0.out).mono ?_;rintro e w1 ⟨rfl, u, t⟩;have T1 := qh t;clear t;go_wp2_with fail;refine (cp _ (HV.out.below T1.out.res.low).num).mono ?_;rintro e w2 h;obtain ⟨rfl, b2⟩ := PS.out _ _ _ h;have T2 := qh (T1.out.below b2);have c1 := cell_of_one T2.out.one;clear h b2;go_wp2_with fail;refine (ca _).mono ?_;rintro e w3 ⟨rfl, b3⟩;have R3 := qh (T2.out.below b3).res;clear b3;go_wp2_with fail;refine (cd _).mono ?_;rintro e w4 ⟨rfl, rfl⟩;have k0 := R3.out.at0;have k1 := R3.out.at1;have k2 := R3.out.at2;have k3 := R3.out.at3;have f0 := R3.out.free 0;have f1 := R3.out.free 1;have f2 := R3.out.free 2;have f3 := R3.out.free 3;go_wp2_with fail;refine bodyPost_ret (v := .tuple #[.agg #[.int .u8 0, .string ⟨#[]⟩, .int .i64 0, .int .i64 0], .int .i64 0, .int .i64 30]) (by simp [results, Tryz.results48, go_sem, k0, k1, k2, k3]) rfl ?_;exact one_says HO.out R3.out.set
     ·rw [if_pos rfl] at HO;have hne := of_decide_eq_true hdg;have t1 : ((rd : Int) == (n : Int)) = true := by rw [beq_iff_eq]; omega
      clear hdg hne;go_wp2_with fail;refine (cs _ _ _ T0.out).mono ?_;rintro e w1 ⟨rfl, u, t⟩;have T1 := qh t;clear t;go_wp2_with fail;refine (cp _ (HV.out.below T1.out.res.low).num).mono ?_;rintro e w2 h;obtain ⟨rfl, b2⟩ := PS.out _ _ _ h;have T2 := qh (T1.out.below b2);have c1 := cell_of_one T2.out.one;clear h b2;go_wp2_with fail;refine (ca _).mono ?_;rintro e w3 ⟨rfl, b3⟩;have R3 := qh (T2.out.below b3).res;clear b3;go_wp2_with fail;refine (cd _).mono ?_;rintro e w4 ⟨rfl, rfl⟩;have k0 := R3.out.at0;have k1 := R3.out.at1;have k2 := R3.out.at2;have k3 := R3.out.at3;have f0 := R3.out.free 0;have f1 := R3.out.free 1;have f2 := R3.out.free 2;have f3 := R3.out.free 3;go_wp2_with fail;refine bodyPost_ret (v := .tuple #[.agg #[.int .u8 0, .string ⟨#[]⟩, .int .i64 0, .int .i64 0], .int .i64 0, .int .i64 31]) (by simp [results, Tryz.results48, go_sem, k0, k1, k2, k3]) rfl ?_;exact one_says HO.out R3.out.set
    ·rw [Bool.or_true, if_pos rfl] at HO;clear hdg;go_wp2_with fail;refine (cs _ _ _ T0.out).mono ?_;rintro e w1 ⟨rfl, u, t⟩;have T1 := qh t;clear t;go_wp2_with fail;refine (cp _ (HV.out.below T1.out.res.low).num).mono ?_;rintro e w2 h;obtain ⟨rfl, b2⟩ := PS.out _ _ _ h;have T2 := qh (T1.out.below b2);have c1 := cell_of_one T2.out.one;clear h b2;go_wp2_with fail;refine (ca _).mono ?_;rintro e w3 ⟨rfl, b3⟩;have R3 := qh (T2.out.below b3).res;clear b3;have k0 := R3.out.at0;have k1 := R3.out.at1;have k2 := R3.out.at2;have k3 := R3.out.at3;have f0 := R3.out.free 0;have f1 := R3.out.free 1;have f2 := R3.out.free 2;have f3 := R3.out.free 3;go_wp2_with fail;refine bodyPost_ret (v := .tuple #[.agg #[.int .u8 0, .string ⟨#[]⟩, .int .i64 0, .int .i64 0], .int .i64 0, .int .i64 31]) (by simp [results, Tryz.results48, go_sem, k0, k1, k2, k3]) rfl ?_;exact one_says HO.out R3.out.set
   ·rw [if_pos rfl] at HO;clear hdg;go_wp2_with fail;refine (cs _ _ _ T0.out).mono ?_;rintro e w1 ⟨rfl, u, t⟩;have T1 := qh t;clear t;go_wp2_with fail;refine (cp _ (HV.out.below T1.out.res.low).num).mono ?_;rintro e w2 h;obtain ⟨rfl, b2⟩ := PS.out _ _ _ h;have R3 := qh (T1.out.below b2).res;clear h b2;have k0 := R3.out.at0;have k1 := R3.out.at1;have k2 := R3.out.at2;have k3 := R3.out.at3;have f0 := R3.out.free 0;have f1 := R3.out.free 1;have f2 := R3.out.free 2;have f3 := R3.out.free 3;go_wp2_with fail;refine bodyPost_ret (v := .tuple #[.agg #[.int .u8 4, .string ⟨#[]⟩, .int .i64 x, .int .i64 0], .int .i64 n, .int .i64 0]) (by simp [results, Tryz.results48, go_sem, k0, k1, k2, k3]) rfl ?_;exact one_says HO.out R3.out.set
end Go.Proofs.YtnkejjlidgnkkaaGreatDoor.Lex
namespace Go.Proofs.YtnkejjlidgnkkaaGreatDoor.Lex

open Go.Lib renaming hid → qh
open Go.RowKit
def stS : Bool -> List UInt8 -> Nat -> Bool
 | e, _, 0 => e
 | e, [], _ + 1 => e
 | e, c :: r, i + 1 => stS (!e && decide (c.toNat = 92)) r i
theorem stS_zero (e : Bool) (l : List UInt8) : stS e l 0 = e := by cases l <;> rfl
theorem stS_succ (e : Bool) (c : UInt8) (r : List UInt8) (i : Nat) : stS e (c :: r) (i + 1) = stS (!e && decide (c.toNat = 92)) r i := rfl
theorem scan_inside (q : Nat) : ∀ (l : List UInt8) (e : Bool) (i : Nat), i < scanQ q e l -> ∃ c r, l.drop i = c :: r /\ (stS e l i || decide (c.toNat ≠ q)) = true /\ stS e l (i + 1) = (!stS e l i && decide (c.toNat = 92))
 | [], e, i, h => absurd h (Nat.not_lt_zero _)
 | c :: r, e, i, h => by
  rw [scanQ] at h
  split at h
  ·rename_i hc;cases i with
   | zero => exact ⟨c, r, rfl, hc, by rw [stS_succ, stS_zero, stS_zero]⟩
   | succ i => exact scan_inside q r (!e && decide (c.toNat = 92)) i (by omega)
  ·exact absurd h (Nat.not_lt_zero _)
theorem scan_out (q : Nat) : ∀ (l : List UInt8) (e : Bool), scanQ q e l < l.length -> ∃ c r, l.drop (scanQ q e l) = c :: r /\ (stS e l (scanQ q e l) || decide (c.toNat ≠ q)) = false
 | [], e, h => absurd h (Nat.not_lt_zero _)
 | c :: r, e, h => by
  rw [scanQ] at h ⊢
  split at h
  ·rename_i hc;rw [if_pos hc];exact scan_out q r (!e && decide (c.toNat = 92)) (by simp only [List.length_cons] at h; omega)
  ·rename_i hc;rw [if_neg hc];exact ⟨c, r, rfl, by rw [stS_zero]; simpa using hc⟩
theorem own_inshort (w0 : World) (g h q b : Nat) (e : Bool) (W : World) (t : Two w0 g 5 (.int .u8 q) h 4 (.bool e) W) :
  Calls Tryz.prog 97 #[.int .u8 b, .pointer (some ⟨h, 0, none⟩), .pointer (some ⟨g, 0, none⟩)] W fun x w' => x = .returned (.bool (e || decide (b ≠ q))) /\ w' = W.setCell ⟨h, 0, none⟩ (.bool (!e && decide (b = 92))) := by
 have c1 := cell_of_one t.one;have c2 := cell_of_one t.two;have f2 := free_of_one t.two;have hne : g ≠ h := Nat.ne_of_lt t.hh;have t1 : ((b : Int) == 92) = decide (b = 92) := by rw [Bool.eq_iff_iff, beq_iff_eq, decide_eq_true_eq]; omega
 have t2 : ((b : Int) != (q : Int)) = decide (b ≠ q) := by rw [Bool.eq_iff_iff, bne_iff_ne, decide_eq_true_eq]; omega
 generalize decide (b = 92) = x at *;generalize decide (b ≠ q) = y at *;clear t;cases e
 ·go_enter Tryz.func97, Tryz.ntmps97;go_wp2_with fail;go_ret;exact ⟨rfl, rfl⟩
 ·go_enter Tryz.func97, Tryz.ntmps97;go_wp2_with fail;go_ret;exact ⟨rfl, rfl⟩
theorem span_short (s : ByteArray) (w0 : World) (g h q : Nat) (W : World) (hs : s.size <= 1000000000) (t : Two w0 g 5 (.int .u8 q) h 4 (.bool false) W) :
  Calls Tryz.prog 43 #[.string s, .func (.func 97) #[] #[.pointer (some ⟨h, 0, none⟩), .pointer (some ⟨g, 0, none⟩)]] W
   fun e w' => e = .returned (.int .i64 (scanQ q false s.data.toList : Nat)) /\ Res w0 w0.heap.size w' := by
 refine span_any s 97 #[.pointer (some ⟨h, 0, none⟩), .pointer (some ⟨g, 0, none⟩)] (scanQ q false s.data.toList) (fun i w' => Two w0 g 5 (.int .u8 q) h 4 (.bool (stS false s.data.toList i)) w') (fun w' => Res w0 w0.heap.size w') W hs (scan_le q s.data.toList false)
  (enters_of Tryz.func97 (by kernel_rfl) rfl) (fun i w1 hi hR => ?_) (fun hi w1 hR => ?_) (fun _ _ h => h.res) (by rw [stS_zero]; exact t)
 ·obtain ⟨c, r, h1, h2, h3⟩ := scan_inside q s.data.toList false i hi;have hle := scan_le q s.data.toList false;obtain ⟨c', e', h1'⟩ := drop_at s i (Nat.lt_of_lt_of_le hi hle);rw [h1'] at h1
  injection h1 with h4 h5
  subst h4;rw [e'] at h2 h3;have k := own_inshort w0 g h q (byteAt s i) (stS false s.data.toList i) w1 hR;rw [h2] at k;refine Calls.mono k ?_;rintro e w' ⟨rfl, rfl⟩;refine ⟨rfl, ?_⟩;rw [h3];exact hR.set _
 ·obtain ⟨c, r, h1, h2⟩ := scan_out q s.data.toList false hi;obtain ⟨c', e', h1'⟩ := drop_at s (scanQ q false s.data.toList) hi;rw [h1'] at h1
  injection h1 with h4 h5
  subst h4;rw [e'] at h2;have k := own_inshort w0 g h q (byteAt s (scanQ q false s.data.toList)) (stS false s.data.toList (scanQ q false s.data.toList)) w1 hR;rw [h2] at k;refine Calls.mono k ?_;rintro e w' ⟨rfl, rfl⟩;exact ⟨rfl, (hR.set _).res⟩
def shortO (l : List UInt8) : One := match unquotL (quoteT' l) with | some t => ⟨5, ⟨t.toArray⟩, 0, quoteN (hd l) (l.drop 1), 0⟩ | none => ⟨0, ⟨#[]⟩, 0, 0, 30⟩
def litO (T : List UInt8) (n : Nat) : One := match unquotL T with | some t => ⟨5, ⟨t.toArray⟩, 0, n, 0⟩ | none => ⟨0, ⟨#[]⟩, 0, 0, 30⟩
theorem short_is {l : List UInt8} (hq : hd l = 34 \/ hd l = 39) : (1 + scanQ (hd l) false (l.drop 1) = l.length -> shortO l = ⟨0, ⟨#[]⟩, 0, 0, 30⟩) /\
  (1 + scanQ (hd l) false (l.drop 1) ≠ l.length -> shortO l = litO (l.take (scanQ (hd l) false (l.drop 1) + 2)) (scanQ (hd l) false (l.drop 1) + 2)) := by
 cases l with
 | nil => simp [hd] at hq
 | cons c r =>
  rw [show hd (c :: r) = c.toNat from rfl] at *;rw [List.drop_one, List.tail_cons];unfold shortO quoteT';rw [show hd (c :: r) = c.toNat from rfl, List.drop_one, List.tail_cons];cases hk : quoteK c.toNat 0 r with
  | none =>
   have hN : quoteN c.toNat r = 0 := by unfold quoteN; rw [hk]
   rw [hN, List.take_zero];have hE : (match unquotL ([] : List UInt8) with | some t => (⟨5, ⟨t.toArray⟩, 0, 0, 0⟩ : One) | none => ⟨0, ⟨#[]⟩, 0, 0, 30⟩) = ⟨0, ⟨#[]⟩, 0, 0, 30⟩ := rfl;refine ⟨fun _ => hE, fun _ => ?_⟩;refine hE.trans ?_;unfold litO;rw [show scanQ c.toNat false r + 2 = (scanQ c.toNat false r + 1) + 1 from rfl, List.take_succ_cons, quote_no hq hk]
  | some m =>
   have hs := scan_quote hq r 0 m hk;rw [show decide ((0 : Nat) = 92) = false from rfl] at hs;have hN : quoteN c.toNat r = m + 1 := by unfold quoteN; rw [hk]
   have hle := quoteN_le c.toNat r;rw [hN] at hle ⊢;refine ⟨fun h => ?_, fun _ => ?_⟩
   ·rw [List.length_cons] at h; omega
   ·unfold litO;rw [show scanQ c.toNat false r + 2 = m + 1 by omega]
theorem own_short (s : ByteArray) (w : World) (hs : s.size <= 100000000) (h0 : 0 < s.size) (hq : hd s.data.toList = 34 \/ hd s.data.toList = 39) :
  Calls Tryz.prog 50 #[.string s] w (OneSays (shortO s.data.toList) w) := by
 have hlen : s.data.toList.length = s.size := rfl;have hh := hd_at h0;rw [List.drop_zero] at hh;obtain ⟨hE, hG⟩ := short_is hq;rw [hh] at hE hG;rw [hlen] at hE hG;have hx := run_index_at (P := Tryz.prog) 9 s 0 0 Tryz.underlying9 h0 rfl;have hsl := run_behind (P := Tryz.prog) 9 s 1 1 Tryz.underlying9 h0 rfl;have cs := fun g h W t => span_short (s.extract 1 s.size) w g h (byteAt s 0) W (by rw [behind_size]; omega) t
 rw [behind_list] at cs;have hle := scan_le (byteAt s 0) (s.data.toList.drop 1) false;rw [List.length_drop, hlen] at hle;have t0 := Two.new w 5 (.int .u8 (byteAt s 0 : Nat)) 4 (.bool false);generalize byteAt s 0 = q at *;generalize scanQ q false (s.data.toList.drop 1) = m at *;have T0 := qh t0;clear t0 hh hq;have hm : (m : Int) + 1 <= s.size := by omega
 have hsm : (s.size : Int) <= 100000000 := by omega
 by_cases he : 1 + m = s.size
 ·have HO := qh (hE he);have t1 : ((1 + (m : Int)) == (s.size : Int)) = true := by rw [beq_iff_eq]; omega
  clear hE hG;go_enter Tryz.func50, Tryz.ntmps50;go_wp2_with fail;refine (cs _ _ _ T0.out).mono ?_;rintro e w1 ⟨rfl, r⟩;have R3 := qh r;clear r;have k0 := R3.out.at0;have k1 := R3.out.at1;have k2 := R3.out.at2;have k3 := R3.out.at3;have f0 := R3.out.free 0;have f1 := R3.out.free 1;have f2 := R3.out.free 2;have f3 := R3.out.free 3;go_wp2_with fail;refine bodyPost_ret (v := .tuple #[.agg #[.int .u8 0, .string ⟨#[]⟩, .int .i64 0, .int .i64 0], .int .i64 0, .int .i64 30]) (by simp [results, Tryz.results50, go_sem, k0, k1, k2, k3]) rfl ?_;exact one_says HO.out R3.out.set
 ·have hO := hG he;have t1 : ((1 + (m : Int)) == (s.size : Int)) = false := by rw [beq_eq_false_iff_ne]; omega
  have hs2 := run_ahead (P := Tryz.prog) 9 s (m + 2) Tryz.underlying9 (by omega) (1 + (m : Int) + 1) (by omega);have hm2 : 1 + (m : Int) + 1 <= s.size := by omega
  have cu := fun w => own_unquote (s.extract 0 (m + 2)) w (by rw [ahead_size s _ (by omega)]; omega)
  unfold UnqIs unqT unqE at cu;rw [ahead_list] at cu;unfold litO at hO;generalize s.extract 0 (m + 2) = T at *;clear hE hG;cases hu : unquotL (s.data.toList.take (m + 2)) with
  | none =>
   rw [hu] at cu hO;simp only [] at cu hO;have HO := qh hO;clear hO hu;go_enter Tryz.func50, Tryz.ntmps50;go_wp2_with fail;refine (cs _ _ _ T0.out).mono ?_;rintro e w1 ⟨rfl, r⟩;have R1 := qh r;clear r;go_wp2_with fail;refine (cu _).mono ?_;rintro e w2 ⟨rfl, b2⟩;have R3 := qh (R1.out.below b2);clear b2;have k0 := R3.out.at0;have k1 := R3.out.at1;have k2 := R3.out.at2;have k3 := R3.out.at3;have f0 := R3.out.free 0;have f1 := R3.out.free 1;have f2 := R3.out.free 2;have f3 := R3.out.free 3;go_wp2_with fail;refine bodyPost_ret (v := .tuple #[.agg #[.int .u8 0, .string ⟨#[]⟩, .int .i64 0, .int .i64 0], .int .i64 0, .int .i64 30]) (by simp [results, Tryz.results50, go_sem, k0, k1, k2, k3]) rfl ?_;exact one_says HO.out R3.out.set
  | some t =>
   rw [hu] at cu hO;simp only [] at cu hO;have HO := qh hO;clear hO hu;generalize (⟨t.toArray⟩ : ByteArray) = U at *;go_enter Tryz.func50, Tryz.ntmps50;go_wp2_with fail;refine (cs _ _ _ T0.out).mono ?_;rintro e w1 ⟨rfl, r⟩;have R1 := qh r;clear r;go_wp2_with fail;refine (cu _).mono ?_;rintro e w2 ⟨rfl, b2⟩;have R3 := qh (R1.out.below b2);clear b2;have k0 := R3.out.at0;have k1 := R3.out.at1;have k2 := R3.out.at2;have k3 := R3.out.at3;have f0 := R3.out.free 0;have f1 := R3.out.free 1;have f2 := R3.out.free 2;have f3 := R3.out.free 3;go_wp2_with fail;refine bodyPost_ret (v := .tuple #[.agg #[.int .u8 5, .string U, .int .i64 0, .int .i64 0], .int .i64 ((m + 2 : Nat) : Int), .int .i64 0]) (by simp [results, Tryz.results50, go_sem, k0, k1, k2, k3]; omega) rfl ?_;exact one_says HO.out R3.out.set
end Go.Proofs.YtnkejjlidgnkkaaGreatDoor.Lex
