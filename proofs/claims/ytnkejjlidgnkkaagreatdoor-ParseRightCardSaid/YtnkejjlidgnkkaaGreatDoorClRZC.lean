/-
  A part of the proof.
-/
import Derived.Lib.Hide
import Derived.Test.YtnkejjlidgnkkaaGreatDoorClRZB
set_option maxRecDepth 100000
set_option maxHeartbeats 40000000
namespace Go.Proofs.YtnkejjlidgnkkaaGreatDoor.Lex

open Go.Lib renaming hid → qh
open Go.RowKit
def clO (o : One) : One := if o.e = 0 then o else ⟨0, ⟨#[]⟩, 0, 0, o.e⟩
def nextO (l : List UInt8) : One := if spaceB (hd l) = true then ⟨0, ⟨#[]⟩, 0, blanks l, 0⟩ else match noteL l with | some _ => noteO l | none => clO (oneL l)
theorem note_yes {l : List UInt8} (hp : ([45, 45] : List UInt8).isPrefixOf l = true) : ∃ n, noteL l = some n := by
 unfold noteL;rw [if_pos hp]
 split
 ·exact ⟨_, rfl⟩
 ·exact ⟨_, rfl⟩
 ·exact ⟨_, rfl⟩
theorem note_no {l : List UInt8} (hp : ([45, 45] : List UInt8).isPrefixOf l = false) : noteL l = none := by
 unfold noteL;rw [hp, if_neg (by decide)]
theorem next_space {l : List UInt8} (hs : spaceB (hd l) = true) : nextO l = ⟨0, ⟨#[]⟩, 0, blanks l, 0⟩ := by
 unfold nextO; rw [if_pos hs]
theorem next_note {l : List UInt8} (hs : spaceB (hd l) = false) (hp : ([45, 45] : List UInt8).isPrefixOf l = true) : nextO l = noteO l := by
 obtain ⟨n, hn⟩ := note_yes hp;unfold nextO; rw [hs, if_neg (by decide), hn]
theorem next_one {l : List UInt8} (hs : spaceB (hd l) = false) (hp : ([45, 45] : List UInt8).isPrefixOf l = false) : nextO l = clO (oneL l) := by
 unfold nextO; rw [hs, if_neg (by decide), note_no hp]
theorem next_name {l : List UInt8} (hs : spaceB (hd l) = false) (hp : ([45, 45] : List UInt8).isPrefixOf l = false) (hl : letterB (hd l) = true) : nextO l = ⟨if wordB (nameT l) = true then 2 else 1, nameT l, 0, nameL l, 0⟩ := by
 rw [next_one hs hp, oneL, if_pos hl, clO, if_pos rfl]
theorem next_num {s : ByteArray} (h0 : 0 < s.size) (hs : spaceB (hd s.data.toList) = false) (hp : ([45, 45] : List UInt8).isPrefixOf s.data.toList = false) (hl : letterB (hd s.data.toList) = false) (hB : numB (hd s.data.toList) (hd (s.data.toList.drop 1)) = true) : nextO s.data.toList = numO s.data.toList := by
 obtain ⟨h1, h2, h3, h4, h5⟩ := num_text h0 hB;have hpos := h3.pos;rw [next_one hs hp, oneL, hl, if_neg (by decide), if_pos (show numL s.data.toList ≠ 0 by omega)];unfold clO numO
 split
 ·rename_i he;have he : numberE (numT s.data.toList) = 0 := he;rw [he]
 ·rfl
theorem num_zero {s : ByteArray} (hB : numB (hd s.data.toList) (hd (s.data.toList.drop 1)) = false) : numL s.data.toList = 0 := by
 have := numL_eq s 0;rw [List.drop_zero, Nat.zero_add, if_neg (by rw [hB]; decide)] at this;exact this
theorem next_long {s : ByteArray} (hs : spaceB (hd s.data.toList) = false) (hp : ([45, 45] : List UInt8).isPrefixOf s.data.toList = false) (hl : letterB (hd s.data.toList) = false) (hB : numB (hd s.data.toList) (hd (s.data.toList.drop 1)) = false) (hb : brkB s.data.toList = true) : nextO s.data.toList = longO s.data.toList := by
 rw [next_one hs hp, oneL, hl, if_neg (by decide), if_neg (by rw [num_zero hB]; decide)];unfold longO;cases h : longL s.data.toList with
 | none => rw [long_brk, if_pos hb] at h; cases h
 | some x => cases x with
  | none => rfl
  | some x => rfl
theorem next_short {s : ByteArray} (hs : spaceB (hd s.data.toList) = false) (hp : ([45, 45] : List UInt8).isPrefixOf s.data.toList = false) (hl : letterB (hd s.data.toList) = false) (hB : numB (hd s.data.toList) (hd (s.data.toList.drop 1)) = false) (hb : brkB s.data.toList = false) (hq : hd s.data.toList = 34 \/ hd s.data.toList = 39) : nextO s.data.toList = shortO s.data.toList := by
 have hn : longL s.data.toList = none := by rw [long_brk, if_neg (by rw [hb]; decide)]
 rw [next_one hs hp, oneL, hl, if_neg (by decide), if_neg (by rw [num_zero hB]; decide), hn];simp only [];rw [if_pos hq];unfold shortO clO unqT unqE;cases unquotL (quoteT' s.data.toList) with
 | none => rfl
 | some t => rfl
theorem next_sign {s : ByteArray} (hs : spaceB (hd s.data.toList) = false) (hp : ([45, 45] : List UInt8).isPrefixOf s.data.toList = false) (hl : letterB (hd s.data.toList) = false) (hB : numB (hd s.data.toList) (hd (s.data.toList.drop 1)) = false) (hb : brkB s.data.toList = false) (hq : ¬ (hd s.data.toList = 34 \/ hd s.data.toList = 39)) : nextO s.data.toList = signP s.data.toList := by
 have hn : longL s.data.toList = none := by rw [long_brk, if_neg (by rw [hb]; decide)]
 rw [next_one hs hp, oneL, hl, if_neg (by decide), if_neg (by rw [num_zero hB]; decide), hn];simp only [];rw [if_neg hq];unfold signP
 split
 ·rfl
 ·unfold signO clO
  split
  ·split <;> rfl
  ·rfl
theorem next_of {o : One} {w w' : World} (hb : Below w.heap.size w w') : NextSays o w (.returned (.tuple #[.agg #[.int .u8 o.k, .string o.s, .int .i64 o.n, .int .i64 0], .int .i64 (o.len : Nat), .int .i64 (o.e : Nat)])) w' :=
 ⟨o.k, o.s, o.n, o.len, rfl, fun _ => ⟨rfl, rfl, rfl, rfl⟩, hb⟩
theorem own_next (s : ByteArray) (w : World) (hs : s.size <= 100000000) (h0 : 0 < s.size) (hv : LVars w) :
  Calls Tryz.prog 22 #[.string s] w (NextSays (nextO s.data.toList) w) := by
 have hlen : s.data.toList.length = s.size := rfl;have cb := fun w => own_bracket s w (by omega)
 have hx := run_index_at (P := Tryz.prog) 9 s 0 0 Tryz.underlying9 h0 rfl;have hh := hd_at h0;rw [List.drop_zero] at hh;have csp := fun w => own_space (byteAt s 0) w (byteAt_lt s 0)
 have cl := fun w => own_letter (byteAt s 0) w (byteAt_lt s 0)
 have cd := fun w => own_digit (byteAt s 0) w (byteAt_lt s 0)
 have chp := fun w => has_any s ⟨#[45, 45]⟩ w
 rw [show (⟨#[45, 45]⟩ : ByteArray).data.toList = [45, 45] from rfl] at chp;have HV := qh hv;have R0 := qh (Res.fresh w);clear hv;unfold BrkSays at cb;cases hsp : spaceB (byteAt s 0)
 ·rw [hsp] at csp;cases hp : ([45, 45] : List UInt8).isPrefixOf s.data.toList
  ·rw [hp] at chp;cases hl : letterB (byteAt s 0)
   ·rw [hl] at cl;rw [<- hh] at hsp hl;cases hdg : digitB (byteAt s 0)
    ·rw [hdg] at cd;rw [<- hh] at hdg;by_cases h46 : byteAt s 0 = 46
     ·have t46 : (((byteAt s 0 : Nat) : Int) == 46) = true := by rw [h46]; rfl
      have hbk : brkB s.data.toList = false := by unfold brkB; rw [hh, h46]; rfl
      rw [hbk] at cb;have hq : ¬ (hd s.data.toList = 34 \/ hd s.data.toList = 39) := by rw [hh, h46]; decide
      have t34 : (((byteAt s 0 : Nat) : Int) == 34) = false := by rw [h46]; rfl
      have t39 : (((byteAt s 0 : Nat) : Int) == 39) = false := by rw [h46]; rfl
      by_cases h1 : 1 < s.size
      ·have h1' : (1 : Int) < s.size := by omega
       have hy := run_index_at (P := Tryz.prog) 9 s 1 1 Tryz.underlying9 h1 rfl;have hh1 := hd_at h1;have cd1 := fun w => own_digit (byteAt s 1) w (byteAt_lt s 1)
       cases hd1 : digitB (byteAt s 1)
       ·rw [hd1] at cd1;have hB : numB (hd s.data.toList) (hd (s.data.toList.drop 1)) = false := by unfold numB; rw [hdg, hh1, hd1, Bool.and_false]; rfl
        have cp := fun w hv => own_sign s w h0 hv
        rw [<- next_sign hsp hp hl hB hbk hq] at cp;unfold OneSays at cp;generalize nextO s.data.toList = O at *;generalize brkK s.data.toList = bk at *;clear hsp hp hl hdg h46 hbk hq hh1 hd1 hB hh;generalize byteAt s 1 = b1 at *;generalize byteAt s 0 = b at *;go_enter Tryz.func22, Tryz.ntmps22;go_wp2_with fail;refine (cb _).mono ?_;rintro e w1 ⟨rfl, rfl⟩;go_wp2_with fail;refine (csp _).mono ?_;rintro e w1 ⟨rfl, rfl⟩;go_wp2_with fail;refine (chp _).mono ?_;rintro e w1 ⟨rfl, rfl⟩;go_wp2_with fail;refine (cl _).mono ?_;rintro e w1 ⟨rfl, rfl⟩;go_wp2_with fail;refine (cd _).mono ?_;rintro e w1 ⟨rfl, rfl⟩;go_wp2_with fail;refine (cd1 _).mono ?_;rintro e w1 ⟨rfl, rfl⟩;go_wp2_with fail;refine (cp _ (HV.out.below R0.out.low)).mono ?_;rintro e w2 ⟨rfl, b2⟩;have R3 := qh (R0.out.below b2);clear b2;have k0 := R3.out.at0;have k1 := R3.out.at1;have k2 := R3.out.at2;have k3 := R3.out.at3;have f0 := R3.out.free 0;have f1 := R3.out.free 1;have f2 := R3.out.free 2;have f3 := R3.out.free 3;go_wp2_with fail;refine bodyPost_ret (v := .tuple #[.agg #[.int .u8 O.k, .string O.s, .int .i64 O.n, .int .i64 0], .int .i64 (O.len : Nat), .int .i64 (O.e : Nat)]) (by simp [results, Tryz.results22, go_sem, k0, k1, k2, k3]) rfl ?_;exact next_of R3.out.set
       ·rw [hd1] at cd1;have hB : numB (hd s.data.toList) (hd (s.data.toList.drop 1)) = true := by unfold numB; rw [hdg, hh1, hd1, hh, decide_eq_true h46]; rfl
        have cp := fun w hv => own_numeral s w hs h0 hB hv
        rw [<- next_num h0 hsp hp hl hB] at cp;unfold OneSays at cp;generalize nextO s.data.toList = O at *;generalize brkK s.data.toList = bk at *;clear hsp hp hl hdg h46 hbk hq hh1 hd1 hB hh;generalize byteAt s 1 = b1 at *;generalize byteAt s 0 = b at *;go_enter Tryz.func22, Tryz.ntmps22;go_wp2_with fail;refine (cb _).mono ?_;rintro e w1 ⟨rfl, rfl⟩;go_wp2_with fail;refine (csp _).mono ?_;rintro e w1 ⟨rfl, rfl⟩;go_wp2_with fail;refine (chp _).mono ?_;rintro e w1 ⟨rfl, rfl⟩;go_wp2_with fail;refine (cl _).mono ?_;rintro e w1 ⟨rfl, rfl⟩;go_wp2_with fail;refine (cd _).mono ?_;rintro e w1 ⟨rfl, rfl⟩;go_wp2_with fail;refine (cd1 _).mono ?_;rintro e w1 ⟨rfl, rfl⟩;go_wp2_with fail;refine (cp _ (HV.out.below R0.out.low)).mono ?_;rintro e w2 ⟨rfl, b2⟩;have R3 := qh (R0.out.below b2);clear b2;have k0 := R3.out.at0;have k1 := R3.out.at1;have k2 := R3.out.at2;have k3 := R3.out.at3;have f0 := R3.out.free 0;have f1 := R3.out.free 1;have f2 := R3.out.free 2;have f3 := R3.out.free 3;go_wp2_with fail;refine bodyPost_ret (v := .tuple #[.agg #[.int .u8 O.k, .string O.s, .int .i64 O.n, .int .i64 0], .int .i64 (O.len : Nat), .int .i64 (O.e : Nat)]) (by simp [results, Tryz.results22, go_sem, k0, k1, k2, k3]) rfl ?_;exact next_of R3.out.set
      ·have h1' : ¬ (1 : Int) < s.size := by omega
       have hB : numB (hd s.data.toList) (hd (s.data.toList.drop 1)) = false := by unfold numB; rw [hdg, hd_end (show s.size <= 1 by omega)]; simp [digitB]
       have cp := fun w hv => own_sign s w h0 hv
       rw [<- next_sign hsp hp hl hB hbk hq] at cp;unfold OneSays at cp;generalize nextO s.data.toList = O at *;generalize brkK s.data.toList = bk at *;clear hsp hp hl hdg h46 hbk hq hB hh;generalize byteAt s 0 = b at *;go_enter Tryz.func22, Tryz.ntmps22;go_wp2_with fail;refine (cb _).mono ?_;rintro e w1 ⟨rfl, rfl⟩;go_wp2_with fail;refine (csp _).mono ?_;rintro e w1 ⟨rfl, rfl⟩;go_wp2_with fail;refine (chp _).mono ?_;rintro e w1 ⟨rfl, rfl⟩;go_wp2_with fail;refine (cl _).mono ?_;rintro e w1 ⟨rfl, rfl⟩;go_wp2_with fail;refine (cd _).mono ?_;rintro e w1 ⟨rfl, rfl⟩;go_wp2_with fail;refine (cp _ (HV.out.below R0.out.low)).mono ?_;rintro e w2 ⟨rfl, b2⟩;have R3 := qh (R0.out.below b2);clear b2;have k0 := R3.out.at0;have k1 := R3.out.at1;have k2 := R3.out.at2;have k3 := R3.out.at3;have f0 := R3.out.free 0;have f1 := R3.out.free 1;have f2 := R3.out.free 2;have f3 := R3.out.free 3;go_wp2_with fail;refine bodyPost_ret (v := .tuple #[.agg #[.int .u8 O.k, .string O.s, .int .i64 O.n, .int .i64 0], .int .i64 (O.len : Nat), .int .i64 (O.e : Nat)]) (by simp [results, Tryz.results22, go_sem, k0, k1, k2, k3]) rfl ?_;exact next_of R3.out.set
     ·have t46 : (((byteAt s 0 : Nat) : Int) == 46) = false := by rw [beq_eq_false_iff_ne]; omega
      have hB : numB (hd s.data.toList) (hd (s.data.toList.drop 1)) = false := by unfold numB; rw [hdg, hh, decide_eq_false h46]; rfl
      cases hbk : brkB s.data.toList
      ·rw [hbk] at cb;by_cases h34 : byteAt s 0 = 34
       ·have t34 : (((byteAt s 0 : Nat) : Int) == 34) = true := by rw [h34]; rfl
        have hq : hd s.data.toList = 34 \/ hd s.data.toList = 39 := .inl (hh.trans h34);have cp := fun w => own_short s w hs h0 hq
        rw [<- next_short hsp hp hl hB hbk hq] at cp;unfold OneSays at cp;generalize nextO s.data.toList = O at *;generalize brkK s.data.toList = bk at *;clear hsp hp hl hdg h46 hbk hq hB hh;clear h34;generalize byteAt s 0 = b at *;go_enter Tryz.func22, Tryz.ntmps22;go_wp2_with fail;refine (cb _).mono ?_;rintro e w1 ⟨rfl, rfl⟩;go_wp2_with fail;refine (csp _).mono ?_;rintro e w1 ⟨rfl, rfl⟩;go_wp2_with fail;refine (chp _).mono ?_;rintro e w1 ⟨rfl, rfl⟩;go_wp2_with fail;refine (cl _).mono ?_;rintro e w1 ⟨rfl, rfl⟩;go_wp2_with fail;refine (cd _).mono ?_;rintro e w1 ⟨rfl, rfl⟩;go_wp2_with fail;refine (cp _).mono ?_;rintro e w2 ⟨rfl, b2⟩;have R3 := qh (R0.out.below b2);clear b2;have k0 := R3.out.at0;have k1 := R3.out.at1;have k2 := R3.out.at2;have k3 := R3.out.at3;have f0 := R3.out.free 0;have f1 := R3.out.free 1;have f2 := R3.out.free 2;have f3 := R3.out.free 3;go_wp2_with fail;refine bodyPost_ret (v := .tuple #[.agg #[.int .u8 O.k, .string O.s, .int .i64 O.n, .int .i64 0], .int .i64 (O.len : Nat), .int .i64 (O.e : Nat)]) (by simp [results, Tryz.results22, go_sem, k0, k1, k2, k3]) rfl ?_;exact next_of R3.out.set
       ·have t34 : (((byteAt s 0 : Nat) : Int) == 34) = false := by rw [beq_eq_false_iff_ne]; omega
        by_cases h39 : byteAt s 0 = 39
        ·have t39 : (((byteAt s 0 : Nat) : Int) == 39) = true := by rw [h39]; rfl
         have hq : hd s.data.toList = 34 \/ hd s.data.toList = 39 := .inr (hh.trans h39);have cp := fun w => own_short s w hs h0 hq
         rw [<- next_short hsp hp hl hB hbk hq] at cp;unfold OneSays at cp;generalize nextO s.data.toList = O at *;generalize brkK s.data.toList = bk at *;clear hsp hp hl hdg h46 hbk hq hB hh;clear h34 h39;generalize byteAt s 0 = b at *;go_enter Tryz.func22, Tryz.ntmps22;go_wp2_with fail;refine (cb _).mono ?_;rintro e w1 ⟨rfl, rfl⟩;go_wp2_with fail;refine (csp _).mono ?_;rintro e w1 ⟨rfl, rfl⟩;go_wp2_with fail;refine (chp _).mono ?_;rintro e w1 ⟨rfl, rfl⟩;go_wp2_with fail;refine (cl _).mono ?_;rintro e w1 ⟨rfl, rfl⟩;go_wp2_with fail;refine (cd _).mono ?_;rintro e w1 ⟨rfl, rfl⟩;go_wp2_with fail;refine (cp _).mono ?_;rintro e w2 ⟨rfl, b2⟩;have R3 := qh (R0.out.below b2);clear b2;have k0 := R3.out.at0;have k1 := R3.out.at1;have k2 := R3.out.at2;have k3 := R3.out.at3;have f0 := R3.out.free 0;have f1 := R3.out.free 1;have f2 := R3.out.free 2;have f3 := R3.out.free 3;go_wp2_with fail;refine bodyPost_ret (v := .tuple #[.agg #[.int .u8 O.k, .string O.s, .int .i64 O.n, .int .i64 0], .int .i64 (O.len : Nat), .int .i64 (O.e : Nat)]) (by simp [results, Tryz.results22, go_sem, k0, k1, k2, k3]) rfl ?_;exact next_of R3.out.set
        ·have t39 : (((byteAt s 0 : Nat) : Int) == 39) = false := by rw [beq_eq_false_iff_ne]; omega
         have hq : ¬ (hd s.data.toList = 34 \/ hd s.data.toList = 39) := by rw [hh]; omega
         have cp := fun w hv => own_sign s w h0 hv
         rw [<- next_sign hsp hp hl hB hbk hq] at cp;unfold OneSays at cp;generalize nextO s.data.toList = O at *;generalize brkK s.data.toList = bk at *;clear hsp hp hl hdg h46 hbk hq hB hh h34 h39;generalize byteAt s 0 = b at *;go_enter Tryz.func22, Tryz.ntmps22;go_wp2_with fail;refine (cb _).mono ?_;rintro e w1 ⟨rfl, rfl⟩;go_wp2_with fail;refine (csp _).mono ?_;rintro e w1 ⟨rfl, rfl⟩;go_wp2_with fail;refine (chp _).mono ?_;rintro e w1 ⟨rfl, rfl⟩;go_wp2_with fail;refine (cl _).mono ?_;rintro e w1 ⟨rfl, rfl⟩;go_wp2_with fail;refine (cd _).mono ?_;rintro e w1 ⟨rfl, rfl⟩;go_wp2_with fail;refine (cp _ (HV.out.below R0.out.low)).mono ?_;rintro e w2 ⟨rfl, b2⟩;have R3 := qh (R0.out.below b2);clear b2;have k0 := R3.out.at0;have k1 := R3.out.at1;have k2 := R3.out.at2;have k3 := R3.out.at3;have f0 := R3.out.free 0;have f1 := R3.out.free 1;have f2 := R3.out.free 2;have f3 := R3.out.free 3;go_wp2_with fail;refine bodyPost_ret (v := .tuple #[.agg #[.int .u8 O.k, .string O.s, .int .i64 O.n, .int .i64 0], .int .i64 (O.len : Nat), .int .i64 (O.e : Nat)]) (by simp [results, Tryz.results22, go_sem, k0, k1, k2, k3]) rfl ?_;exact next_of R3.out.set
      ·have cp := fun w hv => own_longs s (eqsL (s.data.toList.drop 1)) w hs hbk rfl hv
       rw [<- next_long hsp hp hl hB hbk] at cp;unfold brkK at cb;rw [hbk, if_pos rfl] at cb;unfold OneSays at cp;generalize nextO s.data.toList = O at *;generalize eqsL (s.data.toList.drop 1) = bk at *;clear hsp hp hl hdg h46 hbk hB hh;generalize byteAt s 0 = b at *;go_enter Tryz.func22, Tryz.ntmps22;go_wp2_with fail;refine (cb _).mono ?_;rintro e w1 ⟨rfl, rfl⟩;go_wp2_with fail;refine (csp _).mono ?_;rintro e w1 ⟨rfl, rfl⟩;go_wp2_with fail;refine (chp _).mono ?_;rintro e w1 ⟨rfl, rfl⟩;go_wp2_with fail;refine (cl _).mono ?_;rintro e w1 ⟨rfl, rfl⟩;go_wp2_with fail;refine (cd _).mono ?_;rintro e w1 ⟨rfl, rfl⟩;go_wp2_with fail;refine (cp _ (HV.out.below R0.out.low)).mono ?_;rintro e w2 ⟨rfl, b2⟩;have R3 := qh (R0.out.below b2);clear b2;have k0 := R3.out.at0;have k1 := R3.out.at1;have k2 := R3.out.at2;have k3 := R3.out.at3;have f0 := R3.out.free 0;have f1 := R3.out.free 1;have f2 := R3.out.free 2;have f3 := R3.out.free 3;go_wp2_with fail;refine bodyPost_ret (v := .tuple #[.agg #[.int .u8 O.k, .string O.s, .int .i64 O.n, .int .i64 0], .int .i64 (O.len : Nat), .int .i64 (O.e : Nat)]) (by simp [results, Tryz.results22, go_sem, k0, k1, k2, k3]) rfl ?_;exact next_of R3.out.set
    ·rw [hdg] at cd;have hB : numB (hd s.data.toList) (hd (s.data.toList.drop 1)) = true := by unfold numB; rw [hh, hdg]; rfl
     have cp := fun w hv => own_numeral s w hs h0 hB hv
     rw [<- next_num h0 hsp hp hl hB] at cp;unfold OneSays at cp;generalize nextO s.data.toList = O at *;generalize brkK s.data.toList = bk at *;generalize brkB s.data.toList = bb at *;clear hsp hp hl hdg hB hh;generalize byteAt s 0 = b at *;go_enter Tryz.func22, Tryz.ntmps22;go_wp2_with fail;refine (cb _).mono ?_;rintro e w1 ⟨rfl, rfl⟩;go_wp2_with fail;refine (csp _).mono ?_;rintro e w1 ⟨rfl, rfl⟩;go_wp2_with fail;refine (chp _).mono ?_;rintro e w1 ⟨rfl, rfl⟩;go_wp2_with fail;refine (cl _).mono ?_;rintro e w1 ⟨rfl, rfl⟩;go_wp2_with fail;refine (cd _).mono ?_;rintro e w1 ⟨rfl, rfl⟩;go_wp2_with fail;refine (cp _ (HV.out.below R0.out.low)).mono ?_;rintro e w2 ⟨rfl, b2⟩;have R3 := qh (R0.out.below b2);clear b2;have k0 := R3.out.at0;have k1 := R3.out.at1;have k2 := R3.out.at2;have k3 := R3.out.at3;have f0 := R3.out.free 0;have f1 := R3.out.free 1;have f2 := R3.out.free 2;have f3 := R3.out.free 3;go_wp2_with fail;refine bodyPost_ret (v := .tuple #[.agg #[.int .u8 O.k, .string O.s, .int .i64 O.n, .int .i64 0], .int .i64 (O.len : Nat), .int .i64 (O.e : Nat)]) (by simp [results, Tryz.results22, go_sem, k0, k1, k2, k3]) rfl ?_;exact next_of R3.out.set
   ·rw [hl] at cl;rw [<- hh] at hsp hl;have cp := fun w => own_name s w hs hl
    rw [<- next_name hsp hp hl] at cp;unfold OneSays at cp;generalize nextO s.data.toList = O at *;generalize brkK s.data.toList = bk at *;generalize brkB s.data.toList = bb at *;clear hsp hp hl hh;generalize byteAt s 0 = b at *;go_enter Tryz.func22, Tryz.ntmps22;go_wp2_with fail;refine (cb _).mono ?_;rintro e w1 ⟨rfl, rfl⟩;go_wp2_with fail;refine (csp _).mono ?_;rintro e w1 ⟨rfl, rfl⟩;go_wp2_with fail;refine (chp _).mono ?_;rintro e w1 ⟨rfl, rfl⟩;go_wp2_with fail;refine (cl _).mono ?_;rintro e w1 ⟨rfl, rfl⟩;go_wp2_with fail;refine (cp _).mono ?_;rintro e w2 ⟨rfl, b2⟩;have R3 := qh (R0.out.below b2);clear b2;have k0 := R3.out.at0;have k1 := R3.out.at1;have k2 := R3.out.at2;have k3 := R3.out.at3;have f0 := R3.out.free 0;have f1 := R3.out.free 1;have f2 := R3.out.free 2;have f3 := R3.out.free 3;go_wp2_with fail;refine bodyPost_ret (v := .tuple #[.agg #[.int .u8 O.k, .string O.s, .int .i64 O.n, .int .i64 0], .int .i64 (O.len : Nat), .int .i64 (O.e : Nat)]) (by simp [results, Tryz.results22, go_sem, k0, k1, k2, k3]) rfl ?_;exact next_of R3.out.set
  ·rw [hp] at chp;rw [<- hh] at hsp;have cp := fun w hv => own_note s w hs hp hv
   rw [<- next_note hsp hp] at cp;unfold NextSays at cp;generalize nextO s.data.toList = O at *;generalize brkK s.data.toList = bk at *;generalize brkB s.data.toList = bb at *;clear hsp hp hh;generalize byteAt s 0 = b at *;go_enter Tryz.func22, Tryz.ntmps22;go_wp2_with fail;refine (cb _).mono ?_;rintro e w1 ⟨rfl, rfl⟩;go_wp2_with fail;refine (csp _).mono ?_;rintro e w1 ⟨rfl, rfl⟩;go_wp2_with fail;refine (chp _).mono ?_;rintro e w1 ⟨rfl, rfl⟩;go_wp2_with fail;refine (cp _ (HV.out.below R0.out.low)).mono ?_;rintro e w2 ⟨k, t, n, len, rfl, hh, b2⟩;have R3 := qh (R0.out.below b2);have HH := qh hh;clear hh b2;have k0 := R3.out.at0;have k1 := R3.out.at1;have k2 := R3.out.at2;have k3 := R3.out.at3;have f0 := R3.out.free 0;have f1 := R3.out.free 1;have f2 := R3.out.free 2;have f3 := R3.out.free 3;go_wp2_with fail;refine bodyPost_ret (v := .tuple #[.agg #[.int .u8 k, .string t, .int .i64 n, .int .i64 0], .int .i64 len, .int .i64 (O.e : Nat)]) (by simp [results, Tryz.results22, go_sem, k0, k1, k2, k3]) rfl ?_;exact next_says rfl HH.out R3.out.set
 ·rw [hsp] at csp;have HO := qh (next_space (l := s.data.toList) (by rw [hh]; exact hsp));have cspan := fun w => span_pure s 42 spaceB w (by omega) (enters_of Tryz.func42 (by kernel_rfl) rfl) (fun b w hb => own_space b w hb)
  rw [<- blanks_run] at cspan;generalize nextO s.data.toList = O at *;generalize blanks s.data.toList = n at *;generalize brkK s.data.toList = bk at *;generalize brkB s.data.toList = bb at *;clear hsp hh;generalize byteAt s 0 = b at *;go_enter Tryz.func22, Tryz.ntmps22;go_wp2_with fail;refine (cb _).mono ?_;rintro e w1 ⟨rfl, rfl⟩;go_wp2_with fail;refine (csp _).mono ?_;rintro e w1 ⟨rfl, rfl⟩;go_wp2_with fail;refine (cspan _).mono ?_;rintro e w1 ⟨rfl, rfl⟩;have R3 := R0;have k0 := R3.out.at0;have k1 := R3.out.at1;have k2 := R3.out.at2;have k3 := R3.out.at3;have f0 := R3.out.free 0;have f1 := R3.out.free 1;have f2 := R3.out.free 2;have f3 := R3.out.free 3;go_wp2_with fail;refine bodyPost_ret (v := .tuple #[.agg #[.int .u8 0, .string ⟨#[]⟩, .int .i64 0, .int .i64 0], .int .i64 (n : Nat), .int .i64 0]) (by simp [results, Tryz.results22, go_sem, k0, k1, k2, k3]) rfl ?_;rw [HO.out];exact next_says (k := 0) (e := 0) rfl (fun _ => ⟨rfl, rfl, rfl, rfl⟩) R3.out.low
end Go.Proofs.YtnkejjlidgnkkaaGreatDoor.Lex
namespace Go.Proofs.YtnkejjlidgnkkaaGreatDoor.Lex

open Go.Lib renaming hid → qh
open Go.RowKit
theorem blanks_drop : ∀ l : List UInt8, blanks (l.drop (blanks l)) = 0
 | [] => rfl
 | c :: r => by
  rw [blanks]
  split
  ·rw [List.drop_succ_cons]; exact blanks_drop r
  ·rename_i h;rw [List.drop_zero, blanks, if_neg h]
theorem tokF_blanks (f ln : Nat) (l : List UInt8) (acc : List Tok) : tokF (f + 1) ln l acc = tokF (f + 1) (ln + linesOf (l.take (blanks l))) (l.drop (blanks l)) acc := by
 rw [tokF, tokF, blanks_drop, List.drop_zero, List.take_zero, show linesOf [] = 0 from rfl, Nat.add_zero]
theorem blanks_zero {l : List UInt8} (h : spaceB (hd l) = false) : blanks l = 0 := by
 cases l with
 | nil => rfl
 | cons c r => rw [blanks, if_neg (by rw [show spaceL c.toNat = spaceB (hd (c :: r)) from rfl, h]; decide)]
theorem blanks_pos {l : List UInt8} (h : spaceB (hd l) = true) : 1 <= blanks l := by
 cases l with
 | nil => cases h
 | cons c r => rw [blanks, if_pos (show spaceL c.toNat = true from h)]; omega
theorem one_kind {l : List UInt8} (he : (oneL l).e = 0) : (oneL l).k ≠ 0 := by
 unfold oneL at he ⊢
 split at he
 ·rename_i h;rw [if_pos h]
  show (if wordB (nameT l) = true then 2 else 1) ≠ 0
  split <;> decide
 ·rename_i h;rw [if_neg h]
  split at he
  ·rename_i hm;rw [if_pos hm]
   show (4 : Nat) ≠ 0
   decide
  ·rename_i hm;rw [if_neg hm];cases hl : longL l with
   | none =>
    rw [hl] at he;simp only [] at he ⊢
    split at he
    ·rename_i hq;rw [if_pos hq]
     show (5 : Nat) ≠ 0
     decide
    ·rename_i hq;rw [if_neg hq]
     split at he
     ·cases he
     ·rename_i hp;rw [if_neg hp];unfold signO at he ⊢
      split at he
      ·split at he <;> cases he
      ·rename_i hz;rw [if_neg hz]
       show (3 : Nat) ≠ 0
       decide
   | some x =>
    rw [hl] at he;cases x with
    | none => cases he
    | some x =>
     obtain ⟨t, n⟩ := x;simp only []
     decide
variable {s : ByteArray} {R : List Tok × Nat × Nat} {p ln : Nat} {acc : List Tok}
theorem lnAt_zero : lnAt s p ln 0 = ln := by unfold lnAt; rw [List.take_zero]; rfl
theorem TAt.over (h : TAt s R p ln acc) (hp : p = s.size) : R = (acc ++ [⟨6, ⟨#[]⟩, 0, ln⟩], 0, 0) := by
 have hb : 0 = blanks (s.data.toList.drop p) := by rw [drop_end' (by omega)]; rfl
 have := h.fin hb (by omega);rw [lnAt_zero] at this;exact this
theorem noteO_e {l : List UInt8} {n : Nat} (h : noteL l = some n) : noteO l = if n = 0 then ⟨0, ⟨#[]⟩, 0, 0, 30⟩ else ⟨0, ⟨#[]⟩, 0, n, 0⟩ := by
 unfold noteO;rw [h];cases n with
 | zero => rfl
 | succ n => rw [if_neg (by omega)]
theorem TAt.fault (h : TAt s R p ln acc) (hp : p < s.size) (he : (nextO (s.data.toList.drop p)).e ≠ 0) : R = ([], (nextO (s.data.toList.drop p)).e, ln) := by
 unfold nextO at he ⊢
 split at he
 ·exact absurd rfl he
 ·rename_i hs;rw [if_neg hs];have hb := (blanks_zero (l := s.data.toList.drop p) (by simpa using hs)).symm;cases hn : noteL (s.data.toList.drop p) with
  | some n =>
   rw [hn] at he;simp only [noteO_e hn] at he ⊢;by_cases h0 : n = 0
   ·subst h0;have := h.open hb (by omega) hn;rw [lnAt_zero] at this;exact this
   ·rw [if_neg h0] at he; exact absurd rfl he
  | none =>
   rw [hn] at he;simp only [] at he ⊢;have h1 : (oneL (s.data.toList.drop p)).e ≠ 0 := fun g => he (by unfold clO; rw [if_pos g]; exact g)
   have := h.bad hb (by omega) hn h1;rw [lnAt_zero] at this;unfold clO;rw [if_neg h1];exact this
theorem TAt.skip (h : TAt s R p ln acc) (hp : p < s.size) (he : (nextO (s.data.toList.drop p)).e = 0) (hk : (nextO (s.data.toList.drop p)).k = 0) :
  1 <= (nextO (s.data.toList.drop p)).len /\ p + (nextO (s.data.toList.drop p)).len <= s.size /\ TAt s R (p + (nextO (s.data.toList.drop p)).len) (ln + linesOf ((s.data.toList.drop p).take (nextO (s.data.toList.drop p)).len)) acc := by
 unfold nextO at he hk ⊢
 split at he
 ·rename_i hs;rw [if_pos hs];have h1 := blanks_pos hs;have h2 := blanks_le (s.data.toList.drop p);rw [List.length_drop, show s.data.toList.length = s.size from rfl] at h2;have hf := h.few;have hl := h.low;have h3 := lines_take (s.data.toList.drop p) (blanks (s.data.toList.drop p));obtain ⟨m, hm, hR⟩ := h.says;obtain ⟨f, rfl⟩ : ∃ f, m = f + 1 := ⟨m - 1, by omega⟩;rw [tokF_blanks, List.drop_drop] at hR;exact ⟨h1, by show p + blanks _ <= _; omega, by show p + blanks _ <= _; omega, by show acc.length <= p + blanks _; omega, by show ln + linesOf ((s.data.toList.drop p).take (blanks (s.data.toList.drop p))) <= p + blanks _ + 1; omega, f + 1, by show s.size - (p + blanks _) + 1 <= _; omega, hR⟩
 ·rename_i hs;rw [if_neg hs] at hk ⊢;have hb := (blanks_zero (l := s.data.toList.drop p) (by simpa using hs)).symm;cases hn : noteL (s.data.toList.drop p) with
  | some n =>
   rw [hn] at he hk;simp only [noteO_e hn] at he hk ⊢;by_cases h0 : n = 0
   ·rw [if_pos h0] at he; cases he
   ·rw [if_neg h0] at he hk ⊢;obtain ⟨h1, h2⟩ := h.note hb (by omega) (j := n) hn (by omega);rw [lnAt_zero] at h2;exact ⟨by show 1 <= n; omega, h1, h2⟩
  | none =>
   rw [hn] at he hk;simp only [] at he hk ⊢;by_cases h1 : (oneL (s.data.toList.drop p)).e = 0
   ·unfold clO at hk;rw [if_pos h1] at hk;exact absurd hk (one_kind h1)
   ·unfold clO at he;rw [if_neg h1] at he;exact absurd he h1
theorem TAt.took (h : TAt s R p ln acc) (hp : p < s.size) (he : (nextO (s.data.toList.drop p)).e = 0) (hk : (nextO (s.data.toList.drop p)).k ≠ 0) :
  1 <= (nextO (s.data.toList.drop p)).len /\ p + (nextO (s.data.toList.drop p)).len <= s.size /\ TAt s R (p + (nextO (s.data.toList.drop p)).len) (ln + linesOf ((s.data.toList.drop p).take (nextO (s.data.toList.drop p)).len))
   (acc ++ [⟨(nextO (s.data.toList.drop p)).k, (nextO (s.data.toList.drop p)).s, (nextO (s.data.toList.drop p)).n, ln⟩]) := by
 unfold nextO at he hk ⊢
 split at he
 ·rename_i hs;rw [if_pos hs] at hk;exact absurd rfl hk
 ·rename_i hs;rw [if_neg hs] at hk ⊢;have hb := (blanks_zero (l := s.data.toList.drop p) (by simpa using hs)).symm;cases hn : noteL (s.data.toList.drop p) with
  | some n =>
   rw [hn] at he hk;simp only [noteO_e hn] at he hk;by_cases h0 : n = 0
   ·rw [if_pos h0] at he; cases he
   ·rw [if_neg h0] at hk; exact absurd rfl hk
  | none =>
   rw [hn] at he hk;simp only [] at he hk ⊢;by_cases h1 : (oneL (s.data.toList.drop p)).e = 0
   ·unfold clO;rw [if_pos h1];obtain ⟨h2, h3, h4⟩ := h.one hb (by omega) hn h1;rw [lnAt_zero] at h4;exact ⟨h3, h2, h4⟩
   ·unfold clO at he;rw [if_neg h1] at he;exact absurd he h1
end Go.Proofs.YtnkejjlidgnkkaaGreatDoor.Lex
namespace Go.Proofs.YtnkejjlidgnkkaaGreatDoor.Lex

open Go.Lib renaming hid → qh
open Go.RowKit
structure LB (s : ByteArray) (w0 : World) (p : Nat) (v : Value) (W : World) : Prop where
 text : W.heap[w0.heap.size]? = some (.cells #[.string s] 9 (0, 0))
 fault : W.heap[w0.heap.size + 1]? = some (.cells #[.int .i64 0, .int .i64 0] 30 (0, 0))
 frm : W.heap[w0.heap.size + 2]? = some (.cells #[.int .i64 (p : Nat)] 3 (0, 0))
 upto : W.heap[w0.heap.size + 3]? = some (.cells #[v] 3 (0, 0))
 low : Below w0.heap.size w0 W
theorem LB.room {s : ByteArray} {w0 : World} {p : Nat} {v : Value} {W : World} (h : LB s w0 p v W) : w0.heap.size + 4 <= W.heap.size := (Array.getElem?_eq_some_iff.1 h.upto).1
theorem LB.kept {s : ByteArray} {w0 : World} {p : Nat} {v : Value} {W W' : World} (h : LB s w0 p v W) (hb : Below (w0.heap.size + 4) W W') : LB s w0 p v W' :=
 ⟨by rw [hb.block _ (by omega)]; exact h.text, by rw [hb.block _ (by omega)]; exact h.fault, by rw [hb.block _ (by omega)]; exact h.frm, by rw [hb.block _ (by omega)]; exact h.upto, h.low.trans (hb.mono (by omega))⟩
theorem LB.below {s : ByteArray} {w0 : World} {p : Nat} {v : Value} {W W' : World} (h : LB s w0 p v W) (hb : Below W.heap.size W W') : LB s w0 p v W' := h.kept (hb.mono h.room)
theorem LB.alloc {s : ByteArray} {w0 : World} {p : Nat} {v : Value} {W : World} (h : LB s w0 p v W) (o : Obj) : LB s w0 p v (W.alloc o) := h.below ((Below.refl _ W).alloc (Nat.le_refl _) o)
theorem LB.setTo {s : ByteArray} {w0 : World} {p : Nat} {v : Value} {W : World} (h : LB s w0 p v W) (u : Value) : LB s w0 p u (W.setCell ⟨w0.heap.size + 3, 0, none⟩ u) := by
 refine ⟨?_, ?_, ?_, one_setCell h.upto, h.low.setCell (p := ⟨w0.heap.size + 3, 0, none⟩) (by show w0.heap.size <= w0.heap.size + 3; omega) _⟩
 ·rw [Below.heap_setCell _ _ _ _ (show w0.heap.size ≠ w0.heap.size + 3 by omega)]; exact h.text
 ·rw [Below.heap_setCell _ _ _ _ (show w0.heap.size + 1 ≠ w0.heap.size + 3 by omega)]; exact h.fault
 ·rw [Below.heap_setCell _ _ _ _ (show w0.heap.size + 2 ≠ w0.heap.size + 3 by omega)]; exact h.frm
theorem LB.setFrom {s : ByteArray} {w0 : World} {p : Nat} {v : Value} {W : World} (h : LB s w0 p v W) (q : Nat) (u : Value) (hu : u = .int .i64 (q : Nat)) : LB s w0 q v (W.setCell ⟨w0.heap.size + 2, 0, none⟩ u) := by
 subst hu;refine ⟨?_, ?_, one_setCell h.frm, ?_, h.low.setCell (p := ⟨w0.heap.size + 2, 0, none⟩) (by show w0.heap.size <= w0.heap.size + 2; omega) _⟩
 ·rw [Below.heap_setCell _ _ _ _ (show w0.heap.size ≠ w0.heap.size + 2 by omega)]; exact h.text
 ·rw [Below.heap_setCell _ _ _ _ (show w0.heap.size + 1 ≠ w0.heap.size + 2 by omega)]; exact h.fault
 ·rw [Below.heap_setCell _ _ _ _ (show w0.heap.size + 3 ≠ w0.heap.size + 2 by omega)]; exact h.upto
theorem LB.new (s : ByteArray) (w : World) : LB s w 0 (.int .i64 0) ((((w.alloc (.cells #[.string s] 9)).alloc (.cells #[.int .i64 0, .int .i64 0] 30)).alloc (.cells #[.int .i64 0] 3)).alloc (.cells #[.int .i64 0] 3)) := by
 refine ⟨?_, ?_, ?_, ?_, ((((Below.refl _ w).alloc (Nat.le_refl _) _).alloc (by simp) _).alloc (by simp; omega) _).alloc (by simp; omega) _⟩
 ·rw [heap_old _ (by simp only [World.size_alloc]; omega), heap_old _ (by simp only [World.size_alloc]; omega), heap_old _ (by simp), heap_new]
 ·rw [heap_old _ (by simp), heap_old _ (by simp)];have := heap_new (w.alloc (.cells #[.string s] 9)) (.cells #[.int .i64 0, .int .i64 0] 30)
  simpa using this
 ·rw [heap_old _ (by simp)];have := heap_new ((w.alloc (.cells #[.string s] 9)).alloc (.cells #[.int .i64 0, .int .i64 0] 30)) (.cells #[.int .i64 0] 3)
  simpa using this
 ·have := heap_new (((w.alloc (.cells #[.string s] 9)).alloc (.cells #[.int .i64 0, .int .i64 0] 30)).alloc (.cells #[.int .i64 0] 3)) (.cells #[.int .i64 0] 3)
  simpa using this
theorem rows_set {w : World} {b g n : Nat} {v u : Value} {xs : List Value} (h : w.ownsRow b 55 4 v n xs) (hg : g < b) : (w.setCell ⟨g, 0, none⟩ u).ownsRow b 55 4 v n xs := ownsRow_setCell_below h (a := ⟨g, 0, none⟩) hg u
theorem own_read (s : ByteArray) (w0 : World) (p q : Nat) (u : Value) (W : World) (hu : u = .int .i64 (q : Nat)) (hpq : p <= q) (hq : q <= s.size) (h : LB s w0 p u W) :
  Calls Tryz.prog 21 #[.pointer (some ⟨w0.heap.size, 0, none⟩), .pointer (some ⟨w0.heap.size + 2, 0, none⟩), .pointer (some ⟨w0.heap.size + 3, 0, none⟩)] W fun e w' => e = .returned (.string (s.extract p q)) /\ W = w' := by
 subst hu;have c1 := cell_of_one h.text;have c2 := cell_of_one h.frm;have c3 := cell_of_one h.upto;have hsl := run_within (P := Tryz.prog) 9 s (p : Int) (q : Int) p q Tryz.underlying9 hpq hq rfl rfl;clear h;go_enter Tryz.func21, Tryz.ntmps21;go_wp2_with fail;go_ret;exact ⟨rfl, rfl⟩
theorem own_tokens (s : ByteArray) (w : World) (hv : LVars w) : Calls Tryz.prog 11 #[.string s] w (ToksSays (tokensL s.data.toList) w) := by
 have hl : s.data.toList.length = s.size := rfl;by_cases hbig : 65535 < s.size
 ·have hbig' : (65535 : Int) < s.size := by omega
  have HR := qh (show tokensL s.data.toList = ([], 3, 0) by rw [tokensL, hl, if_pos hbig]);go_enter Tryz.func11, Tryz.ntmps11;go_wp2_with fail;refine bodyPost_ret (v := .tuple #[.slice none 0 0, .agg #[.int .i64 3, .int .i64 0]]) (by simp [results, Tryz.results11, go_sem]) rfl ?_;exact toks_says HR.out rfl rfl (TokReads.nil _) (((Below.refl _ _).alloc (Nat.le_refl _) _).alloc (by simp) _)
 ·have hbig' : ¬ (65535 : Int) < s.size := by omega
  have HR := qh (show TAt s (tokensL s.data.toList) 0 1 [] from ⟨Nat.zero_le _, Nat.le_refl _, Nat.le_refl _, s.size + 1, by omega, by rw [tokensL, hl, if_neg hbig, List.drop_zero]⟩);generalize tokensL s.data.toList = R at *;have HV := qh hv;clear hv;go_enter Tryz.func11, Tryz.ntmps11;go_wp2_with fail;go_loopg [4, 7] s.size (fun r out line wr => ∃ (p ln : Nat) (acc : List Tok) (v : Value), r = s.size - p /\ line = .int .i64 ln /\ TAt s R p ln acc /\ wr.ownsRow (w.heap.size + 4) 55 4 out acc.length (toksCells acc) /\ LB s w p v wr)
  case atStart =>
   exact ⟨0, 1, [], _, rfl, rfl, HR.out, World.ownsRow_nil _ _ _ _, LB.new s w⟩
  case round =>
   obtain ⟨p, ln, acc, v, rfl, rfl, ht, ho, hb⟩ := hrel;have hps := ht.le;have hfew := ht.few;have hlow := ht.low;have HT := qh ht;have HB := qh hb;have HO := qh ho;clear ht hb ho;have c0 := cell_of_one HB.out.text;have c2 := cell_of_one HB.out.frm;by_cases hlt : p < s.size
   ·have hlt' : (p : Int) < s.size := by omega
    have hsl := run_behind (P := Tryz.prog) 9 s (p : Int) p Tryz.underlying9 hps rfl;have cn := fun w hv => own_next (s.extract p s.size) w (by rw [behind_size]; omega) (by rw [behind_size]; omega) hv
    rw [behind_list] at cn;have hF := HT.out.fault hlt;have hS := HT.out.skip hlt;have hK := HT.out.took hlt;generalize nextO (s.data.toList.drop p) = O at *;have HF := qh hF;have HS := qh hS;have HK := qh hK;clear hF hS hK;go_wp2_with fail;refine (cn _ (HV.out.below HB.out.low)).mono ?_;rintro e w1 ⟨k, t, n, len, rfl, hh, b1⟩;have HH := qh hh;have HB1 := qh (HB.out.below b1);have HO1 := qh (own_below HO.out b1);clear hh b1 c0 c2;have hpi : (p : Int) <= 65535 := by omega
    have hli : (ln : Int) <= 65536 := by omega
    have hroom := HB1.out.room;by_cases he : O.e = 0
    ·have te : ((O.e : Int) != 0) = false := by rw [he]; rfl
     obtain ⟨rfl, rfl, rfl, rfl⟩ := HH.out he;clear HH;by_cases hk0 : O.k = 0
     ·have tk : ((O.k : Int) != 0) = false := by rw [hk0]; rfl
      obtain ⟨h1, h2, h3⟩ := HS.out he hk0;have HT2 := qh h3;have hle : (O.len : Int) <= 65535 := by omega
      have hsum : (p : Int) + O.len <= 65535 := by omega
      have hX : (s.extract p (p + O.len)).data.toList = (s.data.toList.drop p).take O.len := by rw [Lib.extract_data, show p + O.len - p = O.len from by omega]
      have cl := fun w => own_lines (s.extract p (p + O.len)) w (by
       show (s.extract p (p + O.len)).data.toList.length <= _;rw [hX, List.length_take]; omega)
      rw [hX] at cl;have hL := lines_take (s.data.toList.drop p) O.len;generalize linesOf ((s.data.toList.drop p).take O.len) = L at *;have hLi : (L : Int) <= 65536 := by omega
      have HB2 := qh (HB1.out.alloc (.cells #[.int .u8 O.k, .string O.s, .int .i64 O.n, .int .i64 0] 55));have HO2 := qh (own_below HO1.out ((Below.refl _ w1).alloc (Nat.le_refl _) (.cells #[.int .u8 O.k, .string O.s, .int .i64 O.n, .int .i64 0] 55)));have HB3 := qh (HB2.out.setTo (.int .i64 ((p : Int) + O.len)));have HO3 := qh (rows_set (u := .int .i64 ((p : Int) + O.len)) HO2.out (g := w.heap.size + 3) (by omega));have cr := own_read s w p (p + O.len) _ _ (by congr 1) (by omega) h2 HB3.out;have d2 := cell_of_one HB2.out.frm;have d3 := cell_of_one HB2.out.upto;have e3 := free_of_one HB2.out.upto;have l0 := cell_of_heap4 (heap_new w1 (.cells #[.int .u8 O.k, .string O.s, .int .i64 O.n, .int .i64 0] 55)) 0 (.int .u8 O.k) rfl;clear h3 hX HS HK HF hk0;go_wp2_with fail;refine cr.mono ?_;rintro e w2 ⟨rfl, rfl⟩;go_wp2_with fail;refine (cl _).mono ?_;rintro e w2 ⟨rfl, b2⟩;have HB4 := qh (HB3.out.below b2);have HO4 := qh (own_below HO3.out b2);have g2 := cell_of_one HB4.out.frm;have g3 := cell_of_one HB4.out.upto;have i2 := free_of_one HB4.out.frm;clear b2 d2 d3 e3 l0;go_wp2_with fail;go_roundg (s.size - (p + O.len))
      case measure => omega
      case rel => exact ⟨p + O.len, ln + L, acc, _, rfl, by go_num, HT2.out, rows_set HO4.out (by omega), HB4.out.setFrom (p + O.len) _ (by congr 1)⟩
     ·have tk : ((O.k : Int) != 0) = true := by rw [bne_iff_ne]; omega
      obtain ⟨h1, h2, h3⟩ := HK.out he hk0;have HT2 := qh h3;have hle : (O.len : Int) <= 65535 := by omega
      have hsum : (p : Int) + O.len <= 65535 := by omega
      have hX : (s.extract p (p + O.len)).data.toList = (s.data.toList.drop p).take O.len := by rw [Lib.extract_data, show p + O.len - p = O.len from by omega]
      have cl := fun w => own_lines (s.extract p (p + O.len)) w (by
       show (s.extract p (p + O.len)).data.toList.length <= _;rw [hX, List.length_take]; omega)
      rw [hX] at cl;have hL := lines_take (s.data.toList.drop p) O.len;generalize linesOf ((s.data.toList.drop p).take O.len) = L at *;have hLi : (L : Int) <= 65536 := by omega
      have HB2 := qh (HB1.out.alloc (.cells #[.int .u8 O.k, .string O.s, .int .i64 O.n, .int .i64 ln] 55));have HO2 := qh (own_below HO1.out ((Below.refl _ w1).alloc (Nat.le_refl _) (.cells #[.int .u8 O.k, .string O.s, .int .i64 O.n, .int .i64 ln] 55)));have l0 := cell_of_heap4 (heap_new w1 (.cells #[.int .u8 O.k, .string O.s, .int .i64 O.n, .int .i64 0] 55)) 0 (.int .u8 O.k) rfl;clear h3 HS HK HF hk0;go_wp2_with (at_builtin; refine wpList_append_tok rfl (.tmp 39) (.tmp 41) rfl (w.heap.size + 4) _ acc ⟨O.k, O.s, O.n, ln⟩ O.k ln rfl rfl rfl HO2.out _ rfl (by simp) ?a1 ?a2 ?_)
      case a1 => omega
      case a2 => simp; omega
      intro v1 w3 ho3 hg3;have hb3 := below_appended HO2.out hg3 (by simp; omega);have HB3 := qh (HB2.out.kept hb3);have HO3 := qh ho3;have HB4 := qh (HB3.out.setTo (.int .i64 ((p : Int) + O.len)));have HO4 := qh (rows_set (u := .int .i64 ((p : Int) + O.len)) HO3.out (g := w.heap.size + 3) (by omega));have cr := own_read s w p (p + O.len) _ _ (by congr 1) (by omega) h2 HB4.out;have d2 := cell_of_one HB3.out.frm;have d3 := cell_of_one HB3.out.upto;have e3 := free_of_one HB3.out.upto;clear hb3 ho3 hg3 l0;go_wp2_with fail;refine cr.mono ?_;rintro e w4 ⟨rfl, rfl⟩;go_wp2_with fail;refine (cl _).mono ?_;rintro e w5 ⟨rfl, b5⟩;have HB5 := qh (HB4.out.below b5);have HO5 := qh (own_below HO4.out b5);have g2 := cell_of_one HB5.out.frm;have g3 := cell_of_one HB5.out.upto;have i2 := free_of_one HB5.out.frm;clear b5 d2 d3 e3;go_wp2_with fail;go_roundg (s.size - (p + O.len))
      case measure => omega
      case rel => exact ⟨p + O.len, ln + L, _, _, rfl, by go_num, HT2.out, by rw [List.length_append, List.length_singleton]; exact rows_set HO5.out (by omega), HB5.out.setFrom (p + O.len) _ (by congr 1)⟩
    ·have te : ((O.e : Int) != 0) = true := by rw [bne_iff_ne]; omega
     have HR2 := qh (HF.out he);have HB2 := qh (HB1.out.alloc (.cells #[.int .u8 k, .string t, .int .i64 n, .int .i64 0] 55));have k0 := cell_of_heap4 HB2.out.fault 0 (.int .i64 0) rfl;have k1 := cell_of_heap4 HB2.out.fault 1 (.int .i64 0) rfl;have f0 := free_of_heap4 HB2.out.fault 0;have f1 := free_of_heap4 HB2.out.fault 1;clear HS HK HF HH;go_wp2_with fail;refine bodyPost_ret (v := .tuple #[.slice none 0 0, .agg #[.int .i64 (O.e : Nat), .int .i64 (ln : Nat)]]) (by simp [results, Tryz.results11, go_sem, k0, k1]) rfl ?_;exact toks_says HR2.out rfl rfl (TokReads.nil _) (two_set HB2.out.low (by omega))
   ·obtain rfl : p = s.size := by omega
    have HR2 := qh (HT.out.over rfl);have hli : (ln : Int) <= 65536 := by omega
    have hroom := HB.out.room;go_wp2_with (at_builtin; refine wpList_append_tok rfl (.tmp 52) (.tmp 55) rfl (w.heap.size + 4) _ acc ⟨6, ⟨#[]⟩, 0, ln⟩ 6 ln rfl rfl rfl HO.out _ rfl rfl ?h1 ?h2 ?_)
    case h1 => omega
    case h2 => omega
    intro v1 w3 ho3 hg3;have hb3 := below_appended HO.out hg3 (by omega);have HB3 := qh (HB.out.kept hb3);have HO3 := qh ho3;have k0 := cell_of_heap4 HB3.out.fault 0 (.int .i64 0) rfl;have k1 := cell_of_heap4 HB3.out.fault 1 (.int .i64 0) rfl;have f0 := free_of_heap4 HB3.out.fault 0;have f1 := free_of_heap4 HB3.out.fault 1;clear hb3 ho3 hg3 c0 c2;go_wp2_with fail;refine bodyPost_ret (v := .tuple #[v1, .agg #[.int .i64 0, .int .i64 0]]) (by simp [results, Tryz.results11, go_sem, k0, k1]) rfl ?_;exact toks_says HR2.out rfl rfl (reads_two HO3.out (by simp) (by omega)) (two_set HB3.out.low (by omega))
end Go.Proofs.YtnkejjlidgnkkaaGreatDoor.Lex
