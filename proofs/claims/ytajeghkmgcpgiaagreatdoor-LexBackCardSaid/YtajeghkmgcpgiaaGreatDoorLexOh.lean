/-
  Package lex: next, by contract.
-/
import Derived.Test.YtajeghkmgcpgiaaGreatDoorLexOg
namespace Go.Proofs.YtajeghkmgcpgiaaGreatDoor.Lex
open Go.RowKit

def clO (o : One) : One := if o.e = 0 then o else ⟨0, ⟨#[]⟩, 0, 0, o.e⟩
/-- What next answers. -/
def nextO (l : List UInt8) : One := if spaceB (hd l) = true then ⟨0, ⟨#[]⟩, 0, blanks l, 0⟩ else match noteL l with | some _ => noteO l | none => clO (oneL l)
theorem note_yes {l : List UInt8} (hp : ([45, 45] : List UInt8).isPrefixOf l = true) : ∃ n, noteL l = some n := by
  unfold noteL
  rw [if_pos hp]
  split
  · exact ⟨_, rfl⟩
  · exact ⟨_, rfl⟩
  · exact ⟨_, rfl⟩
theorem note_no {l : List UInt8} (hp : ([45, 45] : List UInt8).isPrefixOf l = false) : noteL l = none := by
  unfold noteL
  rw [hp, if_neg (by decide)]
theorem next_space {l : List UInt8} (hs : spaceB (hd l) = true) : nextO l = ⟨0, ⟨#[]⟩, 0, blanks l, 0⟩ := by
  unfold nextO; rw [if_pos hs]
theorem next_note {l : List UInt8} (hs : spaceB (hd l) = false) (hp : ([45, 45] : List UInt8).isPrefixOf l = true) : nextO l = noteO l := by
  obtain ⟨n, hn⟩ := note_yes hp
  unfold nextO; rw [hs, if_neg (by decide), hn]
theorem next_one {l : List UInt8} (hs : spaceB (hd l) = false) (hp : ([45, 45] : List UInt8).isPrefixOf l = false) : nextO l = clO (oneL l) := by
  unfold nextO; rw [hs, if_neg (by decide), note_no hp]
theorem next_name {l : List UInt8} (hs : spaceB (hd l) = false) (hp : ([45, 45] : List UInt8).isPrefixOf l = false) (hl : letterB (hd l) = true) : nextO l = ⟨if wordB (nameT l) = true then 2 else 1, nameT l, 0, nameL l, 0⟩ := by
  rw [next_one hs hp, oneL, if_pos hl, clO, if_pos rfl]
theorem next_num {s : ByteArray} (h0 : 0 < s.size) (hs : spaceB (hd s.data.toList) = false) (hp : ([45, 45] : List UInt8).isPrefixOf s.data.toList = false) (hl : letterB (hd s.data.toList) = false) (hB : numB (hd s.data.toList) (hd (s.data.toList.drop 1)) = true) : nextO s.data.toList = numO s.data.toList := by
  obtain ⟨h1, h2, h3, h4, h5⟩ := num_text h0 hB
  have hpos := h3.pos
  rw [next_one hs hp, oneL, hl, if_neg (by decide), if_pos (show numL s.data.toList ≠ 0 by omega)]
  unfold clO numO
  split
  · rename_i he
    have he : numberE (numT s.data.toList) = 0 := he
    rw [he]
  · rfl
theorem num_zero {s : ByteArray} (hB : numB (hd s.data.toList) (hd (s.data.toList.drop 1)) = false) : numL s.data.toList = 0 := by
  have := numL_eq s 0
  rw [List.drop_zero, Nat.zero_add, if_neg (by rw [hB]; decide)] at this
  exact this
theorem next_long {s : ByteArray} (hs : spaceB (hd s.data.toList) = false) (hp : ([45, 45] : List UInt8).isPrefixOf s.data.toList = false) (hl : letterB (hd s.data.toList) = false) (hB : numB (hd s.data.toList) (hd (s.data.toList.drop 1)) = false) (hb : brkB s.data.toList = true) : nextO s.data.toList = longO s.data.toList := by
  rw [next_one hs hp, oneL, hl, if_neg (by decide), if_neg (by rw [num_zero hB]; decide)]
  unfold longO
  cases h : longL s.data.toList with
  | none => rw [long_brk, if_pos hb] at h; cases h
  | some x => cases x with
    | none => rfl
    | some x => rfl
theorem next_short {s : ByteArray} (hs : spaceB (hd s.data.toList) = false) (hp : ([45, 45] : List UInt8).isPrefixOf s.data.toList = false) (hl : letterB (hd s.data.toList) = false) (hB : numB (hd s.data.toList) (hd (s.data.toList.drop 1)) = false) (hb : brkB s.data.toList = false) (hq : hd s.data.toList = 34 ∨ hd s.data.toList = 39) : nextO s.data.toList = shortO s.data.toList := by
  have hn : longL s.data.toList = none := by rw [long_brk, if_neg (by rw [hb]; decide)]
  rw [next_one hs hp, oneL, hl, if_neg (by decide), if_neg (by rw [num_zero hB]; decide), hn]
  simp only []
  rw [if_pos hq]
  unfold shortO clO unqT unqE
  cases unquotL (quoteT' s.data.toList) with
  | none => rfl
  | some t => rfl
theorem next_sign {s : ByteArray} (hs : spaceB (hd s.data.toList) = false) (hp : ([45, 45] : List UInt8).isPrefixOf s.data.toList = false) (hl : letterB (hd s.data.toList) = false) (hB : numB (hd s.data.toList) (hd (s.data.toList.drop 1)) = false) (hb : brkB s.data.toList = false) (hq : ¬ (hd s.data.toList = 34 ∨ hd s.data.toList = 39)) : nextO s.data.toList = signP s.data.toList := by
  have hn : longL s.data.toList = none := by rw [long_brk, if_neg (by rw [hb]; decide)]
  rw [next_one hs hp, oneL, hl, if_neg (by decide), if_neg (by rw [num_zero hB]; decide), hn]
  simp only []
  rw [if_neg hq]
  unfold signP
  split
  · rfl
  · unfold signO clO
    split
    · split <;> rfl
    · rfl
theorem next_of {o : One} {w w' : World} (hb : Below w.heap.size w w') : NextSays o w (.returned (.tuple #[.agg #[.int .u8 o.k, .string o.s, .int .i64 o.n, .int .i64 0], .int .i64 (o.len : Nat), .int .i64 (o.e : Nat)])) w' :=
  ⟨o.k, o.s, o.n, o.len, rfl, fun _ => ⟨rfl, rfl, rfl, rfl⟩, hb⟩

set_option maxHeartbeats 4000000 in
set_option maxRecDepth 100000 in
theorem own_next (s : ByteArray) (w : World) (hs : s.size ≤ 100000000) (h0 : 0 < s.size) (hv : LVars w) :
    Calls Tryz.prog 23 #[.string s] w (NextSays (nextO s.data.toList) w) := by
  have hlen : s.data.toList.length = s.size := rfl
  have cb := fun w => own_bracket s w (by omega)
  have hx := run_index_at (P := Tryz.prog) 9 s 0 0 Tryz.underlying9 h0 rfl
  have hh := hd_at h0
  rw [List.drop_zero] at hh
  have csp := fun w => own_space (byteAt s 0) w (byteAt_lt s 0)
  have cl := fun w => own_letter (byteAt s 0) w (byteAt_lt s 0)
  have cd := fun w => own_digit (byteAt s 0) w (byteAt_lt s 0)
  have chp := fun w => has_any s ⟨#[45, 45]⟩ w
  rw [show (⟨#[45, 45]⟩ : ByteArray).data.toList = [45, 45] from rfl] at chp
  have HV := Lib.hid hv
  have R0 := Lib.hid (Res.fresh w)
  clear hv
  unfold BrkSays at cb
  cases hsp : spaceB (byteAt s 0)
  · rw [hsp] at csp
    cases hp : ([45, 45] : List UInt8).isPrefixOf s.data.toList
    · rw [hp] at chp
      cases hl : letterB (byteAt s 0)
      · rw [hl] at cl
        rw [← hh] at hsp hl
        cases hdg : digitB (byteAt s 0)
        · rw [hdg] at cd
          rw [← hh] at hdg
          by_cases h46 : byteAt s 0 = 46
          · have t46 : (((byteAt s 0 : Nat) : Int) == 46) = true := by rw [h46]; rfl
            have hbk : brkB s.data.toList = false := by unfold brkB; rw [hh, h46]; rfl
            rw [hbk] at cb
            have hq : ¬ (hd s.data.toList = 34 ∨ hd s.data.toList = 39) := by rw [hh, h46]; decide
            have t34 : (((byteAt s 0 : Nat) : Int) == 34) = false := by rw [h46]; rfl
            have t39 : (((byteAt s 0 : Nat) : Int) == 39) = false := by rw [h46]; rfl
            by_cases h1 : 1 < s.size
            · have h1' : (1 : Int) < s.size := by omega
              have hy := run_index_at (P := Tryz.prog) 9 s 1 1 Tryz.underlying9 h1 rfl
              have hh1 := hd_at h1
              have cd1 := fun w => own_digit (byteAt s 1) w (byteAt_lt s 1)
              cases hd1 : digitB (byteAt s 1)
              · rw [hd1] at cd1
                have hB : numB (hd s.data.toList) (hd (s.data.toList.drop 1)) = false := by unfold numB; rw [hdg, hh1, hd1, Bool.and_false]; rfl
                have cp := fun w hv => own_sign s w h0 hv
                rw [← next_sign hsp hp hl hB hbk hq] at cp
                unfold OneSays at cp
                generalize nextO s.data.toList = O at *
                generalize brkK s.data.toList = bk at *
                clear hsp hp hl hdg h46 hbk hq hh1 hd1 hB hh
                generalize byteAt s 1 = b1 at *
                generalize byteAt s 0 = b at *
                go_enter Tryz.func23, Tryz.ntmps23
                go_wp2_with fail
                refine (cb _).mono ?_
                rintro e w1 ⟨rfl, rfl⟩
                go_wp2_with fail
                refine (csp _).mono ?_
                rintro e w1 ⟨rfl, rfl⟩
                go_wp2_with fail
                refine (chp _).mono ?_
                rintro e w1 ⟨rfl, rfl⟩
                go_wp2_with fail
                refine (cl _).mono ?_
                rintro e w1 ⟨rfl, rfl⟩
                go_wp2_with fail
                refine (cd _).mono ?_
                rintro e w1 ⟨rfl, rfl⟩
                go_wp2_with fail
                refine (cd1 _).mono ?_
                rintro e w1 ⟨rfl, rfl⟩
                go_wp2_with fail
                refine (cp _ (HV.out.below R0.out.low)).mono ?_
                rintro e w2 ⟨rfl, b2⟩
                have R3 := Lib.hid (R0.out.below b2)
                clear b2
                have k0 := R3.out.at0
                have k1 := R3.out.at1
                have k2 := R3.out.at2
                have k3 := R3.out.at3
                have f0 := R3.out.free 0
                have f1 := R3.out.free 1
                have f2 := R3.out.free 2
                have f3 := R3.out.free 3
                go_wp2_with fail
                refine bodyPost_ret (v := .tuple #[.agg #[.int .u8 O.k, .string O.s, .int .i64 O.n, .int .i64 0], .int .i64 (O.len : Nat), .int .i64 (O.e : Nat)]) (by simp [results, Tryz.results23, go_sem, k0, k1, k2, k3]) rfl ?_
                exact next_of R3.out.set
              · rw [hd1] at cd1
                have hB : numB (hd s.data.toList) (hd (s.data.toList.drop 1)) = true := by unfold numB; rw [hdg, hh1, hd1, hh, decide_eq_true h46]; rfl
                have cp := fun w hv => own_numeral s w hs h0 hB hv
                rw [← next_num h0 hsp hp hl hB] at cp
                unfold OneSays at cp
                generalize nextO s.data.toList = O at *
                generalize brkK s.data.toList = bk at *
                clear hsp hp hl hdg h46 hbk hq hh1 hd1 hB hh
                generalize byteAt s 1 = b1 at *
                generalize byteAt s 0 = b at *
                go_enter Tryz.func23, Tryz.ntmps23
                go_wp2_with fail
                refine (cb _).mono ?_
                rintro e w1 ⟨rfl, rfl⟩
                go_wp2_with fail
                refine (csp _).mono ?_
                rintro e w1 ⟨rfl, rfl⟩
                go_wp2_with fail
                refine (chp _).mono ?_
                rintro e w1 ⟨rfl, rfl⟩
                go_wp2_with fail
                refine (cl _).mono ?_
                rintro e w1 ⟨rfl, rfl⟩
                go_wp2_with fail
                refine (cd _).mono ?_
                rintro e w1 ⟨rfl, rfl⟩
                go_wp2_with fail
                refine (cd1 _).mono ?_
                rintro e w1 ⟨rfl, rfl⟩
                go_wp2_with fail
                refine (cp _ (HV.out.below R0.out.low)).mono ?_
                rintro e w2 ⟨rfl, b2⟩
                have R3 := Lib.hid (R0.out.below b2)
                clear b2
                have k0 := R3.out.at0
                have k1 := R3.out.at1
                have k2 := R3.out.at2
                have k3 := R3.out.at3
                have f0 := R3.out.free 0
                have f1 := R3.out.free 1
                have f2 := R3.out.free 2
                have f3 := R3.out.free 3
                go_wp2_with fail
                refine bodyPost_ret (v := .tuple #[.agg #[.int .u8 O.k, .string O.s, .int .i64 O.n, .int .i64 0], .int .i64 (O.len : Nat), .int .i64 (O.e : Nat)]) (by simp [results, Tryz.results23, go_sem, k0, k1, k2, k3]) rfl ?_
                exact next_of R3.out.set
            · have h1' : ¬ (1 : Int) < s.size := by omega
              have hB : numB (hd s.data.toList) (hd (s.data.toList.drop 1)) = false := by unfold numB; rw [hdg, hd_end (show s.size ≤ 1 by omega)]; simp [digitB]
              have cp := fun w hv => own_sign s w h0 hv
              rw [← next_sign hsp hp hl hB hbk hq] at cp
              unfold OneSays at cp
              generalize nextO s.data.toList = O at *
              generalize brkK s.data.toList = bk at *
              clear hsp hp hl hdg h46 hbk hq hB hh
              generalize byteAt s 0 = b at *
              go_enter Tryz.func23, Tryz.ntmps23
              go_wp2_with fail
              refine (cb _).mono ?_
              rintro e w1 ⟨rfl, rfl⟩
              go_wp2_with fail
              refine (csp _).mono ?_
              rintro e w1 ⟨rfl, rfl⟩
              go_wp2_with fail
              refine (chp _).mono ?_
              rintro e w1 ⟨rfl, rfl⟩
              go_wp2_with fail
              refine (cl _).mono ?_
              rintro e w1 ⟨rfl, rfl⟩
              go_wp2_with fail
              refine (cd _).mono ?_
              rintro e w1 ⟨rfl, rfl⟩
              go_wp2_with fail
              refine (cp _ (HV.out.below R0.out.low)).mono ?_
              rintro e w2 ⟨rfl, b2⟩
              have R3 := Lib.hid (R0.out.below b2)
              clear b2
              have k0 := R3.out.at0
              have k1 := R3.out.at1
              have k2 := R3.out.at2
              have k3 := R3.out.at3
              have f0 := R3.out.free 0
              have f1 := R3.out.free 1
              have f2 := R3.out.free 2
              have f3 := R3.out.free 3
              go_wp2_with fail
              refine bodyPost_ret (v := .tuple #[.agg #[.int .u8 O.k, .string O.s, .int .i64 O.n, .int .i64 0], .int .i64 (O.len : Nat), .int .i64 (O.e : Nat)]) (by simp [results, Tryz.results23, go_sem, k0, k1, k2, k3]) rfl ?_
              exact next_of R3.out.set
          · have t46 : (((byteAt s 0 : Nat) : Int) == 46) = false := by rw [beq_eq_false_iff_ne]; omega
            have hB : numB (hd s.data.toList) (hd (s.data.toList.drop 1)) = false := by unfold numB; rw [hdg, hh, decide_eq_false h46]; rfl
            cases hbk : brkB s.data.toList
            · rw [hbk] at cb
              by_cases h34 : byteAt s 0 = 34
              · have t34 : (((byteAt s 0 : Nat) : Int) == 34) = true := by rw [h34]; rfl
                have hq : hd s.data.toList = 34 ∨ hd s.data.toList = 39 := .inl (hh.trans h34)
                have cp := fun w => own_short s w hs h0 hq
                rw [← next_short hsp hp hl hB hbk hq] at cp
                unfold OneSays at cp
                generalize nextO s.data.toList = O at *
                generalize brkK s.data.toList = bk at *
                clear hsp hp hl hdg h46 hbk hq hB hh
                clear h34
                generalize byteAt s 0 = b at *
                go_enter Tryz.func23, Tryz.ntmps23
                go_wp2_with fail
                refine (cb _).mono ?_
                rintro e w1 ⟨rfl, rfl⟩
                go_wp2_with fail
                refine (csp _).mono ?_
                rintro e w1 ⟨rfl, rfl⟩
                go_wp2_with fail
                refine (chp _).mono ?_
                rintro e w1 ⟨rfl, rfl⟩
                go_wp2_with fail
                refine (cl _).mono ?_
                rintro e w1 ⟨rfl, rfl⟩
                go_wp2_with fail
                refine (cd _).mono ?_
                rintro e w1 ⟨rfl, rfl⟩
                go_wp2_with fail
                refine (cp _).mono ?_
                rintro e w2 ⟨rfl, b2⟩
                have R3 := Lib.hid (R0.out.below b2)
                clear b2
                have k0 := R3.out.at0
                have k1 := R3.out.at1
                have k2 := R3.out.at2
                have k3 := R3.out.at3
                have f0 := R3.out.free 0
                have f1 := R3.out.free 1
                have f2 := R3.out.free 2
                have f3 := R3.out.free 3
                go_wp2_with fail
                refine bodyPost_ret (v := .tuple #[.agg #[.int .u8 O.k, .string O.s, .int .i64 O.n, .int .i64 0], .int .i64 (O.len : Nat), .int .i64 (O.e : Nat)]) (by simp [results, Tryz.results23, go_sem, k0, k1, k2, k3]) rfl ?_
                exact next_of R3.out.set
              · have t34 : (((byteAt s 0 : Nat) : Int) == 34) = false := by rw [beq_eq_false_iff_ne]; omega
                by_cases h39 : byteAt s 0 = 39
                · have t39 : (((byteAt s 0 : Nat) : Int) == 39) = true := by rw [h39]; rfl
                  have hq : hd s.data.toList = 34 ∨ hd s.data.toList = 39 := .inr (hh.trans h39)
                  have cp := fun w => own_short s w hs h0 hq
                  rw [← next_short hsp hp hl hB hbk hq] at cp
                  unfold OneSays at cp
                  generalize nextO s.data.toList = O at *
                  generalize brkK s.data.toList = bk at *
                  clear hsp hp hl hdg h46 hbk hq hB hh
                  clear h34 h39
                  generalize byteAt s 0 = b at *
                  go_enter Tryz.func23, Tryz.ntmps23
                  go_wp2_with fail
                  refine (cb _).mono ?_
                  rintro e w1 ⟨rfl, rfl⟩
                  go_wp2_with fail
                  refine (csp _).mono ?_
                  rintro e w1 ⟨rfl, rfl⟩
                  go_wp2_with fail
                  refine (chp _).mono ?_
                  rintro e w1 ⟨rfl, rfl⟩
                  go_wp2_with fail
                  refine (cl _).mono ?_
                  rintro e w1 ⟨rfl, rfl⟩
                  go_wp2_with fail
                  refine (cd _).mono ?_
                  rintro e w1 ⟨rfl, rfl⟩
                  go_wp2_with fail
                  refine (cp _).mono ?_
                  rintro e w2 ⟨rfl, b2⟩
                  have R3 := Lib.hid (R0.out.below b2)
                  clear b2
                  have k0 := R3.out.at0
                  have k1 := R3.out.at1
                  have k2 := R3.out.at2
                  have k3 := R3.out.at3
                  have f0 := R3.out.free 0
                  have f1 := R3.out.free 1
                  have f2 := R3.out.free 2
                  have f3 := R3.out.free 3
                  go_wp2_with fail
                  refine bodyPost_ret (v := .tuple #[.agg #[.int .u8 O.k, .string O.s, .int .i64 O.n, .int .i64 0], .int .i64 (O.len : Nat), .int .i64 (O.e : Nat)]) (by simp [results, Tryz.results23, go_sem, k0, k1, k2, k3]) rfl ?_
                  exact next_of R3.out.set
                · have t39 : (((byteAt s 0 : Nat) : Int) == 39) = false := by rw [beq_eq_false_iff_ne]; omega
                  have hq : ¬ (hd s.data.toList = 34 ∨ hd s.data.toList = 39) := by rw [hh]; omega
                  have cp := fun w hv => own_sign s w h0 hv
                  rw [← next_sign hsp hp hl hB hbk hq] at cp
                  unfold OneSays at cp
                  generalize nextO s.data.toList = O at *
                  generalize brkK s.data.toList = bk at *
                  clear hsp hp hl hdg h46 hbk hq hB hh h34 h39
                  generalize byteAt s 0 = b at *
                  go_enter Tryz.func23, Tryz.ntmps23
                  go_wp2_with fail
                  refine (cb _).mono ?_
                  rintro e w1 ⟨rfl, rfl⟩
                  go_wp2_with fail
                  refine (csp _).mono ?_
                  rintro e w1 ⟨rfl, rfl⟩
                  go_wp2_with fail
                  refine (chp _).mono ?_
                  rintro e w1 ⟨rfl, rfl⟩
                  go_wp2_with fail
                  refine (cl _).mono ?_
                  rintro e w1 ⟨rfl, rfl⟩
                  go_wp2_with fail
                  refine (cd _).mono ?_
                  rintro e w1 ⟨rfl, rfl⟩
                  go_wp2_with fail
                  refine (cp _ (HV.out.below R0.out.low)).mono ?_
                  rintro e w2 ⟨rfl, b2⟩
                  have R3 := Lib.hid (R0.out.below b2)
                  clear b2
                  have k0 := R3.out.at0
                  have k1 := R3.out.at1
                  have k2 := R3.out.at2
                  have k3 := R3.out.at3
                  have f0 := R3.out.free 0
                  have f1 := R3.out.free 1
                  have f2 := R3.out.free 2
                  have f3 := R3.out.free 3
                  go_wp2_with fail
                  refine bodyPost_ret (v := .tuple #[.agg #[.int .u8 O.k, .string O.s, .int .i64 O.n, .int .i64 0], .int .i64 (O.len : Nat), .int .i64 (O.e : Nat)]) (by simp [results, Tryz.results23, go_sem, k0, k1, k2, k3]) rfl ?_
                  exact next_of R3.out.set
            · have cp := fun w hv => own_longs s (eqsL (s.data.toList.drop 1)) w hs hbk rfl hv
              rw [← next_long hsp hp hl hB hbk] at cp
              unfold brkK at cb
              rw [hbk, if_pos rfl] at cb
              unfold OneSays at cp
              generalize nextO s.data.toList = O at *
              generalize eqsL (s.data.toList.drop 1) = bk at *
              clear hsp hp hl hdg h46 hbk hB hh
              generalize byteAt s 0 = b at *
              go_enter Tryz.func23, Tryz.ntmps23
              go_wp2_with fail
              refine (cb _).mono ?_
              rintro e w1 ⟨rfl, rfl⟩
              go_wp2_with fail
              refine (csp _).mono ?_
              rintro e w1 ⟨rfl, rfl⟩
              go_wp2_with fail
              refine (chp _).mono ?_
              rintro e w1 ⟨rfl, rfl⟩
              go_wp2_with fail
              refine (cl _).mono ?_
              rintro e w1 ⟨rfl, rfl⟩
              go_wp2_with fail
              refine (cd _).mono ?_
              rintro e w1 ⟨rfl, rfl⟩
              go_wp2_with fail
              refine (cp _ (HV.out.below R0.out.low)).mono ?_
              rintro e w2 ⟨rfl, b2⟩
              have R3 := Lib.hid (R0.out.below b2)
              clear b2
              have k0 := R3.out.at0
              have k1 := R3.out.at1
              have k2 := R3.out.at2
              have k3 := R3.out.at3
              have f0 := R3.out.free 0
              have f1 := R3.out.free 1
              have f2 := R3.out.free 2
              have f3 := R3.out.free 3
              go_wp2_with fail
              refine bodyPost_ret (v := .tuple #[.agg #[.int .u8 O.k, .string O.s, .int .i64 O.n, .int .i64 0], .int .i64 (O.len : Nat), .int .i64 (O.e : Nat)]) (by simp [results, Tryz.results23, go_sem, k0, k1, k2, k3]) rfl ?_
              exact next_of R3.out.set
        · rw [hdg] at cd
          have hB : numB (hd s.data.toList) (hd (s.data.toList.drop 1)) = true := by unfold numB; rw [hh, hdg]; rfl
          have cp := fun w hv => own_numeral s w hs h0 hB hv
          rw [← next_num h0 hsp hp hl hB] at cp
          unfold OneSays at cp
          generalize nextO s.data.toList = O at *
          generalize brkK s.data.toList = bk at *
          generalize brkB s.data.toList = bb at *
          clear hsp hp hl hdg hB hh
          generalize byteAt s 0 = b at *
          go_enter Tryz.func23, Tryz.ntmps23
          go_wp2_with fail
          refine (cb _).mono ?_
          rintro e w1 ⟨rfl, rfl⟩
          go_wp2_with fail
          refine (csp _).mono ?_
          rintro e w1 ⟨rfl, rfl⟩
          go_wp2_with fail
          refine (chp _).mono ?_
          rintro e w1 ⟨rfl, rfl⟩
          go_wp2_with fail
          refine (cl _).mono ?_
          rintro e w1 ⟨rfl, rfl⟩
          go_wp2_with fail
          refine (cd _).mono ?_
          rintro e w1 ⟨rfl, rfl⟩
          go_wp2_with fail
          refine (cp _ (HV.out.below R0.out.low)).mono ?_
          rintro e w2 ⟨rfl, b2⟩
          have R3 := Lib.hid (R0.out.below b2)
          clear b2
          have k0 := R3.out.at0
          have k1 := R3.out.at1
          have k2 := R3.out.at2
          have k3 := R3.out.at3
          have f0 := R3.out.free 0
          have f1 := R3.out.free 1
          have f2 := R3.out.free 2
          have f3 := R3.out.free 3
          go_wp2_with fail
          refine bodyPost_ret (v := .tuple #[.agg #[.int .u8 O.k, .string O.s, .int .i64 O.n, .int .i64 0], .int .i64 (O.len : Nat), .int .i64 (O.e : Nat)]) (by simp [results, Tryz.results23, go_sem, k0, k1, k2, k3]) rfl ?_
          exact next_of R3.out.set
      · rw [hl] at cl
        rw [← hh] at hsp hl
        have cp := fun w => own_name s w hs hl
        rw [← next_name hsp hp hl] at cp
        unfold OneSays at cp
        generalize nextO s.data.toList = O at *
        generalize brkK s.data.toList = bk at *
        generalize brkB s.data.toList = bb at *
        clear hsp hp hl hh
        generalize byteAt s 0 = b at *
        go_enter Tryz.func23, Tryz.ntmps23
        go_wp2_with fail
        refine (cb _).mono ?_
        rintro e w1 ⟨rfl, rfl⟩
        go_wp2_with fail
        refine (csp _).mono ?_
        rintro e w1 ⟨rfl, rfl⟩
        go_wp2_with fail
        refine (chp _).mono ?_
        rintro e w1 ⟨rfl, rfl⟩
        go_wp2_with fail
        refine (cl _).mono ?_
        rintro e w1 ⟨rfl, rfl⟩
        go_wp2_with fail
        refine (cp _).mono ?_
        rintro e w2 ⟨rfl, b2⟩
        have R3 := Lib.hid (R0.out.below b2)
        clear b2
        have k0 := R3.out.at0
        have k1 := R3.out.at1
        have k2 := R3.out.at2
        have k3 := R3.out.at3
        have f0 := R3.out.free 0
        have f1 := R3.out.free 1
        have f2 := R3.out.free 2
        have f3 := R3.out.free 3
        go_wp2_with fail
        refine bodyPost_ret (v := .tuple #[.agg #[.int .u8 O.k, .string O.s, .int .i64 O.n, .int .i64 0], .int .i64 (O.len : Nat), .int .i64 (O.e : Nat)]) (by simp [results, Tryz.results23, go_sem, k0, k1, k2, k3]) rfl ?_
        exact next_of R3.out.set
    · rw [hp] at chp
      rw [← hh] at hsp
      have cp := fun w hv => own_note s w hs hp hv
      rw [← next_note hsp hp] at cp
      unfold NextSays at cp
      generalize nextO s.data.toList = O at *
      generalize brkK s.data.toList = bk at *
      generalize brkB s.data.toList = bb at *
      clear hsp hp hh
      generalize byteAt s 0 = b at *
      go_enter Tryz.func23, Tryz.ntmps23
      go_wp2_with fail
      refine (cb _).mono ?_
      rintro e w1 ⟨rfl, rfl⟩
      go_wp2_with fail
      refine (csp _).mono ?_
      rintro e w1 ⟨rfl, rfl⟩
      go_wp2_with fail
      refine (chp _).mono ?_
      rintro e w1 ⟨rfl, rfl⟩
      go_wp2_with fail
      refine (cp _ (HV.out.below R0.out.low)).mono ?_
      rintro e w2 ⟨k, t, n, len, rfl, hh, b2⟩
      have R3 := Lib.hid (R0.out.below b2)
      have HH := Lib.hid hh
      clear hh b2
      have k0 := R3.out.at0
      have k1 := R3.out.at1
      have k2 := R3.out.at2
      have k3 := R3.out.at3
      have f0 := R3.out.free 0
      have f1 := R3.out.free 1
      have f2 := R3.out.free 2
      have f3 := R3.out.free 3
      go_wp2_with fail
      refine bodyPost_ret (v := .tuple #[.agg #[.int .u8 k, .string t, .int .i64 n, .int .i64 0], .int .i64 len, .int .i64 (O.e : Nat)]) (by simp [results, Tryz.results23, go_sem, k0, k1, k2, k3]) rfl ?_
      exact next_says rfl HH.out R3.out.set
  · rw [hsp] at csp
    have HO := Lib.hid (next_space (l := s.data.toList) (by rw [hh]; exact hsp))
    have cspan := fun w => span_pure s 33 spaceB w (by omega) (enters_of Tryz.func33 (by kernel_rfl) rfl) (fun b w hb => own_space b w hb)
    rw [← blanks_run] at cspan
    generalize nextO s.data.toList = O at *
    generalize blanks s.data.toList = n at *
    generalize brkK s.data.toList = bk at *
    generalize brkB s.data.toList = bb at *
    clear hsp hh
    generalize byteAt s 0 = b at *
    go_enter Tryz.func23, Tryz.ntmps23
    go_wp2_with fail
    refine (cb _).mono ?_
    rintro e w1 ⟨rfl, rfl⟩
    go_wp2_with fail
    refine (csp _).mono ?_
    rintro e w1 ⟨rfl, rfl⟩
    go_wp2_with fail
    refine (cspan _).mono ?_
    rintro e w1 ⟨rfl, rfl⟩
    have R3 := R0
    have k0 := R3.out.at0
    have k1 := R3.out.at1
    have k2 := R3.out.at2
    have k3 := R3.out.at3
    have f0 := R3.out.free 0
    have f1 := R3.out.free 1
    have f2 := R3.out.free 2
    have f3 := R3.out.free 3
    go_wp2_with fail
    refine bodyPost_ret (v := .tuple #[.agg #[.int .u8 0, .string ⟨#[]⟩, .int .i64 0, .int .i64 0], .int .i64 (n : Nat), .int .i64 0]) (by simp [results, Tryz.results23, go_sem, k0, k1, k2, k3]) rfl ?_
    rw [HO.out]
    exact next_says (k := 0) (e := 0) rfl (fun _ => ⟨rfl, rfl, rfl, rfl⟩) R3.out.low

end Go.Proofs.YtajeghkmgcpgiaaGreatDoor.Lex
