/-
  A part of the proof.
-/
import Derived.Lib.Hide
import Derived.Test.YtnkejjlidgnkkaaGreatDoorClRU
set_option maxRecDepth 100000
set_option maxHeartbeats 40000000
namespace Go.Proofs.YtnkejjlidgnkkaaGreatDoor.Ps

open Go.Lib renaming hid → qh
open Go Go.RowKit
open Go.Proofs.YtnkejjlidgnkkaaGreatDoor.Nd (Nd)
open Go.Proofs.YtnkejjlidgnkkaaGreatDoor.Lex (Tok tokensL)
def FitN (n : Nd) : Prop := (n.k = 23 -> Num.In64 n.n) /\ n.line <= 65536
def FitT (T : List Tok) : Prop := ∀ x ∈ T, Num.In64 x.n /\ x.line <= 65536
def Kp {α : Type} (R : α -> Prop) (x : M α) : Prop := ∀ s, (∀ n ∈ s.l, FitN n) -> match x s with
 | .ok a s' => (∀ n ∈ s'.l, FitN n) /\ R a
 | .no _ _ => True
theorem Kp.bind {α β : Type} {R : α -> Prop} {Q : β -> Prop} {x : M α} {f : α -> M β} (h : Kp R x) (k : ∀ a, R a -> Kp Q (f a)) : Kp Q (x >>= f) := fun s hs => by
 have h1 := h s hs
 show match (match x s with | .ok a s' => f a s' | .no e l => .no e l) with | .ok a s' => (∀ n ∈ s'.l, FitN n) /\ Q a | .no _ _ => True
 cases hx : x s with
 | ok a s' =>
  rw [hx] at h1;exact k a h1.2 s' h1.1
 | no e l => trivial
theorem Kp.pure {α : Type} {R : α -> Prop} {a : α} (h : R a) : Kp R (pure a : M α) := fun _ hs => ⟨hs, h⟩
theorem Kp.ite {α : Type} {R : α -> Prop} {c : Prop} [Decidable c] {x y : M α} (hx : Kp R x) (hy : Kp R y) : Kp R (if c then x else y) := by
 split
 ·exact hx
 ·exact hy
section
variable {T : List Tok}
theorem tk_fits (hT : FitT T) (s : St) : Num.In64 (tk T s).n /\ (tk T s).line <= 65536 := by
 unfold tk;rw [List.getD_eq_getElem?_getD];cases h : T[s.at']? with
 | none => exact ⟨zero_fits, Nat.zero_le _⟩
 | some t => exact hT _ (List.mem_of_getElem? h)
theorem kp_fail {α : Type} {R : α -> Prop} (e : Nat) : Kp R (fail T e : M α) := fun _ _ => trivial
theorem kp_tok (hT : FitT T) : Kp (fun t => Num.In64 t.n /\ t.line <= 65536) (tokM T) := fun s hs => ⟨hs, tk_fits hT s⟩
theorem kp_mark : Kp (fun _ => True) (markM T) := fun _ hs => ⟨hs, trivial⟩
theorem kp_line (hT : FitT T) : Kp (fun l => l <= 65536) (lineM T) := fun s hs => ⟨hs, (tk_fits hT s).2⟩
theorem kp_next : Kp (fun _ => True) nextM := fun _ hs => ⟨hs, trivial⟩
theorem kp_add {n : Nd} (h : FitN n) : Kp (fun _ => True) (add T n) := fun s hs => by
 unfold add
 split
 ·rename_i h4
  split at h4
  ·cases h4
  ·cases h4;refine ⟨fun x hx => ?_, trivial⟩;rcases List.mem_append.1 hx with hx | hx
   ·exact hs x hx
   ·rw [List.mem_singleton] at hx; rw [hx]; exact h
 ·trivial
theorem kp_room (c : Nat) : Kp (fun _ => True) (room T c) := by
 unfold room;exact .ite (kp_fail _) (.pure trivial)
theorem kp_accept (m : ByteArray) : Kp (fun _ => True) (accept T m) := fun s hs => by
 unfold accept;by_cases h : markOf (tk T s) = m
 ·rw [if_pos h]; exact ⟨hs, trivial⟩
 ·rw [if_neg h]; exact ⟨hs, trivial⟩
theorem kp_expect (m : ByteArray) : Kp (fun _ => True) (expect T m) := by
 unfold expect;exact .bind (kp_accept m) fun a _ => .ite (.pure trivial) (kp_fail _)
theorem kp_ends : Kp (fun _ => True) (endsM T) := fun _ hs => ⟨hs, trivial⟩
theorem kp_behind : Kp (fun _ => True) (behindM T) := fun _ hs => ⟨hs, trivial⟩
theorem kp_kindAt (i : Int) : Kp (fun _ => True) (kindAt i) := fun _ hs => ⟨hs, trivial⟩
theorem kp_lineAt (i : Int) : Kp (fun l => l <= 65536) (lineAt i) := fun s hs => by
 refine ⟨hs, ?_⟩;unfold Nd.at';rw [List.getD_eq_getElem?_getD];cases h : s.l[i.toNat]? with
 | none => show (0 : Int) <= 65536; decide
 | some n => exact (hs n (List.mem_of_getElem? h)).2
theorem kp_start : Kp (fun _ => True) (startExpr T) := fun s hs => by
 unfold startExpr;by_cases h : startsE (tk T s) = true
 ·rw [if_pos h]; exact ⟨hs, trivial⟩
 ·rw [if_neg h]; trivial
theorem kp_peek : Kp (fun _ => True) (peekName T) := fun s hs => by
 unfold peekName;by_cases h : (tk T s).k = 1
 ·rw [if_pos h]; exact ⟨hs, trivial⟩
 ·rw [if_neg h]; trivial
theorem kp_name : Kp (fun _ => True) (nextName T) := by
 unfold nextName;exact .bind kp_peek fun n _ => .ite (kp_fail _) (.bind kp_next fun _ _ => .pure trivial)
theorem kp_more (ns : List ByteArray) : Kp (fun _ => True) (oneMore T ns) := by
 unfold oneMore;exact .bind kp_peek fun _ _ => .bind (kp_room _) fun _ _ => .bind kp_name fun _ _ => .pure trivial
theorem kp_namesGo : ∀ (f : Nat) (ns : List ByteArray), Kp (fun _ => True) (namesGo T f ns)
 | 0, _ => kp_fail _
 | f + 1, ns => by
  rw [namesGo];exact .bind (kp_accept _) fun _ _ => .ite (.bind (kp_more ns) fun ns' _ => kp_namesGo f ns') (.pure trivial)
theorem kp_names : Kp (fun _ => True) (names T) := by
 unfold names;exact .bind (kp_more _) fun ns _ => kp_namesGo _ ns
end
end Go.Proofs.YtnkejjlidgnkkaaGreatDoor.Ps
namespace Go.Proofs.YtnkejjlidgnkkaaGreatDoor.Ps

open Go.Lib renaming hid → qh
open Go Go.RowKit
open Go.Proofs.YtnkejjlidgnkkaaGreatDoor.Nd (Nd)
open Go.Proofs.YtnkejjlidgnkkaaGreatDoor.Lex (Tok tokensL)
abbrev Tr {α : Type} : α -> Prop := fun _ => True
structure KpFns (d : Fns) : Prop where
 beg : Kp Tr d.beg
 beg1 : Kp Tr d.beg1
 operand : Kp Tr d.operand
 expr : ∀ b, Kp Tr (d.expr b)
 exprs : Kp Tr d.exprs
 block : Kp Tr d.block
 pre : Kp Tr d.pre
 body : ∀ ns line, line <= 65536 -> Kp Tr (d.body ns line)
theorem oper_plain (m : ByteArray) : (operOf m).kind ≠ 23 := by
 have h : ∀ (l : List (ByteArray × Oper)), (∀ x ∈ l, x.2.kind ≠ 23) -> (operFind l m).kind ≠ 23 := fun l => by
  induction l with
  | nil => intro _; show (0 : Nat) ≠ 23; decide
  | cons x r ih =>
   intro hl;rw [operFind]
   split
   ·exact hl x (List.mem_cons_self ..)
   ·exact ih fun y hy => hl y (List.mem_cons_of_mem _ hy)
 refine h operators fun x hx => ?_
 have : (operators.map fun x => x.2.kind).all (fun k => k != 23) = true := by decide
 rw [List.all_eq_true] at this;have h2 := this x.2.kind (List.mem_map_of_mem (f := fun x => x.2.kind) hx)
 simpa using h2
section
variable {T : List Tok}
theorem fit_nat {k : Nat} {n : Int} {s : ByteArray} {ns : List ByteArray} {ks : List Int} {line : Nat} (hk : k ≠ 23) (hl : line <= 65536) : FitN ⟨k, n, s, ns, ks, (line : Int)⟩ := ⟨fun h => absurd h hk, by show (line : Int) <= 65536; omega⟩
theorem fit_int {k : Nat} {n : Int} {s : ByteArray} {ns : List ByteArray} {ks : List Int} {line : Int} (hk : k ≠ 23) (hl : line <= 65536) : FitN ⟨k, n, s, ns, ks, line⟩ := ⟨fun h => absurd h hk, hl⟩
theorem fit_literal {t : Tok} (h : Num.In64 t.n /\ t.line <= 65536) : FitN (literal t) := by
 unfold literal
 split
 ·exact ⟨fun _ => h.1, by show (t.line : Int) <= 65536; have := h.2; omega⟩
 ·split
  ·exact fit_nat (by decide) h.2
  ·refine fit_nat ?_ h.2
   repeat' split
   all_goals decide
theorem kp_variable (hT : FitT T) : Kp Tr (variableM T) := by
 unfold variableM;exact .bind (kp_line hT) fun _ hl => .bind kp_name fun _ _ => kp_add (fit_nat (by decide) hl)
theorem kp_index (a b : Int) : Kp Tr (indexM T a b) := by
 unfold indexM;exact .bind (kp_lineAt a) fun _ hl => kp_add (fit_int (by decide) hl)
theorem kp_key (hT : FitT T) {beg : M Unit} (hb : Kp Tr beg) : Kp Tr (keyM T beg) := by
 unfold keyM;exact .bind hb fun _ _ => .bind (kp_line hT) fun _ hl => .bind kp_peek fun _ _ => .bind kp_next fun _ _ => kp_add (fit_nat (by decide) hl)
theorem kp_field (hT : FitT T) {beg : M Unit} (hb : Kp Tr beg) (left : Int) : Kp Tr (fieldM T beg left) := by
 unfold fieldM;exact .bind (kp_key hT hb) fun _ _ => kp_index _ _
theorem kp_paramsGo : ∀ (f : Nat) (ns : List ByteArray), Kp Tr (paramsGo T f ns)
 | 0, _ => kp_fail _
 | f + 1, ns => by
  rw [paramsGo];exact .bind (kp_accept _) fun _ _ => .ite (.pure trivial) (.bind (kp_more ns) fun ns' _ => .bind (kp_accept _) fun _ _ => .ite (kp_paramsGo f ns') (.pure trivial))
theorem kp_markIs {α : Type} {R : α -> Prop} {x y : M α} {m : ByteArray} (hx : Kp R x) (hy : Kp R y) : Kp R (do if (<- markM T) = m then x else y) := .bind kp_mark fun _ _ => .ite hx hy
theorem kp_params (ns : List ByteArray) : Kp Tr (params T ns) := by
 unfold params;exact .bind (kp_expect _) fun _ _ => .bind (kp_markIs (.pure trivial) (kp_paramsGo _ ns)) fun _ _ => .bind (kp_expect _) fun _ _ => .pure trivial
variable {d : Fns}
theorem kp_args (hT : FitT T) (hd : KpFns d) : Kp Tr (argsM T d) := by
 unfold argsM;exact .bind (kp_tok hT) fun _ _ => .ite (.bind (kp_accept _) fun _ _ => .ite
  (.bind (kp_markIs (.pure trivial) hd.exprs) fun _ _ => .bind (kp_expect _) fun _ _ => .pure trivial)
  (.bind hd.beg fun _ _ => .bind hd.operand fun _ _ => .pure trivial)) (kp_fail _)
theorem kp_call (hT : FitT T) (hd : KpFns d) {k : Nat} (hk : k ≠ 23) (name : ByteArray) (left : Int) : Kp Tr (callM T d k name left) := by
 unfold callM;exact .bind (kp_lineAt left) fun _ hl => .bind (kp_args hT hd) fun _ _ => kp_add (fit_int hk hl)
theorem kp_firstPre (hT : FitT T) (hd : KpFns d) : Kp Tr (firstPre T d) := by
 unfold firstPre;exact .bind (kp_line hT) fun _ hl => .bind (kp_accept _) fun _ _ => .ite
  (.bind (hd.expr 0) fun _ _ => .bind (kp_expect _) fun _ _ => kp_add (fit_nat (by decide) hl)) (kp_variable hT)
theorem kp_preGo (hT : FitT T) (hd : KpFns d) : ∀ (f : Nat) (left : Int), Kp Tr (preGo T d f left)
 | 0, _ => kp_fail _
 | f + 1, left => by
  rw [preGo];exact .bind (kp_tok hT) fun _ _ => .ite
   (.bind kp_next fun _ _ => .bind (hd.expr 0) fun _ _ => .bind (kp_expect _) fun _ _ => .bind (kp_index _ _) fun x _ => kp_preGo hT hd f x)
   (.ite (.bind kp_next fun _ _ => .bind (kp_field hT hd.beg left) fun x _ => kp_preGo hT hd f x)
    (.ite (.bind kp_next fun _ _ => .bind kp_name fun n _ => .bind (kp_call hT hd (by decide) n left) fun x _ => kp_preGo hT hd f x)
     (.ite (.bind (kp_call hT hd (by decide) _ left) fun x _ => kp_preGo hT hd f x) (.pure trivial))))
theorem kp_pre (hT : FitT T) (hd : KpFns d) : Kp Tr (preM T d) := by
 unfold preM;exact .bind (kp_firstPre hT hd) fun x _ => kp_preGo hT hd _ x
theorem kp_bodyM (hd : KpFns d) (ns : List ByteArray) {line : Nat} (hl : line <= 65536) : Kp Tr (bodyM T d ns line) := by
 unfold bodyM;exact .bind (kp_params ns) fun _ _ => .bind hd.block fun _ _ => .bind (kp_expect _) fun _ _ => kp_add (fit_nat (by decide) hl)
theorem kp_exprsGo (he : Kp Tr (exprM T d 0)) : ∀ (f : Nat) (ks : List Int), Kp Tr (exprsGo T d f ks)
 | 0, _ => kp_fail _
 | f + 1, ks => by
  rw [exprsGo];exact .bind kp_start fun _ _ => .bind (kp_room _) fun _ _ => .bind he fun k _ => .bind (kp_accept _) fun _ _ => .ite (kp_exprsGo he f _) (.pure trivial)
theorem kp_exprGo (hd : KpFns d) (b : Nat) : ∀ (f : Nat) (left : Int), Kp Tr (exprGo T d b f left)
 | 0, _ => kp_fail _
 | f + 1, left => by
  rw [exprGo];exact .bind kp_mark fun m _ => .ite
   (.bind kp_next fun _ _ => .bind (hd.expr _) fun _ _ => .bind (kp_lineAt left) fun _ hl => .bind (kp_add (fit_int (oper_plain m) hl)) fun x _ => kp_exprGo hd b f x) (.pure trivial)
end
end Go.Proofs.YtnkejjlidgnkkaaGreatDoor.Ps
namespace Go.Proofs.YtnkejjlidgnkkaaGreatDoor.Ps

open Go.Lib renaming hid → qh
open Go Go.RowKit
open Go.Proofs.YtnkejjlidgnkkaaGreatDoor.Nd (Nd)
open Go.Proofs.YtnkejjlidgnkkaaGreatDoor.Lex (Tok tokensL)
section
variable {T : List Tok} {d : Fns}
theorem kp_item (hT : FitT T) (hd : KpFns d) : Kp Tr (itemM T d) := by
 unfold itemM;exact .bind (kp_line hT) fun _ hl => .bind (kp_tok hT) fun _ _ => .bind (kp_accept _) fun _ _ => .ite
  (.bind (hd.expr 0) fun _ _ => .bind (kp_expect _) fun _ _ => .bind (kp_expect _) fun _ _ => .bind (hd.expr 0) fun _ _ => kp_add (fit_nat (by decide) hl))
  (.bind kp_behind fun _ _ => .bind kp_behind fun _ _ => .ite
   (.bind (kp_key hT hd.beg) fun _ _ => .bind (kp_expect _) fun _ _ => .bind (hd.expr 0) fun _ _ => kp_add (fit_nat (by decide) hl))
   (.bind (hd.expr 0) fun _ _ => kp_add (fit_nat (by decide) hl)))
theorem kp_tableGo (hT : FitT T) (hd : KpFns d) : ∀ (f : Nat) (ks : List Int), Kp Tr (tableGo T d f ks)
 | 0, _ => kp_fail _
 | f + 1, ks => by
  rw [tableGo];exact .bind kp_mark fun _ _ => .ite (.pure trivial) (.bind (kp_item hT hd) fun k _ => .bind (kp_accept _) fun _ _ => .ite (kp_tableGo hT hd f _)
   (.bind (kp_accept _) fun _ _ => .ite (kp_tableGo hT hd f _) (.pure trivial)))
theorem kp_table (hT : FitT T) (hd : KpFns d) : Kp Tr (tableM T d) := by
 unfold tableM;exact .bind (kp_line hT) fun _ hl => .bind (kp_expect _) fun _ _ => .bind (kp_tableGo hT hd _ _) fun _ _ => .bind (kp_expect _) fun _ _ => kp_add (fit_nat (by decide) hl)
theorem kp_operand (hT : FitT T) (hd : KpFns d) : Kp Tr (operandM T d) := by
 unfold operandM;exact .bind (kp_tok hT) fun t ht => .ite
  (.bind kp_next fun _ _ => .bind (hd.expr 11) fun _ _ => kp_add (fit_nat (by decide) ht.2))
  (.ite (kp_pre hT hd) (.ite (kp_table hT hd) (.ite (.bind kp_next fun _ _ => kp_bodyM hd [] ht.2) (.bind kp_next fun _ _ => kp_add (fit_literal ht)))))
theorem kp_expr (hT : FitT T) (hd : KpFns d) (b : Nat) : Kp Tr (exprM T d b) := by
 unfold exprM;exact .bind kp_start fun _ _ => .bind (kp_operand hT hd) fun x _ => kp_exprGo hd b _ x
theorem kp_exprs (hT : FitT T) (hd : KpFns d) : Kp Tr (exprsM T d) := by
 unfold exprsM;exact kp_exprsGo (kp_expr hT hd 0) _ _
theorem kp_doBlock (hd : KpFns d) : Kp Tr (doBlock T d) := by
 unfold doBlock;exact .bind (kp_expect _) fun _ _ => .bind hd.block fun _ _ => .bind (kp_expect _) fun _ _ => .pure trivial
theorem kp_pair (hd : KpFns d) : Kp Tr (pairM T d) := by
 unfold pairM;exact .bind kp_next fun _ _ => .bind (hd.expr 0) fun _ _ => .bind (kp_expect _) fun _ _ => .bind hd.block fun _ _ => .pure trivial
theorem kp_ifGo (hd : KpFns d) : ∀ (f : Nat) (ks : List Int), Kp Tr (ifGo T d f ks)
 | 0, _ => kp_fail _
 | f + 1, ks => by
  rw [ifGo];exact .bind kp_mark fun _ _ => .ite (.bind (kp_pair hd) fun _ _ => kp_ifGo hd f _) (.pure trivial)
theorem kp_if (hT : FitT T) (hd : KpFns d) : Kp Tr (ifStat T d) := by
 unfold ifStat;exact .bind (kp_line hT) fun _ hl => .bind (kp_pair hd) fun ks _ => .bind (kp_ifGo hd _ ks) fun ks _ =>
  .bind (R := Tr) (.bind (kp_accept _) fun _ _ => .ite (.bind hd.block fun _ _ => .pure trivial) (.pure trivial)) fun _ _ => .bind (kp_expect _) fun _ _ => kp_add (fit_nat (by decide) hl)
theorem kp_bounds (hd : KpFns d) : Kp Tr (bounds T d) := by
 unfold bounds;exact .bind (hd.expr 0) fun _ _ => .bind (kp_expect _) fun _ _ => .bind (hd.expr 0) fun _ _ => .bind (kp_accept _) fun _ _ => .ite (.bind (hd.expr 0) fun _ _ => .pure trivial) (.pure trivial)
theorem kp_for (hT : FitT T) (hd : KpFns d) : Kp Tr (forStat T d) := by
 unfold forStat;exact .bind (kp_line hT) fun _ hl => .bind kp_next fun _ _ => .bind kp_names fun _ _ => .ite
  (.bind (kp_accept _) fun _ _ => .ite
   (.bind (kp_bounds hd) fun _ _ => .bind (kp_doBlock hd) fun _ _ => kp_add (fit_nat (by decide) hl))
   (.bind (kp_expect _) fun _ _ => .bind hd.exprs fun _ _ => .bind (kp_doBlock hd) fun _ _ => kp_add (fit_nat (by decide) hl)))
  (.bind (kp_expect _) fun _ _ => .bind hd.exprs fun _ _ => .bind (kp_doBlock hd) fun _ _ => kp_add (fit_nat (by decide) hl))
theorem kp_fieldsGo (hT : FitT T) (hd : KpFns d) : ∀ (f : Nat) (t : Int), Kp Tr (fieldsGo T d f t)
 | 0, _ => kp_fail _
 | f + 1, t => by
  rw [fieldsGo];exact .bind (kp_accept _) fun _ _ => .ite (.bind (kp_field hT hd.beg1 t) fun x _ => kp_fieldsGo hT hd f x) (.pure trivial)
theorem kp_function (hT : FitT T) (hd : KpFns d) : Kp Tr (functionStat T d) := by
 unfold functionStat;exact .bind hd.beg fun _ _ => .bind (kp_line hT) fun _ hl => .bind kp_next fun _ _ => .bind (kp_variable hT) fun x _ => .bind (kp_fieldsGo hT hd _ x) fun t _ => .bind (kp_accept _) fun _ _ => .ite
  (.bind (kp_field hT hd.beg1 t) fun _ _ => .bind (hd.body _ _ hl) fun _ _ => kp_add (fit_nat (by decide) hl))
  (.bind (hd.body _ _ hl) fun _ _ => kp_add (fit_nat (by decide) hl))
theorem kp_local (hT : FitT T) (hd : KpFns d) : Kp Tr (localStat T d) := by
 unfold localStat;exact .bind (kp_line hT) fun _ hl => .bind kp_next fun _ _ => .bind kp_mark fun _ _ => .ite
  (.bind hd.beg fun _ _ => .bind (kp_line hT) fun _ hf => .bind kp_next fun _ _ => .bind kp_name fun _ _ => .bind (hd.body _ _ hf) fun _ _ => kp_add (fit_nat (by decide) hl))
  (.bind kp_names fun _ _ => .bind (R := Tr) (.bind (kp_accept _) fun _ _ => .ite hd.exprs (.pure trivial)) fun _ _ => kp_add (fit_nat (by decide) hl))
theorem kp_jump (hT : FitT T) : Kp Tr (jumpStat T) := by
 unfold jumpStat;exact .bind (kp_tok hT) fun _ ht => .bind kp_next fun _ _ => .ite (.bind kp_name fun _ _ => kp_add (fit_nat (by decide) ht.2))
  (.ite (.bind kp_name fun _ _ => .bind (kp_expect _) fun _ _ => kp_add (fit_nat (by decide) ht.2)) (kp_add (fit_nat (by decide) ht.2)))
theorem kp_startPre : Kp Tr (startPre T) := fun s hs => by
 unfold startPre
 split
 ·rename_i h
  split at h
  ·cases h; exact ⟨hs, trivial⟩
  ·cases h
 ·trivial
theorem kp_target (i : Int) : Kp Tr (targetM T i) := by
 unfold targetM;exact .bind (kp_kindAt i) fun _ _ => .ite (kp_fail _) (.pure trivial)
theorem kp_targetsGo (hd : KpFns d) : ∀ (f : Nat) (ks : List Int), Kp Tr (targetsGo T d f ks)
 | 0, _ => kp_fail _
 | f + 1, ks => by
  rw [targetsGo];exact .bind (kp_accept _) fun _ _ => .ite (.bind kp_startPre fun _ _ => .bind (kp_room _) fun _ _ => .bind hd.pre fun x _ => .bind (kp_target x) fun _ _ => kp_targetsGo hd f _) (.pure trivial)
theorem kp_prefix (hT : FitT T) (hd : KpFns d) : Kp Tr (prefixStat T d) := by
 unfold prefixStat;exact .bind kp_startPre fun _ _ => .bind hd.beg fun _ _ => .bind (kp_line hT) fun _ hl => .bind hd.pre fun p _ => .bind (kp_kindAt p) fun _ _ => .ite (kp_add (fit_nat (by decide) hl))
  (.bind (kp_target p) fun t _ => .bind (kp_targetsGo hd _ _) fun _ _ => .bind (kp_expect _) fun _ _ => .bind hd.exprs fun _ _ => kp_add (fit_nat (by decide) hl))
theorem kp_stat (hT : FitT T) (hd : KpFns d) : Kp Tr (statM T d) := by
 unfold statM;exact .bind (kp_tok hT) fun _ ht => .ite
  (.bind kp_next fun _ _ => .bind (hd.expr 0) fun _ _ => .bind (kp_doBlock hd) fun _ _ => kp_add (fit_nat (by decide) ht.2))
  (.ite (.bind (kp_doBlock hd) fun _ _ => kp_add (fit_nat (by decide) ht.2))
  (.ite (.bind kp_next fun _ _ => .bind hd.block fun _ _ => .bind (kp_expect _) fun _ _ => .bind (hd.expr 0) fun _ _ => kp_add (fit_nat (by decide) ht.2))
  (.ite (kp_if hT hd) (.ite (kp_for hT hd) (.ite (kp_function hT hd) (.ite (kp_local hT hd) (.ite (kp_jump hT) (kp_prefix hT hd))))))))
theorem kp_last (hT : FitT T) (hd : KpFns d) : Kp Tr (lastStat T d) := by
 unfold lastStat;exact .bind (kp_line hT) fun _ hl => .bind kp_next fun _ _ => .bind (kp_tok hT) fun _ _ => .bind (R := Tr) (.ite (.pure trivial) hd.exprs) fun _ _ => .bind (kp_add (fit_nat (by decide) hl)) fun _ _ =>
  .bind (kp_accept _) fun _ _ => .bind kp_ends fun _ _ => .ite (.pure trivial) (kp_fail _)
theorem kp_blockGo (hT : FitT T) (hd : KpFns d) : ∀ (f : Nat) (ks : List Int), Kp Tr (blockGo T d f ks)
 | 0, _ => kp_fail _
 | f + 1, ks => by
  rw [blockGo];exact .bind (kp_tok hT) fun _ _ => .ite (.pure trivial) (.ite (.bind kp_next fun _ _ => kp_blockGo hT hd f ks)
   (.ite (.bind (kp_last hT hd) fun _ _ => kp_blockGo hT hd f _) (.bind (kp_stat hT hd) fun _ _ => kp_blockGo hT hd f _)))
theorem kp_block (hT : FitT T) (hd : KpFns d) : Kp Tr (blockM T d) := by
 unfold blockM;exact .bind (kp_line hT) fun _ hl => .bind (kp_blockGo hT hd _ _) fun _ _ => kp_add (fit_nat (by decide) hl)
end
theorem kp_fns {T : List Tok} (hT : FitT T) : ∀ k, KpFns (fns T k)
 | 0 => ⟨kp_fail _, kp_fail _, kp_fail _, fun _ => kp_fail _, kp_fail _, kp_fail _, kp_fail _, fun _ _ _ => kp_fail _⟩
 | k + 1 =>
  have h := kp_fns hT k
  ⟨.pure trivial, h.beg, kp_operand hT h, fun b => kp_expr hT h b, kp_exprs hT h, kp_block hT h, kp_pre hT h, fun ns _ hl => kp_bodyM h ns hl⟩
theorem kp_text {T : List Tok} (hT : FitT T) : Kp Tr (textM T) := by
 unfold textM;exact .bind (kp_fns hT 100).block fun _ _ => .bind (kp_tok hT) fun _ _ => .ite (kp_add (fit_int (by decide) (by decide))) (kp_fail _)
theorem parse_fit (s : ByteArray) : ∀ n ∈ (parseL s).1, FitN n := by
 unfold parseL
 split
 ·intro n hn; cases hn
 ·have h := kp_text (T := (tokensL s.data.toList).1) (tokens_fit _) ⟨0, []⟩ (fun n hn => by cases hn);cases hx : textM (tokensL s.data.toList).1 ⟨0, []⟩ with
  | ok a s' => rw [hx] at h; exact h.1
  | no e l => intro n hn; cases hn
end Go.Proofs.YtnkejjlidgnkkaaGreatDoor.Ps
namespace Go.Proofs.YtnkejjlidgnkkaaGreatDoor.Ps

open Go.Lib renaming hid → qh
open Go Go.RowKit
open Go.Proofs.YtnkejjlidgnkkaaGreatDoor.Nd
open Go.Proofs.YtnkejjlidgnkkaaGreatDoor.Lex (Tok tokensL)
theorem few_of : ∀ (m : Nat) (l : List Int), l.Nodup -> (∀ c ∈ l, 0 <= c /\ c < (m : Int)) -> l.length <= m
 | 0, l, _, h => by
  cases l with
  | nil => exact Nat.le_refl _
  | cons c r => have := h c (List.mem_cons_self ..); omega
 | m + 1, l, hn, h => by
  have h1 : (l.erase (m : Int)).Nodup := hn.erase _;have h2 : ∀ c ∈ l.erase (m : Int), 0 <= c /\ c < (m : Int) := fun c hc => by
   have h3 := h c (List.mem_of_mem_erase hc);have h4 : c ≠ (m : Int) := fun e => by subst e; exact (List.Nodup.not_mem_erase hn) hc
   omega
  have h3 := few_of m _ h1 h2;have h4 := List.length_erase (a := (m : Int)) (l := l)
  split at h4 <;> omega
theorem kids_nodup {row : Row} {l : List Nd} {r : Int} (h : RightP row l r) {i : Int} (hi : inR l i) : (at' l i).kids.Nodup := by
 show List.Pairwise (· ≠ ·) _;rw [List.pairwise_iff_getElem];intro p q hp hq hpq e;have h1 := List.getElem?_eq_getElem hp;have h2 := List.getElem?_eq_getElem hq;rw [<- e] at h2;have := (h.once i i p q _ hi hi h1 h2).2;omega
theorem kids_few {row : Row} {l : List Nd} {r : Int} (h : RightP row l r) {i : Int} (hi : inR l i) : (at' l i).kids.length <= 4096 :=
 Nat.le_trans (few_of l.length _ (kids_nodup h hi) fun c hc => h.kids i hi c hc) h.few
theorem kind_low {k : Nat} {n : Int} {ks : List Nat} (h : kidsB k n ks = true) : k < 256 := by
 refine Nat.lt_of_not_le fun hk => ?_
 unfold kidsB at h;rw [if_neg (by unfold statK; simp; omega)] at h
 split at h
 all_goals first
  | omega
  | cases h
theorem name_low {s : ByteArray} (h : nmD s = true) : s.size <= 60 := by
 unfold nmD at h;rw [Bool.and_eq_true] at h;have h1 := h.1;by_cases h2 : 60 < s.size
 ·rw [decide_eq_true h2] at h1;simp at h1
 ·omega
theorem names_low (k : Nat) : (cntB k).2 <= 200 := by
 unfold cntB
 split <;> decide
theorem num_low {k : Nat} {n : Int} (h : numB k n = true) (hk : k ≠ 23) : Num.In64 n := by
 unfold numB at h;unfold Num.In64
 split at h
 ·exact absurd rfl hk
 all_goals
  have := of_decide_eq_true h;omega
theorem text_low {k : Nat} {s : ByteArray} (h : nameB nmD k s = true) : s.size ≤ 65535 := by
  unfold nameB at h
  split at h
  all_goals first
    | (have := name_low h; omega)
    | exact of_decide_eq_true h
    | (have h2 := of_decide_eq_true h
       rw [ByteArray.toList_eq] at h2
       have h3 : s.size = 0 := by show s.data.toList.length = 0; rw [h2]; rfl
       omega)
theorem fine_node {n : Nd} {ks : List (Nat × Int)} (hr : rowD nmD (bare n) ks = true) (hf : FitN n) (hk : n.kids.length <= 4096) (hc : ∀ c ∈ n.kids, 0 <= c /\ c < 4096) : Fine n := by
 unfold rowD ownB at hr;simp only [Bool.and_eq_true] at hr;obtain ⟨⟨⟨hl, ⟨hcnt, hns⟩, hnm, hnu⟩, hkid⟩, _⟩ := hr;have hl2 : 1 <= n.line := of_decide_eq_true hl;have hcnt2 : n.names.length <= (cntB n.k).2 := (of_decide_eq_true hcnt).2;have h200 := names_low n.k;have hname : n.name.size <= 65535 := text_low (k := n.k) hnm;have hnum : Num.In64 n.n := by
  by_cases h23 : n.k = 23
  ·exact hf.1 h23
  ·exact num_low (k := n.k) hnu h23
 have hfl := hf.2;refine ⟨kind_low (k := n.k) hkid, hnum, ⟨by omega, by omega⟩, fun c h => ⟨by have := hc c h; omega, by have := hc c h; omega⟩, by omega, by omega, by omega, fun s hs => ?_⟩;have := name_low (List.all_eq_true.1 hns s hs);omega
theorem parse_fine (s : ByteArray) (h : RightP (rowD nmD) (parseL s).1 (parseL s).2.1) : ∀ n ∈ (parseL s).1, Fine n := fun n hn => by
 have hf := parse_fit s n hn;obtain ⟨i, hi, he⟩ := List.getElem_of_mem hn;have hin : inR (parseL s).1 (i : Int) := ⟨Int.natCast_nonneg _, by omega⟩;have hat : at' (parseL s).1 (i : Int) = n := by
  unfold at';rw [Int.toNat_natCast, List.getD_eq_getElem?_getD, List.getElem?_eq_getElem hi, Option.getD_some, he]
 have h1 := h.rows _ hin;have h2 := kids_few h hin;have h3 := h.kids _ hin;rw [hat] at h1 h2 h3;exact fine_node h1 hf h2 fun c hc => by
  have := h3 c hc;have h4 := h.few;unfold inR at this;omega
end Go.Proofs.YtnkejjlidgnkkaaGreatDoor.Ps
