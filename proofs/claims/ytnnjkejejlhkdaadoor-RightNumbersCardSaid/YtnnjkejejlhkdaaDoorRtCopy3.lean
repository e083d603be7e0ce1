/-
  Layer 9: CopyProgram: a statement's three lists.
-/
import Derived.Test.YtnnjkejejlhkdaaDoorRtOwn
import Derived.Deep.LoopGhost
import Derived.Deep.DeepCutAuto
import Derived.Deep.CutBlock
import Derived.Deep.RegionHeld3
import Derived.Lib.SmallJoins
namespace Go.Proofs.YtnnjkejejlhkdaaDoor.Rt
open Go Go.RowKit

def BndS (s : St) : Prop := s.slots.length * 8 ≤ 140737488351232 ∧ s.targets.length * 8 ≤ 140737488351232 ∧ s.exprs.length * 8 ≤ 140737488351232
def Grown (w1 w : World) : Prop := Below w1.heap.size w1 w
def findReg (n : Nat) : Code → Option Code
  | .seq a b => match findReg n a with
    | some r => some r
    | none => findReg n b
  | .region k ops d => if k = n then some (.region k ops d) else none
  | .block _ c => findReg n c
  | .loop c => findReg n c
  | .scope c => findReg n c
  | .cond _ a b => match findReg n a with
    | some r => some r
    | none => findReg n b
  | _ => none
noncomputable def copyReg : Code := ((Tryd.f7.body).bind (findReg 16)).getD .skip
/-- What the copies leave: the statement's box, its lists in memory of their own. -/
def Copied (β b : Nat) (s : St) (w wx : World) : Prop :=
  ∃ a1 c1 a2 c2 a3 c3, wx.heap[b]? = some (.cells #[.int .u8 s.k, .slice a1 s.slots.length c1, .slice a2 s.targets.length c2, .slice a3 s.exprs.length c3, .int .i64 s.next, .int .i64 s.els, .int .i64 s.line] 44 (0, 0)) ∧
    IntsO β wx (.slice a1 s.slots.length c1) s.slots ∧ IntsO β wx (.slice a2 s.targets.length c2) s.targets ∧ IntsO β wx (.slice a3 s.exprs.length c3) s.exprs ∧ Below b w wx
def boxS (s : St) (x1 x2 x3 : Value) : Obj := .cells #[.int .u8 s.k, x1, x2, x3, .int .i64 s.next, .int .i64 s.els, .int .i64 s.line] 44 (0, 0)
/-- How far the copies have come: what the box holds now, and the lists that are made. -/
def Now (β b : Nat) (s : St) (w w' : World) (x1 x2 x3 : Value) (l : List (Value × List Int)) : Prop :=
  w'.heap[b]? = some (boxS s x1 x2 x3) ∧ Below b w w' ∧ ∀ r ∈ l, IntsO β w' r.1 r.2
section
variable {β b : Nat} {s : St} {w w' w'' : World} {x1 x2 x3 y : Value} {l : List (Value × List Int)}
theorem Now.set1 (h : Now β b s w w' x1 x2 x3 l) : Now β b s w (w'.setCell ⟨b, 1, none⟩ y) y x2 x3 l :=
  ⟨Joins.block_setCell (i := 1) h.1 y, h.2.1.setCell (Nat.le_refl b) _, fun r hr => (h.2.2 r hr).same (Same.set (j := 1) h.1 y) (by decide)⟩
theorem Now.set2 (h : Now β b s w w' x1 x2 x3 l) : Now β b s w (w'.setCell ⟨b, 2, none⟩ y) x1 y x3 l :=
  ⟨Joins.block_setCell (i := 2) h.1 y, h.2.1.setCell (Nat.le_refl b) _, fun r hr => (h.2.2 r hr).same (Same.set (j := 2) h.1 y) (by decide)⟩
theorem Now.set3 (h : Now β b s w w' x1 x2 x3 l) : Now β b s w (w'.setCell ⟨b, 3, none⟩ y) x1 x2 y l :=
  ⟨Joins.block_setCell (i := 3) h.1 y, h.2.1.setCell (Nat.le_refl b) _, fun r hr => (h.2.2 r hr).same (Same.set (j := 3) h.1 y) (by decide)⟩
theorem Now.call (h : Now β b s w w' x1 x2 x3 l) (hb : Below w'.heap.size w' w'') {v : Value} {zs : List Int} (ho : IntsO β w'' v zs) : Now β b s w w'' x1 x2 x3 ((v, zs) :: l) :=
  ⟨at_below h.1 hb, h.2.1.trans (hb.mono (Nat.le_of_lt (lt_of_get h.1))), fun r hr => by
    rcases List.mem_cons.1 hr with rfl | hr
    · exact ho
    · exact (h.2.2 r hr).below hb⟩
theorem Now.cells (h : Now β b s w w' x1 x2 x3 l) : (w'.cell? ⟨b, 1, none⟩ = some x1 ∧ w'.cell? ⟨b, 2, none⟩ = some x2 ∧ w'.cell? ⟨b, 3, none⟩ = some x3) ∧ (w'.frozen? ⟨b, 1, none⟩ = false ∧ w'.frozen? ⟨b, 2, none⟩ = false ∧ w'.frozen? ⟨b, 3, none⟩ = false) ∧ Now β b s w w' x1 x2 x3 l :=
  ⟨⟨cell_of h.1 1 _ rfl, cell_of h.1 2 _ rfl, cell_of h.1 3 _ rfl⟩, ⟨frozen_of_row _ _ 1 _ _ h.1, frozen_of_row _ _ 2 _ _ h.1, frozen_of_row _ _ 3 _ _ h.1⟩, h⟩
theorem Now.ends {a1 a2 a3 : Option Addr} {c1 c2 c3 : Nat} (h : Now β b s w w' (.slice a1 s.slots.length c1) (.slice a2 s.targets.length c2) (.slice a3 s.exprs.length c3) [(.slice a3 s.exprs.length c3, s.exprs), (.slice a2 s.targets.length c2, s.targets), (.slice a1 s.slots.length c1, s.slots)]) : Copied β b s w w' :=
  ⟨_, _, _, _, _, _, h.1, h.2.2 _ (.tail _ (.tail _ (.head _))), h.2.2 _ (.tail _ (.head _)), h.2.2 _ (.head _), h.2.1⟩
end

set_option maxHeartbeats 8000000 in
set_option maxRecDepth 100000 in
theorem copy_three {Q : Exit → Act → World → Prop} {p0 p1 p2 p3 p4 p5 p6 p7 p8 p9 p10 p12 p13 p14 p15 p16 p17 p18 p19 p20 p21 p22 p23 p24 p25 p26 p27 p28 p29 p30 p31 p32 p33 p34 p35 p36 p37 p38 p39 p40 p41 p42 p43 p44 p45 p46 p47 p48 p49 p50 p51 p52 p53 p54 p55 p56 p57 p58 p59 p60 p61 p62 p63 p64 p65 p66 p67 p68 p69 p70 p71 p72 p73 p74 p75 p76 p77 p78 p79 p80 p81 p82 p83 p84 p85 p86 p87 p88 p89 p90 p91 p92 p93 p94 p95 p96 p97 p98 : Value} {β b B : Nat} {s : St} {w : World} {a1 a2 a3 : Option Addr} {c1 c2 c3 : Nat}
    (hX : w.heap[b]? = some (.cells #[.int .u8 s.k, .slice a1 s.slots.length c1, .slice a2 s.targets.length c2, .slice a3 s.exprs.length c3, .int .i64 s.next, .int .i64 s.els, .int .i64 s.line] 44 (0, 0)))
    (l1 : LstB B w (.slice a1 s.slots.length c1) (ints s.slots)) (l2 : LstB B w (.slice a2 s.targets.length c2) (ints s.targets)) (l3 : LstB B w (.slice a3 s.exprs.length c3) (ints s.exprs)) (hB : B ≤ b) (hβ : β ≤ b) (hbs : BndS s)
    (hQ : ∀ (n52 n53 n54 n55 n56 n57 n58 n59 n60 n61 n62 n63 : Value) (wx : World), Copied β b s w wx → Q .normal ⟨(p0 :: p1 :: p2 :: p3 :: p4 :: p5 :: p6 :: p7 :: p8 :: p9 :: p10 :: .pointer (some ⟨b, 0, none⟩) :: p12 :: p13 :: p14 :: p15 :: p16 :: p17 :: p18 :: p19 :: p20 :: p21 :: p22 :: p23 :: p24 :: p25 :: p26 :: p27 :: p28 :: p29 :: p30 :: p31 :: p32 :: p33 :: p34 :: p35 :: p36 :: p37 :: p38 :: p39 :: p40 :: p41 :: p42 :: p43 :: p44 :: p45 :: p46 :: p47 :: p48 :: p49 :: p50 :: p51 :: n52 :: n53 :: n54 :: n55 :: n56 :: n57 :: n58 :: n59 :: n60 :: n61 :: n62 :: n63 :: p64 :: p65 :: p66 :: p67 :: p68 :: p69 :: p70 :: p71 :: p72 :: p73 :: p74 :: p75 :: p76 :: p77 :: p78 :: p79 :: p80 :: p81 :: p82 :: p83 :: p84 :: p85 :: p86 :: p87 :: p88 :: p89 :: p90 :: p91 :: p92 :: p93 :: p94 :: p95 :: p96 :: p97 :: p98 :: []).toArray, []⟩ wx) :
    Code.wp Tryd.prog copyReg Q ⟨(p0 :: p1 :: p2 :: p3 :: p4 :: p5 :: p6 :: p7 :: p8 :: p9 :: p10 :: .pointer (some ⟨b, 0, none⟩) :: p12 :: p13 :: p14 :: p15 :: p16 :: p17 :: p18 :: p19 :: p20 :: p21 :: p22 :: p23 :: p24 :: p25 :: p26 :: p27 :: p28 :: p29 :: p30 :: p31 :: p32 :: p33 :: p34 :: p35 :: p36 :: p37 :: p38 :: p39 :: p40 :: p41 :: p42 :: p43 :: p44 :: p45 :: p46 :: p47 :: p48 :: p49 :: p50 :: p51 :: p52 :: p53 :: p54 :: p55 :: p56 :: p57 :: p58 :: p59 :: p60 :: p61 :: p62 :: p63 :: p64 :: p65 :: p66 :: p67 :: p68 :: p69 :: p70 :: p71 :: p72 :: p73 :: p74 :: p75 :: p76 :: p77 :: p78 :: p79 :: p80 :: p81 :: p82 :: p83 :: p84 :: p85 :: p86 :: p87 :: p88 :: p89 :: p90 :: p91 :: p92 :: p93 :: p94 :: p95 :: p96 :: p97 :: p98 :: []).toArray, []⟩ w := by
  have HK := Lib.hid hQ
  clear hQ
  have k1 : ∀ (w' : World) (x1 x2 x3 : Value) (l : List (Value × List Int)), Now β b s w w' x1 x2 x3 l → Calls Tryd.prog 15 #[.slice a1 s.slots.length c1] w' fun e w'' => ∃ ao c, e = .returned (.slice ao s.slots.length c) ∧ (w''.cell? ⟨b, 1, none⟩ = some x1 ∧ w''.cell? ⟨b, 2, none⟩ = some x2 ∧ w''.cell? ⟨b, 3, none⟩ = some x3) ∧ (w''.frozen? ⟨b, 1, none⟩ = false ∧ w''.frozen? ⟨b, 2, none⟩ = false ∧ w''.frozen? ⟨b, 3, none⟩ = false) ∧ Now β b s w w'' x1 x2 x3 ((.slice ao s.slots.length c, s.slots) :: l) := fun w' x1 x2 x3 l h => (copy_ints (B := B) _ _ _ (l1.below (h.2.1.mono hB)) hbs.1).mono fun _ _ ⟨v', e1, e2, e3⟩ => by
    obtain ⟨ao, c, rfl⟩ := own_slice e2
    exact ⟨ao, c, e1, (h.call e3 (e2.lift (Nat.le_trans hβ (Nat.le_of_lt (lt_of_get h.1))))).cells⟩
  have k2 : ∀ (w' : World) (x1 x2 x3 : Value) (l : List (Value × List Int)), Now β b s w w' x1 x2 x3 l → Calls Tryd.prog 15 #[.slice a2 s.targets.length c2] w' fun e w'' => ∃ ao c, e = .returned (.slice ao s.targets.length c) ∧ (w''.cell? ⟨b, 1, none⟩ = some x1 ∧ w''.cell? ⟨b, 2, none⟩ = some x2 ∧ w''.cell? ⟨b, 3, none⟩ = some x3) ∧ (w''.frozen? ⟨b, 1, none⟩ = false ∧ w''.frozen? ⟨b, 2, none⟩ = false ∧ w''.frozen? ⟨b, 3, none⟩ = false) ∧ Now β b s w w'' x1 x2 x3 ((.slice ao s.targets.length c, s.targets) :: l) := fun w' x1 x2 x3 l h => (copy_ints (B := B) _ _ _ (l2.below (h.2.1.mono hB)) hbs.2.1).mono fun _ _ ⟨v', e1, e2, e3⟩ => by
    obtain ⟨ao, c, rfl⟩ := own_slice e2
    exact ⟨ao, c, e1, (h.call e3 (e2.lift (Nat.le_trans hβ (Nat.le_of_lt (lt_of_get h.1))))).cells⟩
  have k3 : ∀ (w' : World) (x1 x2 x3 : Value) (l : List (Value × List Int)), Now β b s w w' x1 x2 x3 l → Calls Tryd.prog 15 #[.slice a3 s.exprs.length c3] w' fun e w'' => ∃ ao c, e = .returned (.slice ao s.exprs.length c) ∧ (w''.cell? ⟨b, 1, none⟩ = some x1 ∧ w''.cell? ⟨b, 2, none⟩ = some x2 ∧ w''.cell? ⟨b, 3, none⟩ = some x3) ∧ (w''.frozen? ⟨b, 1, none⟩ = false ∧ w''.frozen? ⟨b, 2, none⟩ = false ∧ w''.frozen? ⟨b, 3, none⟩ = false) ∧ Now β b s w w'' x1 x2 x3 ((.slice ao s.exprs.length c, s.exprs) :: l) := fun w' x1 x2 x3 l h => (copy_ints (B := B) _ _ _ (l3.below (h.2.1.mono hB)) hbs.2.2).mono fun _ _ ⟨v', e1, e2, e3⟩ => by
    obtain ⟨ao, c, rfl⟩ := own_slice e2
    exact ⟨ao, c, e1, (h.call e3 (e2.lift (Nat.le_trans hβ (Nat.le_of_lt (lt_of_get h.1))))).cells⟩
  have hN : Now β b s w w.drew (.slice a1 s.slots.length c1) (.slice a2 s.targets.length c2) (.slice a3 s.exprs.length c3) [] := ⟨hX, (Below.refl _ _).drew, fun r hr => by cases hr⟩
  obtain ⟨⟨f1, f2, f3⟩, ⟨f4, f5, f6⟩, hN⟩ := hN.cells
  clear l1 l2 l3 hbs hX hB hβ
  conv => arg 2; whnf
  refine wp_region_noPanic ?_
  go_region_with (first
    | (go_at_call 15; refine (k1 _ _ _ _ _ (by first | assumption | exact Now.set1 (by assumption))).mono ?_; rintro e wA ⟨ao1, d1, rfl, ⟨f11, f12, f13⟩, ⟨f14, f15, f16⟩, hN1⟩)
    | (go_at_call 15; refine (k2 _ _ _ _ _ (by first | assumption | exact Now.set1 (by assumption))).mono ?_; rintro e wB ⟨ao2, d2, rfl, ⟨f21, f22, f23⟩, ⟨f24, f25, f26⟩, hN2⟩)
    | (go_at_call 15; refine (k3 _ _ _ _ _ (by first | assumption | exact Now.set1 (by assumption) | exact Now.set2 (by assumption) | exact Now.set2 (Now.set1 (by assumption)))).mono ?_; rintro e wC ⟨ao3, d3, rfl, ⟨f31, f32, f33⟩, ⟨f34, f35, f36⟩, hN3⟩))
  all_goals exact HK.out _ _ _ _ _ _ _ _ _ _ _ _ _ (by first | exact hN3.set1.set2.set3.ends | exact hN3.set2.set3.ends | exact hN3.set3.ends)

end Go.Proofs.YtnnjkejejlhkdaaDoor.Rt
