/-
  Layer 5: NodesNumbers, the items of a table.
-/
import Derived.Test.YtmddffacjkkeiaaDvFam3
import Derived.Deep.CutBlock
import Derived.Deep.DeepCutAuto
namespace Go.Proofs.Ytmddffacjkkeiaa.Nd
open Go Go.RowKit Go.ChangeShapes Go.WideShapes Go.Shelf
open Go.Proofs.Ytmddffacjkkeiaa.Rf

set_option maxRecDepth 100000 in
set_option maxHeartbeats 4000000 in
theorem blk_6 {Q : Exit → Act → World → Prop} {p0 p1 p2 p3 p4 p5 p6 p7 p8 p9 p10 p11 p12 p13 p14 p16 p18 p19 p20 p21 p22 p23 p24 p25 p26 p27 p28 p29 p30 p31 p32 p33 p34 p35 p36 p37 p38 p39 p40 p41 p42 p43 p44 p45 p46 p47 p48 p49 p50 p51 p52 p53 p54 p55 p56 p57 p58 p59 p60 p61 p62 p63 p64 p65 p66 p67 p68 p69 p70 p71 p72 p73 p74 p75 p76 p77 p78 p79 p80 p81 p82 p83 p84 p85 p86 p87 p88 p89 p90 p91 p92 p93 p94 p95 p96 p97 p98 p99 p100 p101 p102 p103 p104 p105 p106 p107 p108 p109 p110 p111 p112 p113 p114 p115 p116 p117 p118 p119 p120 p121 p122 p123 p124 p125 p126 p127 p128 p129 p130 p131 p132 p133 p134 p135 p136 p137 p138 p139 p140 p141 p142 p143 p144 p145 p146 p147 p148 p149 p150 p151 p152 p153 p154 p155 p156 p157 p158 p159 p160 p161 p162 p163 p164 p165 p166 p167 p168 p169 p170 p171 p172 p173 p174 p175 p176 p177 p178 p179 p180 p181 p182 p183 p184 p185 p186 p187 p188 p189 p190 p191 p192 p193 p194 p195 p196 p197 p198 p199 p200 p201 p202 p203 p204 p205 p206 p207 p208 p209 p210 p211 p212 p213 p214 p215 p216 p217 p218 p219 p220 p221 p222 p223 p224 p225 p226 p227 p228 p229 p230 p231 p232 p233 p234 p235 p236 p237 p238 p239 : Value} {Z : Nat} (w0 : World) (w : World) (HO : Hid (OwnNd w Z (.slice (some ⟨Z, 0, none⟩) 0 0) [])) (HI : Hid (w.ownsRow Z 3 1 p16 0 [])) (HZ : Hid (Z ≤ w.heap.size ∧ w0.heap.size ≤ Z)) (HBR : Hid (Below w0.heap.size w0 w))
    (hQ : ∀ (y15 y16 y17 y158 y159 y160 y161 y162 y163 y164 y165 y166 y167 y168 y169 y170 y171 y172 y173 y174 y175 : Value) (wx : World), ∀ rs : List R3, OwnNd wx Z y15 rs → rs.map (·.1) = big 2046 → (∀ r ∈ rs, Kid r) → wx.ownsRow Z 3 1 y16 2046 ((items 2046).map (.int .i64)) → Below w0.heap.size w0 wx → Q .normal ⟨#[p0, p1, p2, p3, p4, p5, p6, p7, p8, p9, p10, p11, p12, p13, p14, y15, y16, y17, p18, p19, p20, p21, p22, p23, p24, p25, p26, p27, p28, p29, p30, p31, p32, p33, p34, p35, p36, p37, p38, p39, p40, p41, p42, p43, p44, p45, p46, p47, p48, p49, p50, p51, p52, p53, p54, p55, p56, p57, p58, p59, p60, p61, p62, p63, p64, p65, p66, p67, p68, p69, p70, p71, p72, p73, p74, p75, p76, p77, p78, p79, p80, p81, p82, p83, p84, p85, p86, p87, p88, p89, p90, p91, p92, p93, p94, p95, p96, p97, p98, p99, p100, p101, p102, p103, p104, p105, p106, p107, p108, p109, p110, p111, p112, p113, p114, p115, p116, p117, p118, p119, p120, p121, p122, p123, p124, p125, p126, p127, p128, p129, p130, p131, p132, p133, p134, p135, p136, p137, p138, p139, p140, p141, p142, p143, p144, p145, p146, p147, p148, p149, p150, p151, p152, p153, p154, p155, p156, p157, y158, y159, y160, y161, y162, y163, y164, y165, y166, y167, y168, y169, y170, y171, y172, y173, y174, y175, p176, p177, p178, p179, p180, p181, p182, p183, p184, p185, p186, p187, p188, p189, p190, p191, p192, p193, p194, p195, p196, p197, p198, p199, p200, p201, p202, p203, p204, p205, p206, p207, p208, p209, p210, p211, p212, p213, p214, p215, p216, p217, p218, p219, p220, p221, p222, p223, p224, p225, p226, p227, p228, p229, p230, p231, p232, p233, p234, p235, p236, p237, p238, p239], []⟩ wx) :
    Code.wp Try.prog (bk 6) Q ⟨#[p0, p1, p2, p3, p4, p5, p6, p7, p8, p9, p10, p11, p12, p13, p14, .slice (some ⟨Z, 0, none⟩) 0 0, p16, .int .i64 0, p18, p19, p20, p21, p22, p23, p24, p25, p26, p27, p28, p29, p30, p31, p32, p33, p34, p35, p36, p37, p38, p39, p40, p41, p42, p43, p44, p45, p46, p47, p48, p49, p50, p51, p52, p53, p54, p55, p56, p57, p58, p59, p60, p61, p62, p63, p64, p65, p66, p67, p68, p69, p70, p71, p72, p73, p74, p75, p76, p77, p78, p79, p80, p81, p82, p83, p84, p85, p86, p87, p88, p89, p90, p91, p92, p93, p94, p95, p96, p97, p98, p99, p100, p101, p102, p103, p104, p105, p106, p107, p108, p109, p110, p111, p112, p113, p114, p115, p116, p117, p118, p119, p120, p121, p122, p123, p124, p125, p126, p127, p128, p129, p130, p131, p132, p133, p134, p135, p136, p137, p138, p139, p140, p141, p142, p143, p144, p145, p146, p147, p148, p149, p150, p151, p152, p153, p154, p155, p156, p157, p158, p159, p160, p161, p162, p163, p164, p165, p166, p167, p168, p169, p170, p171, p172, p173, p174, p175, p176, p177, p178, p179, p180, p181, p182, p183, p184, p185, p186, p187, p188, p189, p190, p191, p192, p193, p194, p195, p196, p197, p198, p199, p200, p201, p202, p203, p204, p205, p206, p207, p208, p209, p210, p211, p212, p213, p214, p215, p216, p217, p218, p219, p220, p221, p222, p223, p224, p225, p226, p227, p228, p229, p230, p231, p232, p233, p234, p235, p236, p237, p238, p239], []⟩ w := by
  have one : 1 ≤ maxLen := by unfold maxLen; omega
  conv => arg 2; whnf
  go_wp2_with fail
  go_loopg [15, 16, 17] 2046 (fun r l v i wx => ∃ (j : Nat) (rs : List R3), r = 2046 - j ∧ i = .int .i64 (j : Int) ∧ j ≤ 2046 ∧ OwnNd wx Z l rs ∧ rs.map (·.1) = big j ∧ (∀ r ∈ rs, Kid r) ∧ wx.ownsRow Z 3 1 v j ((items j).map (.int .i64)) ∧ Below w0.heap.size w0 wx ∧ Z ≤ wx.heap.size)
  case atStart => exact ⟨0, [], rfl, rfl, Nat.zero_le _, HO.out, rfl, (fun r h => by cases h), HI.out, HBR.out, HZ.out.1⟩
  case round =>
    obtain ⟨j, rs, rfl, rfl, hj, ho, hm, hkid, hrow, hb, hz⟩ := hrel
    by_cases hjl : j < 2046
    · have hjl' : (j : Int) < 2046 := by omega
      have jw : IntKind.i64.wrap ((j : Int) + 1) = ((j + 1 : Nat) : Int) := by rw [show (j : Int) + 1 = ((j + 1 : Nat) : Int) by omega]; exact IntWalk.i64_in _ (by omega)
      obtain ⟨a, ha⟩ : ∃ a : Int, ((2 * j : Nat) : Int) = a := ⟨_, rfl⟩
      obtain ⟨b, hb'⟩ : ∃ b : Int, ((2 * j + 1 : Nat) : Int) = b := ⟨_, rfl⟩
      have m1 : IntKind.i64.wrap (2 * (j : Int)) = a := by rw [← ha, show (2 : Int) * (j : Int) = ((2 * j : Nat) : Int) by omega]; exact IntWalk.i64_in _ (by omega)
      have m2 : IntKind.i64.wrap (a + 1) = b := by rw [← ha, ← hb', show ((2 * j : Nat) : Int) + 1 = ((2 * j + 1 : Nat) : Int) by omega]; exact IntWalk.i64_in _ (by omega)
      have HC := Lib.hid (show big (j + 1) = big j ++ [leafN, nItem a] ∧ items (j + 1) = items j ++ [b] ∧ a = ((2 * j : Nat) : Int) from ⟨by rw [← ha]; rfl, by rw [← hb', items_succ], ha.symm⟩)
      have HRS := Lib.hid (show rs.length = 2 * j from by rw [← big_len, ← hm, List.length_map])
      have HO1 := Lib.hid ho
      have HM := Lib.hid hm
      have HK := Lib.hid hkid
      have HROW := Lib.hid hrow
      have HB1 := Lib.hid (show Below w0.heap.size w0 wr ∧ Z ≤ wr.heap.size from ⟨hb, hz⟩)
      obtain ⟨av, cv, rfl⟩ := own_slice hrow
      clear ho hm hb hz ha hb' HO HBR HI hkid hrow
      go_wp2_with fail
      refine (leaf_is _).mono ?_
      rintro e v1 ⟨rfl, b1⟩
      obtain ⟨A, hA⟩ : ∃ A, v1.heap.size = A := ⟨_, rfl⟩
      have hal1 := grow1 v1 (.cells #[.int .i64 a] 3)
      obtain ⟨V2, hV2⟩ : ∃ V, v1.alloc (.cells #[.int .i64 a] 3) = V := ⟨_, rfl⟩
      have hx1 : V2.heap[A]? = some (.cells #[.int .i64 a] 3 (0, 0)) := by rw [← hV2]; exact hit hA.symm
      have hs2 : V2.heap.size = A + 1 := by rw [← hV2, ← hA]; simp
      rw [hV2] at hal1
      have b2 := b1.trans (hal1.mono b1.size)
      have hal := grow1 V2 (.cells #[.int .u8 23, .int .i64 5, .string ⟨#[]⟩, .slice none 0 0, .slice none 0 0, .int .i64 2, .int .u8 36, .int .i64 0, .string ⟨#[]⟩, .slice none 0 0, .slice (some ⟨A, 0, none⟩) 1 1, .int .i64 1] 30)
      have hx : (V2.alloc (.cells #[.int .u8 23, .int .i64 5, .string ⟨#[]⟩, .slice none 0 0, .slice none 0 0, .int .i64 2, .int .u8 36, .int .i64 0, .string ⟨#[]⟩, .slice none 0 0, .slice (some ⟨A, 0, none⟩) 1 1, .int .i64 1] 30)).heap[A + 1]? = some (.cells #[.int .u8 23, .int .i64 5, .string ⟨#[]⟩, .slice none 0 0, .slice none 0 0, .int .i64 2, .int .u8 36, .int .i64 0, .string ⟨#[]⟩, .slice none 0 0, .slice (some ⟨A, 0, none⟩) 1 1, .int .i64 1] 30 (0, 0)) := hit hs2.symm
      obtain ⟨V3, hV3⟩ : ∃ V, V2.alloc (.cells #[.int .u8 23, .int .i64 5, .string ⟨#[]⟩, .slice none 0 0, .slice none 0 0, .int .i64 2, .int .u8 36, .int .i64 0, .string ⟨#[]⟩, .slice none 0 0, .slice (some ⟨A, 0, none⟩) 1 1, .int .i64 1] 30) = V := ⟨_, rfl⟩
      rw [hV3] at hal hx
      have b3 := b2.trans (hal.mono b2.size)
      obtain ⟨qs, hqs⟩ : ∃ qs : List R3, [(leafN, Value.slice none 0 0, Value.slice none 0 0), (nItem a, Value.slice none 0 0, Value.slice (some ⟨A, 0, none⟩) 1 1)] = qs := ⟨_, rfl⟩
      have HQ := Lib.hid (show qs.length = 2 ∧ qs.map (·.1) = [leafN, nItem a] ∧ (∀ r ∈ qs, Sub V3 r) ∧ (∀ (j : Nat) (u : Value), (rowCells qs)[j]? = some u → V3.cell? ⟨A + 1, j, none⟩ = some u) ∧ (∀ r ∈ qs, Kid r) ∧ (∀ r ∈ qs, r.2.2.ownBlock = none ∨ r.2.2.ownBlock = some A) from by
        subst hqs
        refine ⟨rfl, rfl, fun r hr => ?_, cells_lit hx rfl, fun r hr => ?_, fun r hr => ?_⟩
        all_goals simp only [List.mem_cons, List.not_mem_nil, or_false] at hr
        · rcases hr with rfl | rfl
          · exact ⟨nilRow, nilRow⟩
          · exact ⟨nilRow, own_lit (Nat.zero_le _) ((hal.block _ (by omega)).trans hx1) rfl one⟩
        · rcases hr with rfl | rfl
          · exact .inl rfl
          · exact .inr ⟨A, j, rfl, by rw [← HC.out.2.2]; rfl⟩
        · rcases hr with rfl | rfl
          · exact .inl rfl
          · exact .inr rfl)
      have HO2 := Lib.hid (HO1.out.below b3)
      have HROW3 := Lib.hid (own_below5 HROW.out b3)
      have HB3 := Lib.hid (show Below w0.heap.size w0 V3 ∧ Z ≤ V3.heap.size from ⟨HB1.out.1.trans (b3.mono HB1.out.1.size), Nat.le_trans HB1.out.2 b3.size⟩)
      have HA := Lib.hid (show wr.heap.size ≤ A from by rw [← hA]; exact b1.size)
      clear hal hal1 hx hx1 hqs b1 b2 b3
      go_wp2_with (at_builtin; refine wpList_append_rows rfl (.tmp 162) (.tmp 168) rfl Z _ rs qs rfl HO2.out HQ.out.2.2.1 (A + 1) 2 2 HQ.out.1 rfl HQ.out.2.2.2.1 ?z1 ?z2 ?_)
      case z1 => have := HRS.out; have := HQ.out.1; omega
      case z2 => exact HB3.out.2
      intro v' w' ho hb hg
      have HRW := Lib.hid (HROW3.out.kept hg (ownBlock_ne HROW3.out HO2.out.1 (by decide)))
      have HO4 := Lib.hid ho
      have HB4 := Lib.hid (show Below w0.heap.size w0 w' ∧ Z ≤ w'.heap.size from ⟨HB3.out.1.trans (hb.mono HZ.out.2), Nat.le_trans HB3.out.2 hb.size⟩)
      clear ho hb hg HO1 HB1 HO2 HROW3 hA hV2 hV3 hs2
      go_wp2_with (at_builtin; refine wpList_append_one rfl (.tmp 170) (.tmp 174) 28 rfl Z 3 (.int .i64 0) 8 Try.underlying28 infoInt rfl (.slice av j cv) j _ rfl HRW.out (.int .i64 b) rfl rfl ?z1 ?z2 ?z3 ?_)
      case z1 => unfold maxLen; omega
      case z2 => omega
      case z3 => exact HB4.out.2
      intro v2 w2 ho hg
      have hal := grow1 w' (.cells #[.int .i64 b] 3)
      have hrow2 := own_below5 HRW.out hal
      have hO5 : OwnNd w2 Z v' (rs ++ qs) := by
        refine (HO4.out.below hal).keptI hrow2 hg (fun r hr => ?_)
        rcases List.mem_append.1 hr with h1 | h1
        · have hj0 : 0 < j := by
            cases j with
            | zero =>
              have := HRS.out
              rw [List.length_eq_zero_iff.1 (show rs.length = 0 by omega)] at h1
              cases h1
            | succ j => exact Nat.succ_pos _
          exact kid_ne ((HO4.out.below hal).2 r hr) (HK.out r h1) hj0 hrow2
        · rcases HQ.out.2.2.2.2.2 r h1 with h2 | h2
          · exact .inl h2
          · right
            rw [h2]
            intro he
            have h3 := (HROW.out.lt A he.symm).2
            have := HA.out
            omega
      have HO5 := Lib.hid (show OwnNd w2 Z v' (rs ++ qs) ∧ (rs ++ qs).map (·.1) = big (j + 1) ∧ (∀ r ∈ rs ++ qs, Kid r) from ⟨hO5, by rw [List.map_append, HM.out, HQ.out.2.1, HC.out.1], fun r hr => (List.mem_append.1 hr).elim (HK.out r) (HQ.out.2.2.2.2.1 r)⟩)
      have hbl : Below Z w' w2 := below_appended HRW.out hg HB4.out.2
      have HR5 := Lib.hid (show w2.ownsRow Z 3 1 v2 (j + 1) ((items (j + 1)).map (.int .i64)) ∧ Below w0.heap.size w0 w2 ∧ Z ≤ w2.heap.size from ⟨by rw [HC.out.2.1, List.map_append]; exact ho, HB4.out.1.trans (hbl.mono HZ.out.2), Nat.le_trans HB4.out.2 hbl.size⟩)
      clear ho hg hal hrow2 hO5 hbl
      go_wp2_with fail
      go_roundg (2046 - (j + 1))
      case measure => omega
      case rel => exact ⟨j + 1, _, rfl, by first | rfl | (rw [jw]) | simp [jw], by omega, HO5.out.1, HO5.out.2.1, HO5.out.2.2, HR5.out⟩
    · obtain rfl : j = 2046 := by omega
      have hjl' : ¬ ((2046 : Nat) : Int) < 2046 := by omega
      have HX := Lib.hid (show OwnNd wr Z _ rs ∧ rs.map (·.1) = big 2046 ∧ (∀ r ∈ rs, Kid r) ∧ wr.ownsRow Z 3 1 _ 2046 ((items 2046).map (.int .i64)) ∧ Below w0.heap.size w0 wr from ⟨ho, hm, hkid, hrow, hb⟩)
      clear ho hm hb hz hkid hrow
      go_wp2_with fail
      exact hQ _ _ _ _ _ _ _ _ _ _ _ _ _ _ _ _ _ _ _ _ _ _ rs HX.out.1 HX.out.2.1 HX.out.2.2.1 HX.out.2.2.2.1 HX.out.2.2.2.2

end Go.Proofs.Ytmddffacjkkeiaa.Nd
