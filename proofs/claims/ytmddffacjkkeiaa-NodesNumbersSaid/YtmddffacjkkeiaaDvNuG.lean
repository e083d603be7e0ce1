/-
  Layer 5: NodesNumbers, a table of too many items.
-/
import Derived.Test.YtmddffacjkkeiaaDvFam3
import Derived.Deep.CutBlock
import Derived.Deep.DeepCutAuto
namespace Go.Proofs.Ytmddffacjkkeiaa.Nd
open Go Go.RowKit Go.ChangeShapes Go.WideShapes Go.Shelf
open Go.Proofs.Ytmddffacjkkeiaa.Rf

set_option maxRecDepth 100000 in
set_option maxHeartbeats 4000000 in
theorem reg_36 {Q : Exit → Act → World → Prop} {p0 p1 p2 p3 p4 p5 p6 p7 p8 p9 p10 p11 p12 p13 p14 p17 p18 p19 p20 p21 p22 p23 p24 p25 p26 p27 p28 p29 p30 p31 p32 p33 p34 p35 p36 p37 p38 p39 p40 p41 p42 p43 p44 p45 p46 p47 p48 p49 p50 p51 p52 p53 p54 p55 p56 p57 p58 p59 p60 p61 p62 p63 p64 p65 p66 p67 p68 p69 p70 p71 p72 p73 p74 p75 p76 p77 p78 p79 p80 p81 p82 p83 p84 p85 p86 p87 p88 p89 p90 p91 p92 p93 p94 p95 p96 p97 p98 p99 p100 p101 p102 p103 p104 p105 p106 p107 p108 p109 p110 p111 p112 p113 p114 p115 p116 p117 p118 p119 p120 p121 p122 p123 p124 p125 p126 p127 p128 p129 p130 p131 p132 p133 p134 p135 p136 p137 p138 p139 p140 p141 p142 p143 p144 p145 p146 p147 p148 p149 p150 p151 p152 p153 p154 p155 p156 p157 p158 p159 p160 p161 p162 p163 p164 p165 p166 p167 p168 p169 p170 p171 p172 p173 p174 p175 p176 p177 p178 p179 p180 p181 p182 p183 p184 p185 p186 p187 p188 p189 p190 p191 p192 p193 p194 p195 p196 p197 p198 p199 p200 p201 p202 p203 p204 p205 p206 p207 p208 p209 p210 p211 p212 p213 p214 p215 p216 p217 p218 p219 p220 p221 p222 p223 p224 p225 p226 p227 p228 p229 p230 p231 p232 p233 p234 p235 p236 p237 p238 p239 : Value} {gl cl gi ci : Nat} {rs : List R3} (w : World) (ho : OwnNd w 0 (.slice (some ⟨gl, 0, none⟩) 4092 cl) rs) (hm : rs.map (·.1) = big 2046) (hi : w.ownsRow 0 3 1 (.slice (some ⟨gi, 0, none⟩) 2046 ci) 2046 ((items 2046).map (.int .i64))) (hkid : ∀ r ∈ rs, Kid r)
    (hQ : ∀ (y20 y197 y198 y199 y200 y201 y202 y203 y204 y205 y206 y207 y208 y209 y210 : Value) (wx : World), ∀ qs : List R3, OwnNd wx 0 y20 qs → qs.map (·.1) = over → Below w.heap.size w wx → Q .normal ⟨#[p0, p1, p2, p3, p4, p5, p6, p7, p8, p9, p10, p11, p12, p13, p14, .slice (some ⟨gl, 0, none⟩) 4092 cl, .slice (some ⟨gi, 0, none⟩) 2046 ci, p17, p18, p19, y20, p21, p22, p23, p24, p25, p26, p27, p28, p29, p30, p31, p32, p33, p34, p35, p36, p37, p38, p39, p40, p41, p42, p43, p44, p45, p46, p47, p48, p49, p50, p51, p52, p53, p54, p55, p56, p57, p58, p59, p60, p61, p62, p63, p64, p65, p66, p67, p68, p69, p70, p71, p72, p73, p74, p75, p76, p77, p78, p79, p80, p81, p82, p83, p84, p85, p86, p87, p88, p89, p90, p91, p92, p93, p94, p95, p96, p97, p98, p99, p100, p101, p102, p103, p104, p105, p106, p107, p108, p109, p110, p111, p112, p113, p114, p115, p116, p117, p118, p119, p120, p121, p122, p123, p124, p125, p126, p127, p128, p129, p130, p131, p132, p133, p134, p135, p136, p137, p138, p139, p140, p141, p142, p143, p144, p145, p146, p147, p148, p149, p150, p151, p152, p153, p154, p155, p156, p157, p158, p159, p160, p161, p162, p163, p164, p165, p166, p167, p168, p169, p170, p171, p172, p173, p174, p175, p176, p177, p178, p179, p180, p181, p182, p183, p184, p185, p186, p187, p188, p189, p190, p191, p192, p193, p194, p195, p196, y197, y198, y199, y200, y201, y202, y203, y204, y205, y206, y207, y208, y209, y210, p211, p212, p213, p214, p215, p216, p217, p218, p219, p220, p221, p222, p223, p224, p225, p226, p227, p228, p229, p230, p231, p232, p233, p234, p235, p236, p237, p238, p239], []⟩ wx) :
    Code.wp Try.prog (rg 36) Q ⟨#[p0, p1, p2, p3, p4, p5, p6, p7, p8, p9, p10, p11, p12, p13, p14, .slice (some ⟨gl, 0, none⟩) 4092 cl, .slice (some ⟨gi, 0, none⟩) 2046 ci, p17, p18, p19, p20, p21, p22, p23, p24, p25, p26, p27, p28, p29, p30, p31, p32, p33, p34, p35, p36, p37, p38, p39, p40, p41, p42, p43, p44, p45, p46, p47, p48, p49, p50, p51, p52, p53, p54, p55, p56, p57, p58, p59, p60, p61, p62, p63, p64, p65, p66, p67, p68, p69, p70, p71, p72, p73, p74, p75, p76, p77, p78, p79, p80, p81, p82, p83, p84, p85, p86, p87, p88, p89, p90, p91, p92, p93, p94, p95, p96, p97, p98, p99, p100, p101, p102, p103, p104, p105, p106, p107, p108, p109, p110, p111, p112, p113, p114, p115, p116, p117, p118, p119, p120, p121, p122, p123, p124, p125, p126, p127, p128, p129, p130, p131, p132, p133, p134, p135, p136, p137, p138, p139, p140, p141, p142, p143, p144, p145, p146, p147, p148, p149, p150, p151, p152, p153, p154, p155, p156, p157, p158, p159, p160, p161, p162, p163, p164, p165, p166, p167, p168, p169, p170, p171, p172, p173, p174, p175, p176, p177, p178, p179, p180, p181, p182, p183, p184, p185, p186, p187, p188, p189, p190, p191, p192, p193, p194, p195, p196, p197, p198, p199, p200, p201, p202, p203, p204, p205, p206, p207, p208, p209, p210, p211, p212, p213, p214, p215, p216, p217, p218, p219, p220, p221, p222, p223, p224, p225, p226, p227, p228, p229, p230, p231, p232, p233, p234, p235, p236, p237, p238, p239], []⟩ w := by
  have one : 1 ≤ maxLen := by unfold maxLen; omega
  conv => arg 2; whnf
  obtain ⟨E, hE⟩ : ∃ E, w.heap.size = E := ⟨_, rfl⟩
  have hal := grow1 w (.cells #[] 30)
  have hx : (w.alloc (.cells #[] 30)).heap[w.heap.size]? = some (.cells #[] 30 (0, 0)) := hit rfl
  obtain ⟨V, hV⟩ : ∃ V, w.alloc (.cells #[] 30) = V := ⟨_, rfl⟩
  rw [hV] at hal hx
  rw [hE] at hx
  have hO0 : OwnNd V E (.slice (some ⟨E, 0, none⟩) 0 0) [] := ⟨own_lit (Nat.le_refl _) hx rfl (Nat.zero_le _), fun r h => by cases h⟩
  have HO0 := Lib.hid hO0
  have HN := Lib.hid (show rs.length = 4092 from by rw [← List.length_map (f := (·.1)), hm, big_len])
  have HM := Lib.hid hm
  obtain ⟨_, _, _, cur, hc, hat⟩ := own_at (show w.ownsRow 0 30 6 (.slice (some ⟨gl, 0, none⟩) 4092 cl) 4092 (rowCells rs) from by have := ho.1; rw [HN.out] at this; exact this)
  have HCELL := Lib.hid (show ∀ (j : Nat) (u : Value), (rowCells rs)[j]? = some u → V.cell? ⟨gl, j, none⟩ = some u from fun j u hj => cellS hal (cell_of hc j u (hat j u hj)))
  have HS := Lib.hid (show (∀ r ∈ rs, Sub V r) ∧ V.ownsRow 0 3 1 (.slice (some ⟨gi, 0, none⟩) 2046 ci) 2046 ((items 2046).map (.int .i64)) from ⟨fun r hr => (ho.2 r hr).below hal, own_below5 (ownsRow_base hi (Nat.zero_le _)) hal⟩)
  have HE := Lib.hid (show E ≤ V.heap.size ∧ w.heap.size = E ∧ Below w.heap.size w V from ⟨by rw [← hE]; exact hal.size, hE, hal⟩)
  have HW := Lib.hid (show (∀ r ∈ rs, Sub w r) ∧ (∀ r ∈ rs, Kid r) from ⟨ho.2, hkid⟩)
  clear hal hx hO0 hc hat hm ho hi hkid
  go_wp2_with (at_builtin; refine wpList_append_rows rfl (.tmp 197) (.tmp 198) rfl E (.slice (some ⟨E, 0, none⟩) 0 0) [] rs rfl HO0.out HS.out.1 gl cl 4092 HN.out rfl HCELL.out ?z1 ?z2 ?_)
  case z1 => rw [HN.out]; decide
  case z2 => exact HE.out.1
  intro v1 w1 ho1 hb1 hg1
  have hbw : Below w.heap.size w w1 := HE.out.2.2.trans (by rw [HE.out.2.1]; exact hb1)
  have HI1 := Lib.hid (HS.out.2.kept hg1 (ownBlock_ne HS.out.2 HO0.out.1 (by decide)))
  have HO1 := Lib.hid (show OwnNd w1 E v1 rs from ho1)
  have HB1 := Lib.hid (show Below w.heap.size w w1 ∧ E ≤ w1.heap.size from ⟨hbw, Nat.le_trans HE.out.1 hb1.size⟩)
  clear ho1 hb1 hg1 hbw hE hV HCELL HS HO0
  go_wp2_with fail
  refine (leaf_is _).mono ?_
  rintro e w2 ⟨rfl, b2⟩
  obtain ⟨A, hA⟩ : ∃ A, w2.heap.size = A := ⟨_, rfl⟩
  have hal1 := grow1 w2 (.cells #[.int .i64 4092] 3)
  obtain ⟨V2, hV2⟩ : ∃ V, w2.alloc (.cells #[.int .i64 4092] 3) = V := ⟨_, rfl⟩
  have hx1 : V2.heap[A]? = some (.cells #[.int .i64 4092] 3 (0, 0)) := by rw [← hV2]; exact hit hA.symm
  have hs2 : V2.heap.size = A + 1 := by rw [← hV2, ← hA]; simp
  rw [hV2] at hal1
  have hal2 := grow1 V2 (.cells #[] 3)
  obtain ⟨V3, hV3⟩ : ∃ V, V2.alloc (.cells #[] 3) = V := ⟨_, rfl⟩
  have hx2 : V3.heap[A + 1]? = some (.cells #[] 3 (0, 0)) := by rw [← hV3]; exact hit hs2.symm
  rw [hV3] at hal2
  have b3 := (b2.trans (hal1.mono b2.size)).trans (hal2.mono (b2.trans (hal1.mono b2.size)).size)
  have HO3 := Lib.hid (HO1.out.below b3)
  have HI3 := Lib.hid (own_below5 HI1.out b3)
  have HD3 := Lib.hid (show V3.ownsRow (A + 1) 3 1 (.slice (some ⟨A + 1, 0, none⟩) 0 0) 0 [] from own_lit (Nat.le_refl _) hx2 rfl (Nat.zero_le _))
  have HK3 := Lib.hid (show Sub V3 (nItem 4092, .slice none 0 0, .slice (some ⟨A, 0, none⟩) 1 1) from ⟨nilRow, own_lit (Nat.zero_le _) ((hal2.block _ (by omega)).trans hx1) rfl one⟩)
  have HB3 := Lib.hid (show Below w.heap.size w V3 ∧ E ≤ V3.heap.size ∧ A + 1 ≤ V3.heap.size ∧ E ≤ A from ⟨HB1.out.1.trans (b3.mono HB1.out.1.size), Nat.le_trans HB1.out.2 b3.size, Nat.le_of_lt (lt_of_heap hx2), by rw [← hA]; exact Nat.le_trans HB1.out.2 b2.size⟩)
  obtain ⟨_, _, _, cur, hc, hat⟩ := own_at HI3.out
  have HCELL := Lib.hid (show ∀ (j : Nat) (u : Value), ((items 2046).map (Value.int .i64))[j]? = some u → V3.cell? ⟨gi, j, none⟩ = some u from fun j u hj => cell_of hc j u (hat j u hj))
  clear b2 b3 hal1 hal2 hx1 hx2 hc hat HO1 HI1 HB1
  go_wp2_with (at_builtin; refine wpList_append_ints rfl (.tmp 203) (.tmp 204) rfl (A + 1) (.slice (some ⟨A + 1, 0, none⟩) 0 0) [] (items 2046) rfl HD3.out gi ci 2046 (items_len 2046) rfl HCELL.out ?z1 ?z2 ?_)
  case z1 => rw [items_len]; decide
  case z2 => exact HB3.out.2.2.1
  intro v5 w5 ho hg
  have HD5 := Lib.hid (show w5.ownsRow (A + 1) 3 1 v5 2046 ((items 2046).map (.int .i64)) from by have := ho; rw [items_len] at this; exact this)
  have HO5 := Lib.hid (show OwnNd w5 E v1 rs from HO3.out.keptI HD3.out hg (fun r hr => kid_below (g := A + 1) (HW.out.1 r hr) (show w.heap.size ≤ A + 1 from by have := HE.out.2.1; have := HB3.out.2.2.2; omega)))
  have HK5 := Lib.hid (show Sub w5 (nItem 4092, .slice none 0 0, .slice (some ⟨A, 0, none⟩) 1 1) from HK3.out.keptI HD3.out hg (.inr (fun he => by simp [Value.ownBlock] at he)))
  have hb5 : Below (A + 1) V3 w5 := below_own HD3.out hg HB3.out.2.2.1
  have HB5 := Lib.hid (show Below w.heap.size w w5 ∧ E ≤ w5.heap.size ∧ A + 1 ≤ w5.heap.size ∧ E ≤ A from ⟨HB3.out.1.trans (hb5.mono (by have := HE.out.2.1; have := HB3.out.2.2.2; omega)), Nat.le_trans HB3.out.2.1 hb5.size, Nat.le_trans HB3.out.2.2.1 hb5.size, HB3.out.2.2.2⟩)
  clear ho hg hb5 HCELL HO3 HI3 HK3 hA hV2 hV3 hs2
  go_wp2_with (at_builtin; refine wpList_append_one rfl (.tmp 205) (.tmp 206) 28 rfl (A + 1) 3 (.int .i64 0) 8 Try.underlying28 infoInt rfl v5 2046 _ rfl HD5.out (.int .i64 4093) rfl rfl ?z1 ?z2 ?z3 ?_)
  case z1 => unfold maxLen; omega
  case z2 => decide
  case z3 => exact HB5.out.2.2.1
  intro v6 w6 ho hg
  have hal := grow1 w5 (.cells #[.int .i64 4093] 3)
  have hrow := own_below5 HD5.out hal
  have HO6 := Lib.hid (show OwnNd w6 E v1 rs from (HO5.out.below hal).keptI hrow hg (fun r hr => kid_ne ((HO5.out.below hal).2 r hr) (HW.out.2 r hr) (by decide) hrow))
  have HK6 := Lib.hid (show Sub w6 (nItem 4092, .slice none 0 0, .slice (some ⟨A, 0, none⟩) 1 1) from (HK5.out.below hal).keptI hrow hg (kid_ne (HK5.out.below hal) (.inr ⟨A, 2046, rfl, rfl⟩) (by decide) hrow))
  obtain ⟨g6, c6, rfl⟩ := own_ne ho (by decide)
  have HT6 := Lib.hid (show Sub w6 (nTable (items 2046 ++ [4093]), .slice none 0 0, .slice (some ⟨g6, 0, none⟩) 2047 c6) from ⟨nilRow, by
    show w6.ownsRow 0 3 1 (.slice (some ⟨g6, 0, none⟩) 2047 c6) (items 2046 ++ [4093]).length ((items 2046 ++ [4093]).map (.int .i64))
    rw [List.length_append, items_len, List.map_append]
    exact ownsRow_base ho (Nat.zero_le _)⟩)
  have hb6 : Below (A + 1) w5 w6 := below_appended HD5.out hg HB5.out.2.2.1
  have HB6 := Lib.hid (show Below w.heap.size w w6 ∧ E ≤ w6.heap.size from ⟨HB5.out.1.trans (hb6.mono (by have := HE.out.2.1; have := HB5.out.2.2.2; omega)), Nat.le_trans HB5.out.2.1 hb6.size⟩)
  clear ho hg hal hrow hb6 HO5 HK5 HD5 HB5 HD3
  have hal := grow1 w6 (.cells #[.int .u8 23, .int .i64 5, .string ⟨#[]⟩, .slice none 0 0, .slice none 0 0, .int .i64 2, .int .u8 36, .int .i64 0, .string ⟨#[]⟩, .slice none 0 0, .slice (some ⟨A, 0, none⟩) 1 1, .int .i64 1, .int .u8 35, .int .i64 0, .string ⟨#[]⟩, .slice none 0 0, .slice (some ⟨g6, 0, none⟩) 2047 c6, .int .i64 1] 30)
  obtain ⟨Y, hY⟩ : ∃ Y, w6.heap.size = Y := ⟨_, rfl⟩
  have hx : (w6.alloc (.cells #[.int .u8 23, .int .i64 5, .string ⟨#[]⟩, .slice none 0 0, .slice none 0 0, .int .i64 2, .int .u8 36, .int .i64 0, .string ⟨#[]⟩, .slice none 0 0, .slice (some ⟨A, 0, none⟩) 1 1, .int .i64 1, .int .u8 35, .int .i64 0, .string ⟨#[]⟩, .slice none 0 0, .slice (some ⟨g6, 0, none⟩) 2047 c6, .int .i64 1] 30)).heap[Y]? = some (.cells #[.int .u8 23, .int .i64 5, .string ⟨#[]⟩, .slice none 0 0, .slice none 0 0, .int .i64 2, .int .u8 36, .int .i64 0, .string ⟨#[]⟩, .slice none 0 0, .slice (some ⟨A, 0, none⟩) 1 1, .int .i64 1, .int .u8 35, .int .i64 0, .string ⟨#[]⟩, .slice none 0 0, .slice (some ⟨g6, 0, none⟩) 2047 c6, .int .i64 1] 30 (0, 0)) := hit hY.symm
  obtain ⟨V7, hV7⟩ : ∃ V, w6.alloc (.cells #[.int .u8 23, .int .i64 5, .string ⟨#[]⟩, .slice none 0 0, .slice none 0 0, .int .i64 2, .int .u8 36, .int .i64 0, .string ⟨#[]⟩, .slice none 0 0, .slice (some ⟨A, 0, none⟩) 1 1, .int .i64 1, .int .u8 35, .int .i64 0, .string ⟨#[]⟩, .slice none 0 0, .slice (some ⟨g6, 0, none⟩) 2047 c6, .int .i64 1] 30) = V := ⟨_, rfl⟩
  rw [hV7] at hal hx
  obtain ⟨qs, hqs⟩ : ∃ qs : List R3, [(leafN, Value.slice none 0 0, Value.slice none 0 0), (nItem 4092, Value.slice none 0 0, Value.slice (some ⟨A, 0, none⟩) 1 1), (nTable (items 2046 ++ [4093]), Value.slice none 0 0, Value.slice (some ⟨g6, 0, none⟩) 2047 c6)] = qs := ⟨_, rfl⟩
  have HQ := Lib.hid (show qs.length = 3 ∧ qs.map (·.1) = [leafN, nItem 4092, nTable (items 2046 ++ [4093])] ∧ (∀ r ∈ qs, Sub V7 r) ∧ (∀ (j : Nat) (u : Value), (rowCells qs)[j]? = some u → V7.cell? ⟨Y, j, none⟩ = some u) from by
    subst hqs
    refine ⟨rfl, rfl, fun r hr => ?_, cells_lit hx rfl⟩
    simp only [List.mem_cons, List.not_mem_nil, or_false] at hr
    rcases hr with rfl | rfl | rfl
    · exact ⟨nilRow, nilRow⟩
    · exact HK6.out.below hal
    · exact HT6.out.below hal)
  have HO7 := Lib.hid (HO6.out.below hal)
  have HB7 := Lib.hid (show Below w.heap.size w V7 ∧ E ≤ V7.heap.size from ⟨HB6.out.1.trans (hal.mono HB6.out.1.size), Nat.le_trans HB6.out.2 hal.size⟩)
  clear hal hx hqs HO6 HK6 HT6 HB6
  go_wp2_with (at_builtin; refine wpList_append_rows rfl (.tmp 199) (.tmp 209) rfl E v1 rs qs rfl HO7.out HQ.out.2.2.1 Y 3 3 HQ.out.1 rfl HQ.out.2.2.2 ?z1 ?z2 ?_)
  case z1 => rw [HN.out, HQ.out.1]; decide
  case z2 => exact HB7.out.2
  intro v9 w9 ho hb hg
  have HX := Lib.hid (show OwnNd w9 0 v9 (rs ++ qs) ∧ List.map (fun x : R3 => x.1) (rs ++ qs) = over ∧ Below w.heap.size w w9 from ⟨ho.low, by rw [List.map_append, HM.out, HQ.out.2.1, over_eq], HB7.out.1.trans (hb.mono (by rw [HE.out.2.1]; exact Nat.le_refl _))⟩)
  clear ho hb hg
  go_wp2_with fail
  exact hQ _ _ _ _ _ _ _ _ _ _ _ _ _ _ _ _ _ HX.out.1 HX.out.2.1 HX.out.2.2

end Go.Proofs.Ytmddffacjkkeiaa.Nd
