/-
  Layer 5: NodesNumbers, the table that is full.
-/
import Derived.Test.YtmddffacjkkeiaaDvFam3
import Derived.Deep.CutBlock
import Derived.Deep.DeepCutAuto
namespace Go.Proofs.Ytmddffacjkkeiaa.Nd
open Go Go.RowKit Go.ChangeShapes Go.WideShapes Go.Shelf
open Go.Proofs.Ytmddffacjkkeiaa.Rf

set_option maxRecDepth 100000 in
set_option maxHeartbeats 4000000 in
theorem reg_34 {Q : Exit → Act → World → Prop} {p0 p1 p2 p3 p4 p5 p6 p7 p8 p9 p10 p11 p12 p13 p14 p17 p18 p19 p20 p21 p22 p23 p24 p25 p26 p27 p28 p29 p30 p31 p32 p33 p34 p35 p36 p37 p38 p39 p40 p41 p42 p43 p44 p45 p46 p47 p48 p49 p50 p51 p52 p53 p54 p55 p56 p57 p58 p59 p60 p61 p62 p63 p64 p65 p66 p67 p68 p69 p70 p71 p72 p73 p74 p75 p76 p77 p78 p79 p80 p81 p82 p83 p84 p85 p86 p87 p88 p89 p90 p91 p92 p93 p94 p95 p96 p97 p98 p99 p100 p101 p102 p103 p104 p105 p106 p107 p108 p109 p110 p111 p112 p113 p114 p115 p116 p117 p118 p119 p120 p121 p122 p123 p124 p125 p126 p127 p128 p129 p130 p131 p132 p133 p134 p135 p136 p137 p138 p139 p140 p141 p142 p143 p144 p145 p146 p147 p148 p149 p150 p151 p152 p153 p154 p155 p156 p157 p158 p159 p160 p161 p162 p163 p164 p165 p166 p167 p168 p169 p170 p171 p172 p173 p174 p175 p176 p177 p178 p179 p180 p181 p182 p183 p184 p185 p186 p187 p188 p189 p190 p191 p192 p193 p194 p195 p196 p197 p198 p199 p200 p201 p202 p203 p204 p205 p206 p207 p208 p209 p210 p211 p212 p213 p214 p215 p216 p217 p218 p219 p220 p221 p222 p223 p224 p225 p226 p227 p228 p229 p230 p231 p232 p233 p234 p235 p236 p237 p238 p239 : Value} {gl cl gi ci : Nat} {rs : List R3} (w : World) (ho : OwnNd w 0 (.slice (some ⟨gl, 0, none⟩) 4092 cl) rs) (hm : rs.map (·.1) = big 2046) (hi : w.ownsRow 0 3 1 (.slice (some ⟨gi, 0, none⟩) 2046 ci) 2046 ((items 2046).map (.int .i64)))
    (hQ : ∀ (y18 y176 y177 y178 y179 y180 y181 y182 : Value) (wx : World), ∀ qs : List R3, OwnNd wx 0 y18 qs → qs.map (·.1) = full → Below w.heap.size w wx → Q .normal ⟨#[p0, p1, p2, p3, p4, p5, p6, p7, p8, p9, p10, p11, p12, p13, p14, .slice (some ⟨gl, 0, none⟩) 4092 cl, .slice (some ⟨gi, 0, none⟩) 2046 ci, p17, y18, p19, p20, p21, p22, p23, p24, p25, p26, p27, p28, p29, p30, p31, p32, p33, p34, p35, p36, p37, p38, p39, p40, p41, p42, p43, p44, p45, p46, p47, p48, p49, p50, p51, p52, p53, p54, p55, p56, p57, p58, p59, p60, p61, p62, p63, p64, p65, p66, p67, p68, p69, p70, p71, p72, p73, p74, p75, p76, p77, p78, p79, p80, p81, p82, p83, p84, p85, p86, p87, p88, p89, p90, p91, p92, p93, p94, p95, p96, p97, p98, p99, p100, p101, p102, p103, p104, p105, p106, p107, p108, p109, p110, p111, p112, p113, p114, p115, p116, p117, p118, p119, p120, p121, p122, p123, p124, p125, p126, p127, p128, p129, p130, p131, p132, p133, p134, p135, p136, p137, p138, p139, p140, p141, p142, p143, p144, p145, p146, p147, p148, p149, p150, p151, p152, p153, p154, p155, p156, p157, p158, p159, p160, p161, p162, p163, p164, p165, p166, p167, p168, p169, p170, p171, p172, p173, p174, p175, y176, y177, y178, y179, y180, y181, y182, p183, p184, p185, p186, p187, p188, p189, p190, p191, p192, p193, p194, p195, p196, p197, p198, p199, p200, p201, p202, p203, p204, p205, p206, p207, p208, p209, p210, p211, p212, p213, p214, p215, p216, p217, p218, p219, p220, p221, p222, p223, p224, p225, p226, p227, p228, p229, p230, p231, p232, p233, p234, p235, p236, p237, p238, p239], []⟩ wx) :
    Code.wp Try.prog (rg 34) Q ⟨#[p0, p1, p2, p3, p4, p5, p6, p7, p8, p9, p10, p11, p12, p13, p14, .slice (some ⟨gl, 0, none⟩) 4092 cl, .slice (some ⟨gi, 0, none⟩) 2046 ci, p17, p18, p19, p20, p21, p22, p23, p24, p25, p26, p27, p28, p29, p30, p31, p32, p33, p34, p35, p36, p37, p38, p39, p40, p41, p42, p43, p44, p45, p46, p47, p48, p49, p50, p51, p52, p53, p54, p55, p56, p57, p58, p59, p60, p61, p62, p63, p64, p65, p66, p67, p68, p69, p70, p71, p72, p73, p74, p75, p76, p77, p78, p79, p80, p81, p82, p83, p84, p85, p86, p87, p88, p89, p90, p91, p92, p93, p94, p95, p96, p97, p98, p99, p100, p101, p102, p103, p104, p105, p106, p107, p108, p109, p110, p111, p112, p113, p114, p115, p116, p117, p118, p119, p120, p121, p122, p123, p124, p125, p126, p127, p128, p129, p130, p131, p132, p133, p134, p135, p136, p137, p138, p139, p140, p141, p142, p143, p144, p145, p146, p147, p148, p149, p150, p151, p152, p153, p154, p155, p156, p157, p158, p159, p160, p161, p162, p163, p164, p165, p166, p167, p168, p169, p170, p171, p172, p173, p174, p175, p176, p177, p178, p179, p180, p181, p182, p183, p184, p185, p186, p187, p188, p189, p190, p191, p192, p193, p194, p195, p196, p197, p198, p199, p200, p201, p202, p203, p204, p205, p206, p207, p208, p209, p210, p211, p212, p213, p214, p215, p216, p217, p218, p219, p220, p221, p222, p223, p224, p225, p226, p227, p228, p229, p230, p231, p232, p233, p234, p235, p236, p237, p238, p239], []⟩ w := by
  have one : 1 ≤ maxLen := by unfold maxLen; omega
  conv => arg 2; whnf
  have HB := Lib.hid (Below.refl w.heap.size w)
  obtain ⟨E, hE⟩ : ∃ E, w.heap.size = E := ⟨_, rfl⟩
  have hal := grow1 w (.cells #[] 30)
  have hx : (w.alloc (.cells #[] 30)).heap[w.heap.size]? = some (.cells #[] 30 (0, 0)) := hit rfl
  obtain ⟨V, hV⟩ : ∃ V, w.alloc (.cells #[] 30) = V := ⟨_, rfl⟩
  rw [hV] at hal hx
  rw [hE] at hx
  have hO0 : OwnNd V E (.slice (some ⟨E, 0, none⟩) 0 0) [] := ⟨own_lit (Nat.le_refl _) hx rfl (Nat.zero_le _), fun r h => by cases h⟩
  have HO0 := Lib.hid hO0
  have HN := Lib.hid (show rs.length = 4092 from by rw [← List.length_map (f := (·.1)), hm, big_len])
  have HM := Lib.hid hm
  obtain ⟨_, _, _, cur, hc, hat⟩ := own_at (show w.ownsRow 0 30 6 (.slice (some ⟨gl, 0, none⟩) 4092 cl) 4092 (rowCells rs) from by have := ho.1; rw [HN.out] at this; exact this)
  have HCELL := Lib.hid (show ∀ (j : Nat) (u : Value), (rowCells rs)[j]? = some u → V.cell? ⟨gl, j, none⟩ = some u from fun j u hj => cellS hal (cell_of hc j u (hat j u hj)))
  have HS := Lib.hid (show (∀ r ∈ rs, Sub V r) ∧ V.ownsRow 0 3 1 (.slice (some ⟨gi, 0, none⟩) 2046 ci) 2046 ((items 2046).map (.int .i64)) from ⟨fun r hr => (ho.2 r hr).below hal, own_below5 (ownsRow_base hi (Nat.zero_le _)) hal⟩)
  have HE := Lib.hid (show E ≤ V.heap.size ∧ w.heap.size = E ∧ Below w.heap.size w V from ⟨by rw [← hE]; exact hal.size, hE, hal⟩)
  clear hal hx hO0 hc hat hm ho hi
  go_wp2_with (at_builtin; refine wpList_append_rows rfl (.tmp 176) (.tmp 177) rfl E (.slice (some ⟨E, 0, none⟩) 0 0) [] rs rfl HO0.out HS.out.1 gl cl 4092 HN.out rfl HCELL.out ?z1 ?z2 ?_)
  case z1 => rw [HN.out]; decide
  case z2 => exact HE.out.1
  intro v1 w1 ho1 hb1 hg1
  have hbw : Below w.heap.size w w1 := HE.out.2.2.trans (by rw [HE.out.2.1]; exact hb1)
  have HI1 := Lib.hid (show Sub w1 (nTable (items 2046), .slice none 0 0, .slice (some ⟨gi, 0, none⟩) 2046 ci) from ⟨nilRow, by show w1.ownsRow 0 3 1 (.slice (some ⟨gi, 0, none⟩) 2046 ci) (items 2046).length ((items 2046).map (.int .i64)); rw [items_len]; exact (HS.out.2.kept hg1 (ownBlock_ne HS.out.2 HO0.out.1 (by decide)))⟩)
  have HO1 := Lib.hid ho1
  have HB1 := Lib.hid (show Below w.heap.size w w1 ∧ E ≤ w1.heap.size from ⟨hbw, Nat.le_trans HE.out.1 hb1.size⟩)
  clear ho1 hb1 hg1 hbw hE hV HCELL
  go_wp2_with (at_builtin; refine wpList_append_node rfl (.tmp 178) (.tmp 181) rfl E v1 ([] ++ rs) (nTable (items 2046), .slice none 0 0, .slice (some ⟨gi, 0, none⟩) 2046 ci) rfl HO1.out HI1.out _ rfl ?z1 ?z2 ?z3 ?_)
  case z1 => rfl
  case z2 => have := HN.out; simp only [List.nil_append]; omega
  case z3 => exact HB1.out.2
  intro v2 w2 ho2 hb2
  have HO2 := Lib.hid (show OwnNd w2 0 v2 ([] ++ rs ++ [(nTable (items 2046), .slice none 0 0, .slice (some ⟨gi, 0, none⟩) 2046 ci)]) ∧ List.map (fun x : R3 => x.1) ([] ++ rs ++ [((nTable (items 2046) : Nd), Value.slice none 0 0, Value.slice (some ⟨gi, 0, none⟩) 2046 ci)]) = full ∧ Below w.heap.size w w2 from ⟨ho2.low, by rw [List.nil_append, List.map_append, HM.out]; rfl, HB1.out.1.trans (hb2.mono (by rw [HE.out.2.1]; exact Nat.le_refl _))⟩)
  clear ho2 hb2
  go_wp2_with fail
  exact hQ _ _ _ _ _ _ _ _ _ _ HO2.out.1 HO2.out.2.1 HO2.out.2.2

set_option maxRecDepth 100000 in
set_option maxHeartbeats 4000000 in
theorem reg_35 {Q : Exit → Act → World → Prop} {p0 p1 p2 p3 p4 p5 p6 p7 p8 p9 p10 p11 p12 p14 p15 p16 p17 p19 p20 p21 p22 p23 p24 p25 p26 p27 p28 p29 p30 p31 p32 p33 p34 p35 p36 p37 p38 p39 p40 p41 p42 p43 p44 p45 p46 p47 p48 p49 p50 p51 p52 p53 p54 p55 p56 p57 p58 p59 p60 p61 p62 p63 p64 p65 p66 p67 p68 p69 p70 p71 p72 p73 p74 p75 p76 p77 p78 p79 p80 p81 p82 p83 p84 p85 p86 p87 p88 p89 p90 p91 p92 p93 p94 p95 p96 p97 p98 p99 p100 p101 p102 p103 p104 p105 p106 p107 p108 p109 p110 p111 p112 p113 p114 p115 p116 p117 p118 p119 p120 p121 p122 p123 p124 p125 p126 p127 p128 p129 p130 p131 p132 p133 p134 p135 p136 p137 p138 p139 p140 p141 p142 p143 p144 p145 p146 p147 p148 p149 p150 p151 p152 p153 p154 p155 p156 p157 p158 p159 p160 p161 p162 p163 p164 p165 p166 p167 p168 p169 p170 p171 p172 p173 p174 p175 p176 p177 p178 p179 p180 p181 p182 p183 p184 p185 p186 p187 p188 p189 p190 p191 p192 p193 p194 p195 p196 p197 p198 p199 p200 p201 p202 p203 p204 p205 p206 p207 p208 p209 p210 p211 p212 p213 p214 p215 p216 p217 p218 p219 p220 p221 p222 p223 p224 p225 p226 p227 p228 p229 p230 p231 p232 p233 p234 p235 p236 p237 p238 p239 : Value} {gc cc gf cf : Nat} {crs frs : List R3} (w : World) (hc : OwnNd w 0 (.slice (some ⟨gc, 0, none⟩) 1201 cc) crs ∧ crs.map (·.1) = chain 600) (hf : OwnNd w 0 (.slice (some ⟨gf, 0, none⟩) 4093 cf) frs ∧ frs.map (·.1) = full)
    (hQ : ∀ (y183 y184 y185 y186 y187 y188 y189 y190 y191 y192 y193 y194 y195 y196 : Value) (wx : World), Below w.heap.size w wx → Q .normal ⟨#[p0, p1, p2, p3, p4, p5, p6, p7, p8, p9, p10, p11, p12, .slice (some ⟨gc, 0, none⟩) 1201 cc, p14, p15, p16, p17, .slice (some ⟨gf, 0, none⟩) 4093 cf, .bool true, p20, p21, p22, p23, p24, p25, p26, p27, p28, p29, p30, p31, p32, p33, p34, p35, p36, p37, p38, p39, p40, p41, p42, p43, p44, p45, p46, p47, p48, p49, p50, p51, p52, p53, p54, p55, p56, p57, p58, p59, p60, p61, p62, p63, p64, p65, p66, p67, p68, p69, p70, p71, p72, p73, p74, p75, p76, p77, p78, p79, p80, p81, p82, p83, p84, p85, p86, p87, p88, p89, p90, p91, p92, p93, p94, p95, p96, p97, p98, p99, p100, p101, p102, p103, p104, p105, p106, p107, p108, p109, p110, p111, p112, p113, p114, p115, p116, p117, p118, p119, p120, p121, p122, p123, p124, p125, p126, p127, p128, p129, p130, p131, p132, p133, p134, p135, p136, p137, p138, p139, p140, p141, p142, p143, p144, p145, p146, p147, p148, p149, p150, p151, p152, p153, p154, p155, p156, p157, p158, p159, p160, p161, p162, p163, p164, p165, p166, p167, p168, p169, p170, p171, p172, p173, p174, p175, p176, p177, p178, p179, p180, p181, p182, y183, y184, y185, y186, y187, y188, y189, y190, y191, y192, y193, y194, y195, y196, p197, p198, p199, p200, p201, p202, p203, p204, p205, p206, p207, p208, p209, p210, p211, p212, p213, p214, p215, p216, p217, p218, p219, p220, p221, p222, p223, p224, p225, p226, p227, p228, p229, p230, p231, p232, p233, p234, p235, p236, p237, p238, p239], []⟩ wx) :
    Code.wp Try.prog (rg 35) Q ⟨#[p0, p1, p2, p3, p4, p5, p6, p7, p8, p9, p10, p11, p12, .slice (some ⟨gc, 0, none⟩) 1201 cc, p14, p15, p16, p17, .slice (some ⟨gf, 0, none⟩) 4093 cf, p19, p20, p21, p22, p23, p24, p25, p26, p27, p28, p29, p30, p31, p32, p33, p34, p35, p36, p37, p38, p39, p40, p41, p42, p43, p44, p45, p46, p47, p48, p49, p50, p51, p52, p53, p54, p55, p56, p57, p58, p59, p60, p61, p62, p63, p64, p65, p66, p67, p68, p69, p70, p71, p72, p73, p74, p75, p76, p77, p78, p79, p80, p81, p82, p83, p84, p85, p86, p87, p88, p89, p90, p91, p92, p93, p94, p95, p96, p97, p98, p99, p100, p101, p102, p103, p104, p105, p106, p107, p108, p109, p110, p111, p112, p113, p114, p115, p116, p117, p118, p119, p120, p121, p122, p123, p124, p125, p126, p127, p128, p129, p130, p131, p132, p133, p134, p135, p136, p137, p138, p139, p140, p141, p142, p143, p144, p145, p146, p147, p148, p149, p150, p151, p152, p153, p154, p155, p156, p157, p158, p159, p160, p161, p162, p163, p164, p165, p166, p167, p168, p169, p170, p171, p172, p173, p174, p175, p176, p177, p178, p179, p180, p181, p182, p183, p184, p185, p186, p187, p188, p189, p190, p191, p192, p193, p194, p195, p196, p197, p198, p199, p200, p201, p202, p203, p204, p205, p206, p207, p208, p209, p210, p211, p212, p213, p214, p215, p216, p217, p218, p219, p220, p221, p222, p223, p224, p225, p226, p227, p228, p229, p230, p231, p232, p233, p234, p235, p236, p237, p238, p239], []⟩ w := by
  have one : 1 ≤ maxLen := by unfold maxLen; omega
  conv => arg 2; whnf
  have HC := Lib.hid hc
  have HF := Lib.hid hf
  clear hc hf
  go_wp2_with fail
  refine (ret_lit (m := 1201) crs (chain 600) 1203 _ HC.out.1 HC.out.2 (chain_len 600) (by decide) (by decide) (by decide)).mono ?_
  rintro e w1 ⟨g1, n1, c1, rfl, hn1, hS1, b1⟩
  have HR := Lib.hid (hS1.says (root := 1203) true chain_b (ret_fine (chain_fine 600 (by decide)) (by rw [chain_len]; decide) (by rw [chain_len]; decide)) (by rw [ret_len, chain_len]; decide) (by decide) w1 (Below.refl _ _))
  have HB := Lib.hid b1
  clear hn1 hS1 b1
  go_wp2_with fail
  refine HR.out.mono ?_
  rintro e w2 ⟨rfl, b2⟩
  replace HB := Lib.hid (HB.out.trans (b2.mono HB.out.size))
  have HF2 := Lib.hid (HF.out.1.below HB.out)
  clear b2 HR
  go_wp2_with fail
  refine (ret_lit (m := 4093) frs full 4095 _ HF2.out HF.out.2 full_len (by decide) (by decide) (by decide)).mono ?_
  rintro e w3 ⟨g3, n3, c3, rfl, hn3, hS3, b3⟩
  have HR := Lib.hid (hS3.says (root := 4095) true full_b (ret_fine (table_fine 2046 (by decide)) (by rw [full_len]; decide) (by rw [full_len]; decide)) (by rw [ret_len, full_len]; decide) (by decide) w3 (Below.refl _ _))
  replace HB := Lib.hid (HB.out.trans (b3.mono HB.out.size))
  clear hn3 hS3 b3
  go_wp2_with fail
  refine HR.out.mono ?_
  rintro e w4 ⟨rfl, b4⟩
  replace HB := Lib.hid (HB.out.trans (b4.mono HB.out.size))
  clear b4 HR
  go_wp2_with fail
  exact HB.out

end Go.Proofs.Ytmddffacjkkeiaa.Nd
