/-
  Layer 5: NodesNumbers, what Right tells of the literals, and of parentheses.
-/
import Derived.Test.YtmddffacjkkeiaaDvFam3
import Derived.Deep.CutBlock
import Derived.Deep.DeepCutAuto
namespace Go.Proofs.Ytmddffacjkkeiaa.Nd
open Go Go.RowKit Go.ChangeShapes Go.WideShapes Go.Shelf
open Go.Proofs.Ytmddffacjkkeiaa.Rf

set_option maxRecDepth 100000 in
set_option maxHeartbeats 4000000 in
theorem reg_9 {Q : Exit → Act → World → Prop} {p0 p9 p10 p11 p12 p13 p14 p15 p16 p17 p18 p19 p20 p21 p22 p23 p24 p25 p26 p27 p28 p29 p30 p31 p32 p33 p34 p35 p36 p37 p38 p39 p40 p41 p42 p43 p44 p45 p46 p47 p48 p49 p50 p51 p52 p53 p54 p55 p56 p57 p58 p59 p60 p61 p62 p63 p64 p65 p66 p67 p68 p69 p70 p71 p72 p73 p74 p75 p76 p77 p78 p79 p80 p81 p82 p83 p84 p85 p86 p87 p88 p89 p90 p91 p92 p93 p94 p95 p96 p97 p98 p99 p100 p101 p102 p103 p104 p105 p106 p107 p108 p109 p110 p111 p112 p113 p114 p115 p116 p117 p118 p119 p120 p121 p122 p123 p124 p125 p126 p127 p128 p129 p130 p131 p132 p133 p134 p135 p136 p137 p138 p139 p140 p141 p142 p143 p144 p145 p146 p147 p148 p149 p150 p151 p152 p153 p154 p155 p156 p157 p158 p159 p160 p161 p162 p163 p164 p165 p166 p167 p168 p169 p170 p171 p172 p173 p174 p175 p176 p177 p178 p179 p180 p181 p182 p183 p184 p185 p186 p187 p188 p189 p190 p191 p192 p193 p194 p195 p196 p197 p198 p199 p200 p201 p202 p203 p204 p205 p206 p207 p208 p209 p210 p211 p212 p213 p214 p215 p216 p217 p218 p219 p220 p221 p222 p223 p224 p225 p226 p227 p228 p229 p230 p231 p232 p233 p234 p235 p236 p237 p238 p239 : Value} {B1 g1 n1 c1 B2 g2 n2 c2 B3 g3 n3 c3 B4 g4 n4 c4 B5 g5 n5 c5 B6 g6 n6 c6 B7 g7 n7 c7 B8 g8 n8 c8 : Nat} (w : World) (Y1 : ∀ W, Below w.heap.size w W → W.cell? ⟨B1, 0, none⟩ = some (.slice (some ⟨g1, 0, none⟩) n1 c1) ∧ W.cell? ⟨B1, 1, none⟩ = some (.int .i64 7) ∧ Calls Try.prog 8 #[.agg #[.slice (some ⟨g1, 0, none⟩) n1 c1, .int .i64 7]] W fun e w' => e = .returned (.bool false) ∧ Below W.heap.size W w') (Y2 : ∀ W, Below w.heap.size w W → W.cell? ⟨B2, 0, none⟩ = some (.slice (some ⟨g2, 0, none⟩) n2 c2) ∧ W.cell? ⟨B2, 1, none⟩ = some (.int .i64 8) ∧ Calls Try.prog 8 #[.agg #[.slice (some ⟨g2, 0, none⟩) n2 c2, .int .i64 8]] W fun e w' => e = .returned (.bool true) ∧ Below W.heap.size W w') (Y3 : ∀ W, Below w.heap.size w W → W.cell? ⟨B3, 0, none⟩ = some (.slice (some ⟨g3, 0, none⟩) n3 c3) ∧ W.cell? ⟨B3, 1, none⟩ = some (.int .i64 7) ∧ Calls Try.prog 8 #[.agg #[.slice (some ⟨g3, 0, none⟩) n3 c3, .int .i64 7]] W fun e w' => e = .returned (.bool true) ∧ Below W.heap.size W w') (Y4 : ∀ W, Below w.heap.size w W → W.cell? ⟨B4, 0, none⟩ = some (.slice (some ⟨g4, 0, none⟩) n4 c4) ∧ W.cell? ⟨B4, 1, none⟩ = some (.int .i64 7) ∧ Calls Try.prog 8 #[.agg #[.slice (some ⟨g4, 0, none⟩) n4 c4, .int .i64 7]] W fun e w' => e = .returned (.bool true) ∧ Below W.heap.size W w') (Y5 : ∀ W, Below w.heap.size w W → W.cell? ⟨B5, 0, none⟩ = some (.slice (some ⟨g5, 0, none⟩) n5 c5) ∧ W.cell? ⟨B5, 1, none⟩ = some (.int .i64 7) ∧ Calls Try.prog 8 #[.agg #[.slice (some ⟨g5, 0, none⟩) n5 c5, .int .i64 7]] W fun e w' => e = .returned (.bool false) ∧ Below W.heap.size W w') (Y6 : ∀ W, Below w.heap.size w W → W.cell? ⟨B6, 0, none⟩ = some (.slice (some ⟨g6, 0, none⟩) n6 c6) ∧ W.cell? ⟨B6, 1, none⟩ = some (.int .i64 7) ∧ Calls Try.prog 8 #[.agg #[.slice (some ⟨g6, 0, none⟩) n6 c6, .int .i64 7]] W fun e w' => e = .returned (.bool false) ∧ Below W.heap.size W w') (Y7 : ∀ W, Below w.heap.size w W → W.cell? ⟨B7, 0, none⟩ = some (.slice (some ⟨g7, 0, none⟩) n7 c7) ∧ W.cell? ⟨B7, 1, none⟩ = some (.int .i64 6) ∧ Calls Try.prog 8 #[.agg #[.slice (some ⟨g7, 0, none⟩) n7 c7, .int .i64 6]] W fun e w' => e = .returned (.bool false) ∧ Below W.heap.size W w') (Y8 : ∀ W, Below w.heap.size w W → W.cell? ⟨B8, 0, none⟩ = some (.slice (some ⟨g8, 0, none⟩) n8 c8) ∧ W.cell? ⟨B8, 1, none⟩ = some (.int .i64 6) ∧ Calls Try.prog 8 #[.agg #[.slice (some ⟨g8, 0, none⟩) n8 c8, .int .i64 6]] W fun e w' => e = .returned (.bool true) ∧ Below W.heap.size W w')
    (hQ : ∀ (y80 y81 y82 y83 y84 y85 y86 y87 y88 y89 y90 y91 y92 y93 y94 y95 y96 y97 y98 y99 y100 y101 y102 y103 y104 y105 y106 y107 y108 y109 y110 y111 y112 : Value) (wx : World), Below w.heap.size w wx → Q .normal ⟨#[p0, .pointer (some ⟨B1, 0, none⟩), .pointer (some ⟨B2, 0, none⟩), .pointer (some ⟨B3, 0, none⟩), .pointer (some ⟨B4, 0, none⟩), .pointer (some ⟨B5, 0, none⟩), .pointer (some ⟨B6, 0, none⟩), .pointer (some ⟨B7, 0, none⟩), .pointer (some ⟨B8, 0, none⟩), p9, p10, p11, p12, p13, p14, p15, p16, p17, p18, p19, p20, p21, p22, p23, p24, p25, p26, p27, p28, p29, p30, p31, p32, p33, p34, p35, p36, p37, p38, p39, p40, p41, p42, p43, p44, p45, p46, p47, p48, p49, p50, p51, p52, p53, p54, p55, p56, p57, p58, p59, p60, p61, p62, p63, p64, p65, p66, p67, p68, p69, p70, p71, p72, p73, p74, p75, p76, p77, p78, p79, y80, y81, y82, y83, y84, y85, y86, y87, y88, y89, y90, y91, y92, y93, y94, y95, y96, y97, y98, y99, y100, y101, y102, y103, y104, y105, y106, y107, y108, y109, y110, y111, y112, .bool false, p114, p115, p116, p117, p118, p119, p120, p121, p122, p123, p124, p125, p126, p127, p128, p129, p130, p131, p132, p133, p134, p135, p136, p137, p138, p139, p140, p141, p142, p143, p144, p145, p146, p147, p148, p149, p150, p151, p152, p153, p154, p155, p156, p157, p158, p159, p160, p161, p162, p163, p164, p165, p166, p167, p168, p169, p170, p171, p172, p173, p174, p175, p176, p177, p178, p179, p180, p181, p182, p183, p184, p185, p186, p187, p188, p189, p190, p191, p192, p193, p194, p195, p196, p197, p198, p199, p200, p201, p202, p203, p204, p205, p206, p207, p208, p209, p210, p211, p212, p213, p214, p215, p216, p217, p218, p219, p220, p221, p222, p223, p224, p225, p226, p227, p228, p229, p230, p231, p232, p233, p234, p235, p236, p237, p238, p239], []⟩ wx) :
    Code.wp Try.prog (rg 9) Q ⟨#[p0, .pointer (some ⟨B1, 0, none⟩), .pointer (some ⟨B2, 0, none⟩), .pointer (some ⟨B3, 0, none⟩), .pointer (some ⟨B4, 0, none⟩), .pointer (some ⟨B5, 0, none⟩), .pointer (some ⟨B6, 0, none⟩), .pointer (some ⟨B7, 0, none⟩), .pointer (some ⟨B8, 0, none⟩), p9, p10, p11, p12, p13, p14, p15, p16, p17, p18, p19, p20, p21, p22, p23, p24, p25, p26, p27, p28, p29, p30, p31, p32, p33, p34, p35, p36, p37, p38, p39, p40, p41, p42, p43, p44, p45, p46, p47, p48, p49, p50, p51, p52, p53, p54, p55, p56, p57, p58, p59, p60, p61, p62, p63, p64, p65, p66, p67, p68, p69, p70, p71, p72, p73, p74, p75, p76, p77, p78, p79, p80, p81, p82, p83, p84, p85, p86, p87, p88, p89, p90, p91, p92, p93, p94, p95, p96, p97, p98, p99, p100, p101, p102, p103, p104, p105, p106, p107, p108, p109, p110, p111, p112, p113, p114, p115, p116, p117, p118, p119, p120, p121, p122, p123, p124, p125, p126, p127, p128, p129, p130, p131, p132, p133, p134, p135, p136, p137, p138, p139, p140, p141, p142, p143, p144, p145, p146, p147, p148, p149, p150, p151, p152, p153, p154, p155, p156, p157, p158, p159, p160, p161, p162, p163, p164, p165, p166, p167, p168, p169, p170, p171, p172, p173, p174, p175, p176, p177, p178, p179, p180, p181, p182, p183, p184, p185, p186, p187, p188, p189, p190, p191, p192, p193, p194, p195, p196, p197, p198, p199, p200, p201, p202, p203, p204, p205, p206, p207, p208, p209, p210, p211, p212, p213, p214, p215, p216, p217, p218, p219, p220, p221, p222, p223, p224, p225, p226, p227, p228, p229, p230, p231, p232, p233, p234, p235, p236, p237, p238, p239], []⟩ w := by
  have one : 1 ≤ maxLen := by unfold maxLen; omega
  conv => arg 2; whnf
  have HW := Lib.hid (Below.refl w.heap.size w)
  replace Y1 := Lib.hid Y1
  replace Y2 := Lib.hid Y2
  replace Y3 := Lib.hid Y3
  replace Y4 := Lib.hid Y4
  replace Y5 := Lib.hid Y5
  replace Y6 := Lib.hid Y6
  replace Y7 := Lib.hid Y7
  replace Y8 := Lib.hid Y8
  obtain ⟨x0, x1, c⟩ := Y1.out w HW.out
  have C := Lib.hid c
  clear c
  go_wp2_with fail
  refine C.out.mono ?_
  rintro e W1 ⟨rfl, b⟩
  replace HW := Lib.hid (HW.out.trans (b.mono HW.out.size))
  clear b C x0 x1
  obtain ⟨x0, x1, c⟩ := Y2.out W1 HW.out
  have C := Lib.hid c
  clear c
  go_wp2_with fail
  refine C.out.mono ?_
  rintro e W2 ⟨rfl, b⟩
  replace HW := Lib.hid (HW.out.trans (b.mono HW.out.size))
  clear b C x0 x1
  obtain ⟨x0, x1, c⟩ := Y3.out W2 HW.out
  have C := Lib.hid c
  clear c
  go_wp2_with fail
  refine C.out.mono ?_
  rintro e W3 ⟨rfl, b⟩
  replace HW := Lib.hid (HW.out.trans (b.mono HW.out.size))
  clear b C x0 x1
  obtain ⟨x0, x1, c⟩ := Y4.out W3 HW.out
  have C := Lib.hid c
  clear c
  go_wp2_with fail
  refine C.out.mono ?_
  rintro e W4 ⟨rfl, b⟩
  replace HW := Lib.hid (HW.out.trans (b.mono HW.out.size))
  clear b C x0 x1
  obtain ⟨x0, x1, c⟩ := Y5.out W4 HW.out
  have C := Lib.hid c
  clear c
  go_wp2_with fail
  refine C.out.mono ?_
  rintro e W5 ⟨rfl, b⟩
  replace HW := Lib.hid (HW.out.trans (b.mono HW.out.size))
  clear b C x0 x1
  obtain ⟨x0, x1, c⟩ := Y6.out W5 HW.out
  have C := Lib.hid c
  clear c
  go_wp2_with fail
  refine C.out.mono ?_
  rintro e W6 ⟨rfl, b⟩
  replace HW := Lib.hid (HW.out.trans (b.mono HW.out.size))
  clear b C x0 x1
  obtain ⟨x0, x1, c⟩ := Y7.out W6 HW.out
  have C := Lib.hid c
  clear c
  go_wp2_with fail
  refine C.out.mono ?_
  rintro e W7 ⟨rfl, b⟩
  replace HW := Lib.hid (HW.out.trans (b.mono HW.out.size))
  clear b C x0 x1
  obtain ⟨x0, x1, c⟩ := Y8.out W7 HW.out
  have C := Lib.hid c
  clear c
  go_wp2_with fail
  refine C.out.mono ?_
  rintro e W8 ⟨rfl, b⟩
  replace HW := Lib.hid (HW.out.trans (b.mono HW.out.size))
  clear b C x0 x1
  go_wp2_with fail
  exact HW.out

set_option maxRecDepth 100000 in
set_option maxHeartbeats 4000000 in
theorem blk_0 {Q : Exit → Act → World → Prop} {p0 p1 p2 p3 p4 p5 p6 p7 p8 p9 p10 p11 p12 p13 p14 p15 p16 p17 p18 p19 p20 p21 p22 p23 p24 p25 p26 p27 p28 p29 p30 p31 p32 p33 p34 p35 p36 p37 p38 p39 p40 p41 p42 p43 p44 p45 p46 p47 p48 p49 p50 p51 p52 p53 p54 p55 p56 p57 p58 p59 p60 p61 p62 p63 p64 p65 p66 p67 p68 p69 p70 p71 p72 p73 p74 p75 p76 p77 p78 p79 p80 p81 p82 p83 p84 p85 p86 p87 p88 p89 p90 p91 p92 p93 p94 p95 p96 p97 p98 p99 p100 p101 p102 p103 p104 p105 p106 p107 p108 p109 p110 p111 p112 p113 p117 p118 p119 p120 p121 p122 p123 p124 p125 p126 p127 p128 p129 p130 p131 p132 p133 p134 p135 p136 p137 p138 p139 p140 p141 p142 p143 p144 p145 p146 p147 p148 p149 p150 p151 p152 p153 p154 p155 p156 p157 p158 p159 p160 p161 p162 p163 p164 p165 p166 p167 p168 p169 p170 p171 p172 p173 p174 p175 p176 p177 p178 p179 p180 p181 p182 p183 p184 p185 p186 p187 p188 p189 p190 p191 p192 p193 p194 p195 p196 p197 p198 p199 p200 p201 p202 p203 p204 p205 p206 p207 p208 p209 p210 p211 p212 p213 p214 p215 p216 p217 p218 p219 p220 p221 p222 p223 p224 p225 p226 p227 p228 p229 p230 p231 p232 p233 p234 p235 p236 p237 p238 p239 : Value} {LB : Nat} (w : World) (HLB : Hid (w.heap[LB]? = some (.cells #[.int .i64 97, .int .i64 98, .int .i64 99, .int .i64 100] 3 (0, 0))))
    (hQ : ∀ (y0 y10 y11 y12 y116 y117 y118 y119 y120 y121 y122 y123 y124 y125 y126 y127 y128 y129 y130 y131 y132 y133 y134 y135 y136 y137 y138 y139 : Value) (wx : World), Below w.heap.size w wx → Q .normal ⟨#[y0, p1, p2, p3, p4, p5, p6, p7, p8, p9, y10, y11, y12, p13, p14, p15, p16, p17, p18, p19, p20, p21, p22, p23, p24, p25, p26, p27, p28, p29, p30, p31, p32, p33, p34, p35, p36, p37, p38, p39, p40, p41, p42, p43, p44, p45, p46, p47, p48, p49, p50, p51, p52, p53, p54, p55, p56, p57, p58, p59, p60, p61, p62, p63, p64, p65, p66, p67, p68, p69, p70, p71, p72, p73, p74, p75, p76, p77, p78, p79, p80, p81, p82, p83, p84, p85, p86, p87, p88, p89, p90, p91, p92, p93, p94, p95, p96, p97, p98, p99, p100, p101, p102, p103, p104, p105, p106, p107, p108, p109, p110, p111, p112, p113, .slice (some ⟨LB, 0, none⟩) 4 4, .int .i64 4, y116, y117, y118, y119, y120, y121, y122, y123, y124, y125, y126, y127, y128, y129, y130, y131, y132, y133, y134, y135, y136, y137, y138, y139, p140, p141, p142, p143, p144, p145, p146, p147, p148, p149, p150, p151, p152, p153, p154, p155, p156, p157, p158, p159, p160, p161, p162, p163, p164, p165, p166, p167, p168, p169, p170, p171, p172, p173, p174, p175, p176, p177, p178, p179, p180, p181, p182, p183, p184, p185, p186, p187, p188, p189, p190, p191, p192, p193, p194, p195, p196, p197, p198, p199, p200, p201, p202, p203, p204, p205, p206, p207, p208, p209, p210, p211, p212, p213, p214, p215, p216, p217, p218, p219, p220, p221, p222, p223, p224, p225, p226, p227, p228, p229, p230, p231, p232, p233, p234, p235, p236, p237, p238, p239], []⟩ wx) :
    Code.wp Try.prog (bk 0) Q ⟨#[p0, p1, p2, p3, p4, p5, p6, p7, p8, p9, p10, p11, p12, p13, p14, p15, p16, p17, p18, p19, p20, p21, p22, p23, p24, p25, p26, p27, p28, p29, p30, p31, p32, p33, p34, p35, p36, p37, p38, p39, p40, p41, p42, p43, p44, p45, p46, p47, p48, p49, p50, p51, p52, p53, p54, p55, p56, p57, p58, p59, p60, p61, p62, p63, p64, p65, p66, p67, p68, p69, p70, p71, p72, p73, p74, p75, p76, p77, p78, p79, p80, p81, p82, p83, p84, p85, p86, p87, p88, p89, p90, p91, p92, p93, p94, p95, p96, p97, p98, p99, p100, p101, p102, p103, p104, p105, p106, p107, p108, p109, p110, p111, p112, p113, .slice (some ⟨LB, 0, none⟩) 4 4, .int .i64 4, .int .i64 0, p117, p118, p119, p120, p121, p122, p123, p124, p125, p126, p127, p128, p129, p130, p131, p132, p133, p134, p135, p136, p137, p138, p139, p140, p141, p142, p143, p144, p145, p146, p147, p148, p149, p150, p151, p152, p153, p154, p155, p156, p157, p158, p159, p160, p161, p162, p163, p164, p165, p166, p167, p168, p169, p170, p171, p172, p173, p174, p175, p176, p177, p178, p179, p180, p181, p182, p183, p184, p185, p186, p187, p188, p189, p190, p191, p192, p193, p194, p195, p196, p197, p198, p199, p200, p201, p202, p203, p204, p205, p206, p207, p208, p209, p210, p211, p212, p213, p214, p215, p216, p217, p218, p219, p220, p221, p222, p223, p224, p225, p226, p227, p228, p229, p230, p231, p232, p233, p234, p235, p236, p237, p238, p239], []⟩ w := by
  have one : 1 ≤ maxLen := by unfold maxLen; omega
  conv => arg 2; whnf
  go_wp2_with fail
  go_loopg [116] 4 (fun r i wr => ∃ k : Nat, r = 4 - k ∧ i = .int .i64 (k : Int) ∧ k ≤ 4 ∧ Below w.heap.size w wr)
  case atStart => exact ⟨0, rfl, rfl, Nat.zero_le _, Below.refl _ _⟩
  case round =>
    obtain ⟨k, rfl, rfl, hk, hb⟩ := hrel
    by_cases hlt : k < 4
    · have hlt' : (k : Int) < 4 := by omega
      obtain ⟨N, hN⟩ : ∃ N, 97 + k = N := ⟨_, rfl⟩
      have x : wr.cell? ⟨LB, k, none⟩ = some (.int .i64 (N : Int)) := by
        refine cellS hb (cell_of HLB.out k _ ?_)
        subst hN
        match k, hlt with
        | 0, _ => rfl
        | 1, _ => rfl
        | 2, _ => rfl
        | 3, _ => rfl
      have HBR := Lib.hid hb
      clear hb
      go_wp2_with fail
      refine (leaf_fn _).mono ?_
      rintro e v0 ⟨v, rfl, ⟨an0, cn0, ak0, ck0, rfl, s0⟩, b⟩
      replace HBR := Lib.hid (HBR.out.trans (b.mono HBR.out.size))
      have hO : OwnNd (v0.alloc (.cells (cells6 (leafN, .slice an0 0 cn0, .slice ak0 0 ck0)).toArray 30)) v0.heap.size (.slice (some ⟨v0.heap.size, 0, none⟩) 1 1) [(leafN, .slice an0 0 cn0, .slice ak0 0 ck0)] := ⟨own_lit (Nat.le_refl _) (hit rfl) rfl one, fun r hr => by
        rw [List.mem_singleton] at hr
        subst hr
        exact s0.below (grow1 _ _)⟩
      have HO := Lib.hid hO
      clear b s0 hO x
      obtain ⟨V, hV⟩ : ∃ V, v0.alloc (.cells (cells6 (leafN, .slice an0 0 cn0, .slice ak0 0 ck0)).toArray 30) = V := ⟨_, rfl⟩
      have hV' : v0.alloc (.cells #[.int .u8 23, .int .i64 5, .string ⟨#[]⟩, .slice an0 0 cn0, .slice ak0 0 ck0, .int .i64 2] 30) = V := hV
      obtain ⟨Z, hZ⟩ : ∃ z, v0.heap.size = z := ⟨_, rfl⟩
      have HZ := Lib.hid (show Z ≤ V.heap.size ∧ w.heap.size ≤ Z from ⟨by rw [← hV, ← hZ]; exact (grow1 _ _).size, by rw [← hZ]; exact HBR.out.size⟩)
      replace HBR := Lib.hid (show Below w.heap.size w V from by rw [← hV]; exact HBR.out.trans ((grow1 _ _).mono HBR.out.size))
      rw [hV, hZ] at HO
      clear hV
      go_upto_block 2 with fail
      clear hV' hZ
      go_wp2_with fail
      go_loopg [11, 12] N (fun r l i wx => ∃ (j : Nat) (rs : List R3), r = N - j ∧ i = .int .i64 (j : Int) ∧ j ≤ N ∧ OwnNd wx Z l rs ∧ rs.map (·.1) = parens j ∧ Below w.heap.size w wx ∧ Z ≤ wx.heap.size)
      case atStart => exact ⟨0, _, rfl, rfl, Nat.zero_le _, HO.out, rfl, HBR.out, HZ.out.1⟩
      case round =>
        obtain ⟨j, rs, rfl, rfl, hj, ho, hm, hb, hz⟩ := hrel
        by_cases hjl : j < N
        · have hjl' : (j : Int) < N := by omega
          have HO1 := Lib.hid (ho.below (grow1 wr (.cells #[.int .i64 (j : Int)] 3)))
          have HS1 := Lib.hid (show Sub (wr.alloc (.cells #[.int .i64 (j : Int)] 3)) (nParen (j : Int), .slice none 0 0, .slice (some ⟨wr.heap.size, 0, none⟩) 1 1) from ⟨nilRow, own_lit (Nat.zero_le _) (hit rfl) rfl one⟩)
          have HRS := Lib.hid (show rs.length = j + 1 from by rw [← parens_len, ← hm, List.length_map])
          have HM := Lib.hid hm
          have HB1 := Lib.hid (hb.trans ((grow1 wr (.cells #[.int .i64 (j : Int)] 3)).mono hb.size))
          have HZZ := Lib.hid (show Z ≤ (wr.alloc (.cells #[.int .i64 (j : Int)] 3)).heap.size from Nat.le_trans hz (grow1 _ _).size)
          have hN9 : N < 101 := by omega
          have jw : IntKind.i64.wrap ((j : Int) + 1) = ((j + 1 : Nat) : Int) := by rw [show (j : Int) + 1 = ((j + 1 : Nat) : Int) by omega]; exact IntWalk.i64_in _ (by omega)
          clear ho hm hb hz
          go_wp2_with (at_builtin; refine wpList_append_node rfl (.tmp 127) (.tmp 131) rfl Z _ rs (nParen (j : Int), .slice none 0 0, .slice (some ⟨wr.heap.size, 0, none⟩) 1 1) rfl HO1.out HS1.out _ rfl ?z1 ?z2 ?z3 ?_)
          case z1 => simp
          case z2 => have := HRS.out; omega
          case z3 => exact HZZ.out
          intro v' w' ho hb
          have HO2 := Lib.hid ho
          have HB2 := Lib.hid (show Below w.heap.size w w' ∧ Z ≤ w'.heap.size from ⟨HB1.out.trans (hb.mono HZ.out.2), Nat.le_trans HZZ.out hb.size⟩)
          clear ho hb
          go_wp2_with fail
          go_roundg (N - (j + 1))
          case measure => omega
          case rel => exact ⟨j + 1, _, rfl, by first | rfl | (rw [jw]) | simp [jw], by omega, HO2.out, by rw [List.map_append, HM.out]; rfl, HB2.out⟩
        · obtain rfl : j = N := by omega
          have hjl' : ¬ (j : Int) < j := by omega
          have hrs : rs.length = j + 1 := by rw [← parens_len, ← hm, List.length_map]
          obtain ⟨gl, cl, rfl⟩ := own_ne ho.1 (by omega)
          rw [hrs]
          have HO1 := Lib.hid (show OwnNd wr 0 (.slice (some ⟨gl, 0, none⟩) (j + 1) cl) rs from by have := ho.low; rw [hrs] at this; exact this)
          have HM := Lib.hid hm
          have HB1 := Lib.hid hb
          clear ho hm hb hz hrs HZ HO HBR
          go_wp2_with fail
          obtain ⟨rt, hrt⟩ : ∃ rt : Int, (j : Int) + 1 + 2 = rt := ⟨_, rfl⟩
          have HRT := Lib.hid hrt
          refine (ret_lit (m := j + 1) rs (parens j) rt _ HO1.out HM.out (parens_len j) (by omega) (by omega) (by omega)).mono ?_
          clear hrt
          rintro e w5 ⟨g9, n9, c9, rfl, hn9, hS9, b9⟩
          by_cases hle : j ≤ 98
          · have hle' : (j : Int) ≤ 98 := by omega
            have HC := Lib.hid (hS9.says (root := rt) true (by rw [← HRT.out]; subst hN; exact (parens_b k hlt).trans (decide_eq_true hle)) (ret_fine (parens_fine j (by omega)) (by rw [parens_len]; omega) (by rw [parens_len]; omega)) (by rw [ret_len, parens_len]; omega) (by have := HRT.out; omega) w5 (Below.refl _ _))
            have HB2 := Lib.hid (HB1.out.trans (b9.mono HB1.out.size))
            clear hn9 hS9 b9
            go_wp2_with fail
            refine HC.out.mono ?_
            rintro e w6 ⟨rfl, b6⟩
            have HB3 := Lib.hid (HB2.out.trans (b6.mono HB2.out.size))
            clear b6
            go_wp2_with fail
            go_roundg (4 - (k + 1))
            case measure => omega
            case rel => exact ⟨k + 1, rfl, by go_num, by omega, HB3.out⟩
          · have hle' : ¬ (j : Int) ≤ 98 := by omega
            have HC := Lib.hid (hS9.says (root := rt) false (by rw [← HRT.out]; subst hN; exact (parens_b k hlt).trans (decide_eq_false hle)) (ret_fine (parens_fine j (by omega)) (by rw [parens_len]; omega) (by rw [parens_len]; omega)) (by rw [ret_len, parens_len]; omega) (by have := HRT.out; omega) w5 (Below.refl _ _))
            have HB2 := Lib.hid (HB1.out.trans (b9.mono HB1.out.size))
            clear hn9 hS9 b9
            go_wp2_with fail
            refine HC.out.mono ?_
            rintro e w6 ⟨rfl, b6⟩
            have HB3 := Lib.hid (HB2.out.trans (b6.mono HB2.out.size))
            clear b6
            go_wp2_with fail
            go_roundg (4 - (k + 1))
            case measure => omega
            case rel => exact ⟨k + 1, rfl, by go_num, by omega, HB3.out⟩
    · obtain rfl : k = 4 := by omega
      have hlt' : ¬ ((4 : Nat) : Int) < 4 := by omega
      have HBX := Lib.hid hb
      clear hb
      go_wp2_with fail
      exact HBX.out

end Go.Proofs.Ytmddffacjkkeiaa.Nd
