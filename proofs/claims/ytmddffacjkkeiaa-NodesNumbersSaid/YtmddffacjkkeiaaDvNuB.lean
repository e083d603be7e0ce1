/-
  Layer 5: NodesNumbers, the other literals.
-/
import Derived.Test.YtmddffacjkkeiaaDvFam3
import Derived.Deep.CutBlock
import Derived.Deep.DeepCutAuto
namespace Go.Proofs.Ytmddffacjkkeiaa.Nd
open Go Go.RowKit Go.ChangeShapes Go.WideShapes Go.Shelf
open Go.Proofs.Ytmddffacjkkeiaa.Rf

set_option maxRecDepth 100000 in
set_option maxHeartbeats 4000000 in
theorem lit_5 {Q : Exit → Act → World → Prop} {p0 p1 p2 p3 p4 p5 p6 p7 p8 p9 p10 p11 p12 p13 p14 p15 p16 p17 p18 p19 p20 p21 p22 p23 p24 p25 p26 p27 p28 p29 p30 p31 p32 p33 p34 p35 p36 p37 p38 p39 p40 p41 p42 p43 p44 p45 p46 p47 p48 p49 p50 p51 p52 p53 p54 p55 p56 p57 p58 p59 p60 p61 p62 p63 p64 p65 p66 p67 p68 p69 p70 p71 p72 p73 p74 p75 p76 p77 p78 p79 p80 p81 p82 p83 p84 p85 p86 p87 p88 p89 p90 p91 p92 p93 p94 p95 p96 p97 p98 p99 p100 p101 p102 p103 p104 p105 p106 p107 p108 p109 p110 p111 p112 p113 p114 p115 p116 p117 p118 p119 p120 p121 p122 p123 p124 p125 p126 p127 p128 p129 p130 p131 p132 p133 p134 p135 p136 p137 p138 p139 p140 p141 p142 p143 p144 p145 p146 p147 p148 p149 p150 p151 p152 p153 p154 p155 p156 p157 p158 p159 p160 p161 p162 p163 p164 p165 p166 p167 p168 p169 p170 p171 p172 p173 p174 p175 p176 p177 p178 p179 p180 p181 p182 p183 p184 p185 p186 p187 p188 p189 p190 p191 p192 p193 p194 p195 p196 p197 p198 p199 p200 p201 p202 p203 p204 p205 p206 p207 p208 p209 p210 p211 p212 p213 p214 p215 p216 p217 p218 p219 p220 p221 p222 p223 p224 p225 p226 p227 p228 p229 p230 p231 p232 p233 p234 p235 p236 p237 p238 p239 : Value}  (w : World) 
    (hQ : ∀ (y5 y52 y53 y54 y55 y56 y57 y58 : Value) (wx : World), BoxAt wx y5 (ret [leafN, leafN, nBin 11 0 1, leafN, nBin 11 2 3]) 7 → Below w.heap.size w wx → Q .normal ⟨#[p0, p1, p2, p3, p4, y5, p6, p7, p8, p9, p10, p11, p12, p13, p14, p15, p16, p17, p18, p19, p20, p21, p22, p23, p24, p25, p26, p27, p28, p29, p30, p31, p32, p33, p34, p35, p36, p37, p38, p39, p40, p41, p42, p43, p44, p45, p46, p47, p48, p49, p50, p51, y52, y53, y54, y55, y56, y57, y58, p59, p60, p61, p62, p63, p64, p65, p66, p67, p68, p69, p70, p71, p72, p73, p74, p75, p76, p77, p78, p79, p80, p81, p82, p83, p84, p85, p86, p87, p88, p89, p90, p91, p92, p93, p94, p95, p96, p97, p98, p99, p100, p101, p102, p103, p104, p105, p106, p107, p108, p109, p110, p111, p112, p113, p114, p115, p116, p117, p118, p119, p120, p121, p122, p123, p124, p125, p126, p127, p128, p129, p130, p131, p132, p133, p134, p135, p136, p137, p138, p139, p140, p141, p142, p143, p144, p145, p146, p147, p148, p149, p150, p151, p152, p153, p154, p155, p156, p157, p158, p159, p160, p161, p162, p163, p164, p165, p166, p167, p168, p169, p170, p171, p172, p173, p174, p175, p176, p177, p178, p179, p180, p181, p182, p183, p184, p185, p186, p187, p188, p189, p190, p191, p192, p193, p194, p195, p196, p197, p198, p199, p200, p201, p202, p203, p204, p205, p206, p207, p208, p209, p210, p211, p212, p213, p214, p215, p216, p217, p218, p219, p220, p221, p222, p223, p224, p225, p226, p227, p228, p229, p230, p231, p232, p233, p234, p235, p236, p237, p238, p239], []⟩ wx) :
    Code.wp Try.prog (rg 5) Q ⟨#[p0, p1, p2, p3, p4, p5, p6, p7, p8, p9, p10, p11, p12, p13, p14, p15, p16, p17, p18, p19, p20, p21, p22, p23, p24, p25, p26, p27, p28, p29, p30, p31, p32, p33, p34, p35, p36, p37, p38, p39, p40, p41, p42, p43, p44, p45, p46, p47, p48, p49, p50, p51, p52, p53, p54, p55, p56, p57, p58, p59, p60, p61, p62, p63, p64, p65, p66, p67, p68, p69, p70, p71, p72, p73, p74, p75, p76, p77, p78, p79, p80, p81, p82, p83, p84, p85, p86, p87, p88, p89, p90, p91, p92, p93, p94, p95, p96, p97, p98, p99, p100, p101, p102, p103, p104, p105, p106, p107, p108, p109, p110, p111, p112, p113, p114, p115, p116, p117, p118, p119, p120, p121, p122, p123, p124, p125, p126, p127, p128, p129, p130, p131, p132, p133, p134, p135, p136, p137, p138, p139, p140, p141, p142, p143, p144, p145, p146, p147, p148, p149, p150, p151, p152, p153, p154, p155, p156, p157, p158, p159, p160, p161, p162, p163, p164, p165, p166, p167, p168, p169, p170, p171, p172, p173, p174, p175, p176, p177, p178, p179, p180, p181, p182, p183, p184, p185, p186, p187, p188, p189, p190, p191, p192, p193, p194, p195, p196, p197, p198, p199, p200, p201, p202, p203, p204, p205, p206, p207, p208, p209, p210, p211, p212, p213, p214, p215, p216, p217, p218, p219, p220, p221, p222, p223, p224, p225, p226, p227, p228, p229, p230, p231, p232, p233, p234, p235, p236, p237, p238, p239], []⟩ w := by
  have one : 1 ≤ maxLen := by unfold maxLen; omega
  conv => arg 2; whnf
  have HB := Lib.hid (Below.refl w.heap.size w)
  go_wp2_with fail
  refine (leaf_fn _).mono ?_
  rintro e w0 ⟨v, rfl, ⟨an0, cn0, ak0, ck0, rfl, s0⟩, b⟩
  replace HB := Lib.hid (HB.out.trans ((b).mono HB.out.size))
  have S0 := Lib.hid s0
  clear b s0
  go_wp2_with fail
  refine (leaf_fn _).mono ?_
  rintro e w1 ⟨v, rfl, ⟨an1, cn1, ak1, ck1, rfl, s1⟩, b⟩
  replace S0 := Lib.hid (S0.out.below b)
  replace HB := Lib.hid (HB.out.trans ((b).mono HB.out.size))
  have S1 := Lib.hid s1
  clear b s1
  go_wp2_with fail
  refine (bin_fn 11 0 1 _ (by decide)).mono ?_
  rintro e w2 ⟨v, rfl, ⟨an2, cn2, ak2, ck2, rfl, s2⟩, b⟩
  replace S0 := Lib.hid (S0.out.below b)
  replace S1 := Lib.hid (S1.out.below b)
  replace HB := Lib.hid (HB.out.trans ((b).mono HB.out.size))
  have S2 := Lib.hid s2
  clear b s2
  go_wp2_with fail
  refine (leaf_fn _).mono ?_
  rintro e w3 ⟨v, rfl, ⟨an3, cn3, ak3, ck3, rfl, s3⟩, b⟩
  replace S0 := Lib.hid (S0.out.below b)
  replace S1 := Lib.hid (S1.out.below b)
  replace S2 := Lib.hid (S2.out.below b)
  replace HB := Lib.hid (HB.out.trans ((b).mono HB.out.size))
  have S3 := Lib.hid s3
  clear b s3
  go_wp2_with fail
  refine (bin_fn 11 2 3 _ (by decide)).mono ?_
  rintro e w4 ⟨v, rfl, ⟨an4, cn4, ak4, ck4, rfl, s4⟩, b⟩
  replace S0 := Lib.hid (S0.out.below b)
  replace S1 := Lib.hid (S1.out.below b)
  replace S2 := Lib.hid (S2.out.below b)
  replace S3 := Lib.hid (S3.out.below b)
  replace HB := Lib.hid (HB.out.trans ((b).mono HB.out.size))
  have S4 := Lib.hid s4
  clear b s4
  go_wp2_with fail
  refine (ret_lit (m := 5) [((leafN : Nd), Value.slice an0 0 cn0, Value.slice ak0 0 ck0), ((leafN : Nd), Value.slice an1 0 cn1, Value.slice ak1 0 ck1), (((nBin 11 0 1) : Nd), Value.slice an2 0 cn2, Value.slice ak2 2 ck2), ((leafN : Nd), Value.slice an3 0 cn3, Value.slice ak3 0 ck3), (((nBin 11 2 3) : Nd), Value.slice an4 0 cn4, Value.slice ak4 2 ck4)] [leafN, leafN, nBin 11 0 1, leafN, nBin 11 2 3] 7 _ ⟨own_lit (Nat.zero_le _) (hit (by simp)) rfl (show 5 ≤ maxLen from by unfold maxLen; omega), fun r hr => ?_⟩ rfl rfl (by decide) (by decide) (by decide)).mono ?_
  · simp only [List.mem_cons, List.not_mem_nil, or_false] at hr
    rcases hr with rfl | rfl | rfl | rfl | rfl
    · exact S0.out.below (grow1 _ _)
    · exact S1.out.below (grow1 _ _)
    · exact S2.out.below (grow1 _ _)
    · exact S3.out.below (grow1 _ _)
    · exact S4.out.below (grow1 _ _)
  rintro e w9 ⟨g9, n9, c9, rfl, hn9, hS9, b9⟩
  replace HB := Lib.hid (HB.out.trans (((grow1 _ _).trans (b9.mono (grow1 _ _).size)).mono HB.out.size))
  have HX := Lib.hid (box_new (r := 7) hn9 hS9)
  clear hn9 hS9 b9 S0 S1 S2 S3 S4
  go_wp2_with fail
  exact hQ _ _ _ _ _ _ _ _ _ HX.out (HB.out.trans ((grow1 _ _).mono HB.out.size))

set_option maxRecDepth 100000 in
set_option maxHeartbeats 4000000 in
theorem lit_6 {Q : Exit → Act → World → Prop} {p0 p1 p2 p3 p4 p5 p6 p7 p8 p9 p10 p11 p12 p13 p14 p15 p16 p17 p18 p19 p20 p21 p22 p23 p24 p25 p26 p27 p28 p29 p30 p31 p32 p33 p34 p35 p36 p37 p38 p39 p40 p41 p42 p43 p44 p45 p46 p47 p48 p49 p50 p51 p52 p53 p54 p55 p56 p57 p58 p59 p60 p61 p62 p63 p64 p65 p66 p67 p68 p69 p70 p71 p72 p73 p74 p75 p76 p77 p78 p79 p80 p81 p82 p83 p84 p85 p86 p87 p88 p89 p90 p91 p92 p93 p94 p95 p96 p97 p98 p99 p100 p101 p102 p103 p104 p105 p106 p107 p108 p109 p110 p111 p112 p113 p114 p115 p116 p117 p118 p119 p120 p121 p122 p123 p124 p125 p126 p127 p128 p129 p130 p131 p132 p133 p134 p135 p136 p137 p138 p139 p140 p141 p142 p143 p144 p145 p146 p147 p148 p149 p150 p151 p152 p153 p154 p155 p156 p157 p158 p159 p160 p161 p162 p163 p164 p165 p166 p167 p168 p169 p170 p171 p172 p173 p174 p175 p176 p177 p178 p179 p180 p181 p182 p183 p184 p185 p186 p187 p188 p189 p190 p191 p192 p193 p194 p195 p196 p197 p198 p199 p200 p201 p202 p203 p204 p205 p206 p207 p208 p209 p210 p211 p212 p213 p214 p215 p216 p217 p218 p219 p220 p221 p222 p223 p224 p225 p226 p227 p228 p229 p230 p231 p232 p233 p234 p235 p236 p237 p238 p239 : Value}  (w : World) 
    (hQ : ∀ (y6 y59 y60 y61 y62 y63 y64 y65 : Value) (wx : World), BoxAt wx y6 (ret [leafN, leafN, leafN, nBin 2 1 2, nBin 1 0 3]) 7 → Below w.heap.size w wx → Q .normal ⟨#[p0, p1, p2, p3, p4, p5, y6, p7, p8, p9, p10, p11, p12, p13, p14, p15, p16, p17, p18, p19, p20, p21, p22, p23, p24, p25, p26, p27, p28, p29, p30, p31, p32, p33, p34, p35, p36, p37, p38, p39, p40, p41, p42, p43, p44, p45, p46, p47, p48, p49, p50, p51, p52, p53, p54, p55, p56, p57, p58, y59, y60, y61, y62, y63, y64, y65, p66, p67, p68, p69, p70, p71, p72, p73, p74, p75, p76, p77, p78, p79, p80, p81, p82, p83, p84, p85, p86, p87, p88, p89, p90, p91, p92, p93, p94, p95, p96, p97, p98, p99, p100, p101, p102, p103, p104, p105, p106, p107, p108, p109, p110, p111, p112, p113, p114, p115, p116, p117, p118, p119, p120, p121, p122, p123, p124, p125, p126, p127, p128, p129, p130, p131, p132, p133, p134, p135, p136, p137, p138, p139, p140, p141, p142, p143, p144, p145, p146, p147, p148, p149, p150, p151, p152, p153, p154, p155, p156, p157, p158, p159, p160, p161, p162, p163, p164, p165, p166, p167, p168, p169, p170, p171, p172, p173, p174, p175, p176, p177, p178, p179, p180, p181, p182, p183, p184, p185, p186, p187, p188, p189, p190, p191, p192, p193, p194, p195, p196, p197, p198, p199, p200, p201, p202, p203, p204, p205, p206, p207, p208, p209, p210, p211, p212, p213, p214, p215, p216, p217, p218, p219, p220, p221, p222, p223, p224, p225, p226, p227, p228, p229, p230, p231, p232, p233, p234, p235, p236, p237, p238, p239], []⟩ wx) :
    Code.wp Try.prog (rg 6) Q ⟨#[p0, p1, p2, p3, p4, p5, p6, p7, p8, p9, p10, p11, p12, p13, p14, p15, p16, p17, p18, p19, p20, p21, p22, p23, p24, p25, p26, p27, p28, p29, p30, p31, p32, p33, p34, p35, p36, p37, p38, p39, p40, p41, p42, p43, p44, p45, p46, p47, p48, p49, p50, p51, p52, p53, p54, p55, p56, p57, p58, p59, p60, p61, p62, p63, p64, p65, p66, p67, p68, p69, p70, p71, p72, p73, p74, p75, p76, p77, p78, p79, p80, p81, p82, p83, p84, p85, p86, p87, p88, p89, p90, p91, p92, p93, p94, p95, p96, p97, p98, p99, p100, p101, p102, p103, p104, p105, p106, p107, p108, p109, p110, p111, p112, p113, p114, p115, p116, p117, p118, p119, p120, p121, p122, p123, p124, p125, p126, p127, p128, p129, p130, p131, p132, p133, p134, p135, p136, p137, p138, p139, p140, p141, p142, p143, p144, p145, p146, p147, p148, p149, p150, p151, p152, p153, p154, p155, p156, p157, p158, p159, p160, p161, p162, p163, p164, p165, p166, p167, p168, p169, p170, p171, p172, p173, p174, p175, p176, p177, p178, p179, p180, p181, p182, p183, p184, p185, p186, p187, p188, p189, p190, p191, p192, p193, p194, p195, p196, p197, p198, p199, p200, p201, p202, p203, p204, p205, p206, p207, p208, p209, p210, p211, p212, p213, p214, p215, p216, p217, p218, p219, p220, p221, p222, p223, p224, p225, p226, p227, p228, p229, p230, p231, p232, p233, p234, p235, p236, p237, p238, p239], []⟩ w := by
  have one : 1 ≤ maxLen := by unfold maxLen; omega
  conv => arg 2; whnf
  have HB := Lib.hid (Below.refl w.heap.size w)
  go_wp2_with fail
  refine (leaf_fn _).mono ?_
  rintro e w0 ⟨v, rfl, ⟨an0, cn0, ak0, ck0, rfl, s0⟩, b⟩
  replace HB := Lib.hid (HB.out.trans ((b).mono HB.out.size))
  have S0 := Lib.hid s0
  clear b s0
  go_wp2_with fail
  refine (leaf_fn _).mono ?_
  rintro e w1 ⟨v, rfl, ⟨an1, cn1, ak1, ck1, rfl, s1⟩, b⟩
  replace S0 := Lib.hid (S0.out.below b)
  replace HB := Lib.hid (HB.out.trans ((b).mono HB.out.size))
  have S1 := Lib.hid s1
  clear b s1
  go_wp2_with fail
  refine (leaf_fn _).mono ?_
  rintro e w2 ⟨v, rfl, ⟨an2, cn2, ak2, ck2, rfl, s2⟩, b⟩
  replace S0 := Lib.hid (S0.out.below b)
  replace S1 := Lib.hid (S1.out.below b)
  replace HB := Lib.hid (HB.out.trans ((b).mono HB.out.size))
  have S2 := Lib.hid s2
  clear b s2
  go_wp2_with fail
  refine (bin_fn 2 1 2 _ (by decide)).mono ?_
  rintro e w3 ⟨v, rfl, ⟨an3, cn3, ak3, ck3, rfl, s3⟩, b⟩
  replace S0 := Lib.hid (S0.out.below b)
  replace S1 := Lib.hid (S1.out.below b)
  replace S2 := Lib.hid (S2.out.below b)
  replace HB := Lib.hid (HB.out.trans ((b).mono HB.out.size))
  have S3 := Lib.hid s3
  clear b s3
  go_wp2_with fail
  refine (bin_fn 1 0 3 _ (by decide)).mono ?_
  rintro e w4 ⟨v, rfl, ⟨an4, cn4, ak4, ck4, rfl, s4⟩, b⟩
  replace S0 := Lib.hid (S0.out.below b)
  replace S1 := Lib.hid (S1.out.below b)
  replace S2 := Lib.hid (S2.out.below b)
  replace S3 := Lib.hid (S3.out.below b)
  replace HB := Lib.hid (HB.out.trans ((b).mono HB.out.size))
  have S4 := Lib.hid s4
  clear b s4
  go_wp2_with fail
  refine (ret_lit (m := 5) [((leafN : Nd), Value.slice an0 0 cn0, Value.slice ak0 0 ck0), ((leafN : Nd), Value.slice an1 0 cn1, Value.slice ak1 0 ck1), ((leafN : Nd), Value.slice an2 0 cn2, Value.slice ak2 0 ck2), (((nBin 2 1 2) : Nd), Value.slice an3 0 cn3, Value.slice ak3 2 ck3), (((nBin 1 0 3) : Nd), Value.slice an4 0 cn4, Value.slice ak4 2 ck4)] [leafN, leafN, leafN, nBin 2 1 2, nBin 1 0 3] 7 _ ⟨own_lit (Nat.zero_le _) (hit (by simp)) rfl (show 5 ≤ maxLen from by unfold maxLen; omega), fun r hr => ?_⟩ rfl rfl (by decide) (by decide) (by decide)).mono ?_
  · simp only [List.mem_cons, List.not_mem_nil, or_false] at hr
    rcases hr with rfl | rfl | rfl | rfl | rfl
    · exact S0.out.below (grow1 _ _)
    · exact S1.out.below (grow1 _ _)
    · exact S2.out.below (grow1 _ _)
    · exact S3.out.below (grow1 _ _)
    · exact S4.out.below (grow1 _ _)
  rintro e w9 ⟨g9, n9, c9, rfl, hn9, hS9, b9⟩
  replace HB := Lib.hid (HB.out.trans (((grow1 _ _).trans (b9.mono (grow1 _ _).size)).mono HB.out.size))
  have HX := Lib.hid (box_new (r := 7) hn9 hS9)
  clear hn9 hS9 b9 S0 S1 S2 S3 S4
  go_wp2_with fail
  exact hQ _ _ _ _ _ _ _ _ _ HX.out (HB.out.trans ((grow1 _ _).mono HB.out.size))

set_option maxRecDepth 100000 in
set_option maxHeartbeats 4000000 in
theorem lit_7 {Q : Exit → Act → World → Prop} {p0 p1 p2 p3 p4 p5 p6 p7 p8 p9 p10 p11 p12 p13 p14 p15 p16 p17 p18 p19 p20 p21 p22 p23 p24 p25 p26 p27 p28 p29 p30 p31 p32 p33 p34 p35 p36 p37 p38 p39 p40 p41 p42 p43 p44 p45 p46 p47 p48 p49 p50 p51 p52 p53 p54 p55 p56 p57 p58 p59 p60 p61 p62 p63 p64 p65 p66 p67 p68 p69 p70 p71 p72 p73 p74 p75 p76 p77 p78 p79 p80 p81 p82 p83 p84 p85 p86 p87 p88 p89 p90 p91 p92 p93 p94 p95 p96 p97 p98 p99 p100 p101 p102 p103 p104 p105 p106 p107 p108 p109 p110 p111 p112 p113 p114 p115 p116 p117 p118 p119 p120 p121 p122 p123 p124 p125 p126 p127 p128 p129 p130 p131 p132 p133 p134 p135 p136 p137 p138 p139 p140 p141 p142 p143 p144 p145 p146 p147 p148 p149 p150 p151 p152 p153 p154 p155 p156 p157 p158 p159 p160 p161 p162 p163 p164 p165 p166 p167 p168 p169 p170 p171 p172 p173 p174 p175 p176 p177 p178 p179 p180 p181 p182 p183 p184 p185 p186 p187 p188 p189 p190 p191 p192 p193 p194 p195 p196 p197 p198 p199 p200 p201 p202 p203 p204 p205 p206 p207 p208 p209 p210 p211 p212 p213 p214 p215 p216 p217 p218 p219 p220 p221 p222 p223 p224 p225 p226 p227 p228 p229 p230 p231 p232 p233 p234 p235 p236 p237 p238 p239 : Value}  (w : World) 
    (hQ : ∀ (y7 y66 y67 y68 y69 y70 y71 y72 : Value) (wx : World), BoxAt wx y7 (ret [leafN, leafN, nBin 12 0 1, nUn 19 2]) 6 → Below w.heap.size w wx → Q .normal ⟨#[p0, p1, p2, p3, p4, p5, p6, y7, p8, p9, p10, p11, p12, p13, p14, p15, p16, p17, p18, p19, p20, p21, p22, p23, p24, p25, p26, p27, p28, p29, p30, p31, p32, p33, p34, p35, p36, p37, p38, p39, p40, p41, p42, p43, p44, p45, p46, p47, p48, p49, p50, p51, p52, p53, p54, p55, p56, p57, p58, p59, p60, p61, p62, p63, p64, p65, y66, y67, y68, y69, y70, y71, y72, p73, p74, p75, p76, p77, p78, p79, p80, p81, p82, p83, p84, p85, p86, p87, p88, p89, p90, p91, p92, p93, p94, p95, p96, p97, p98, p99, p100, p101, p102, p103, p104, p105, p106, p107, p108, p109, p110, p111, p112, p113, p114, p115, p116, p117, p118, p119, p120, p121, p122, p123, p124, p125, p126, p127, p128, p129, p130, p131, p132, p133, p134, p135, p136, p137, p138, p139, p140, p141, p142, p143, p144, p145, p146, p147, p148, p149, p150, p151, p152, p153, p154, p155, p156, p157, p158, p159, p160, p161, p162, p163, p164, p165, p166, p167, p168, p169, p170, p171, p172, p173, p174, p175, p176, p177, p178, p179, p180, p181, p182, p183, p184, p185, p186, p187, p188, p189, p190, p191, p192, p193, p194, p195, p196, p197, p198, p199, p200, p201, p202, p203, p204, p205, p206, p207, p208, p209, p210, p211, p212, p213, p214, p215, p216, p217, p218, p219, p220, p221, p222, p223, p224, p225, p226, p227, p228, p229, p230, p231, p232, p233, p234, p235, p236, p237, p238, p239], []⟩ wx) :
    Code.wp Try.prog (rg 7) Q ⟨#[p0, p1, p2, p3, p4, p5, p6, p7, p8, p9, p10, p11, p12, p13, p14, p15, p16, p17, p18, p19, p20, p21, p22, p23, p24, p25, p26, p27, p28, p29, p30, p31, p32, p33, p34, p35, p36, p37, p38, p39, p40, p41, p42, p43, p44, p45, p46, p47, p48, p49, p50, p51, p52, p53, p54, p55, p56, p57, p58, p59, p60, p61, p62, p63, p64, p65, p66, p67, p68, p69, p70, p71, p72, p73, p74, p75, p76, p77, p78, p79, p80, p81, p82, p83, p84, p85, p86, p87, p88, p89, p90, p91, p92, p93, p94, p95, p96, p97, p98, p99, p100, p101, p102, p103, p104, p105, p106, p107, p108, p109, p110, p111, p112, p113, p114, p115, p116, p117, p118, p119, p120, p121, p122, p123, p124, p125, p126, p127, p128, p129, p130, p131, p132, p133, p134, p135, p136, p137, p138, p139, p140, p141, p142, p143, p144, p145, p146, p147, p148, p149, p150, p151, p152, p153, p154, p155, p156, p157, p158, p159, p160, p161, p162, p163, p164, p165, p166, p167, p168, p169, p170, p171, p172, p173, p174, p175, p176, p177, p178, p179, p180, p181, p182, p183, p184, p185, p186, p187, p188, p189, p190, p191, p192, p193, p194, p195, p196, p197, p198, p199, p200, p201, p202, p203, p204, p205, p206, p207, p208, p209, p210, p211, p212, p213, p214, p215, p216, p217, p218, p219, p220, p221, p222, p223, p224, p225, p226, p227, p228, p229, p230, p231, p232, p233, p234, p235, p236, p237, p238, p239], []⟩ w := by
  have one : 1 ≤ maxLen := by unfold maxLen; omega
  conv => arg 2; whnf
  have HB := Lib.hid (Below.refl w.heap.size w)
  go_wp2_with fail
  refine (leaf_fn _).mono ?_
  rintro e w0 ⟨v, rfl, ⟨an0, cn0, ak0, ck0, rfl, s0⟩, b⟩
  replace HB := Lib.hid (HB.out.trans ((b).mono HB.out.size))
  have S0 := Lib.hid s0
  clear b s0
  go_wp2_with fail
  refine (leaf_fn _).mono ?_
  rintro e w1 ⟨v, rfl, ⟨an1, cn1, ak1, ck1, rfl, s1⟩, b⟩
  replace S0 := Lib.hid (S0.out.below b)
  replace HB := Lib.hid (HB.out.trans ((b).mono HB.out.size))
  have S1 := Lib.hid s1
  clear b s1
  go_wp2_with fail
  refine (bin_fn 12 0 1 _ (by decide)).mono ?_
  rintro e w2 ⟨v, rfl, ⟨an2, cn2, ak2, ck2, rfl, s2⟩, b⟩
  replace S0 := Lib.hid (S0.out.below b)
  replace S1 := Lib.hid (S1.out.below b)
  replace HB := Lib.hid (HB.out.trans ((b).mono HB.out.size))
  have S2 := Lib.hid s2
  clear b s2
  replace S0 := Lib.hid (S0.out.below (grow1 w2 (.cells #[.int .i64 2] 3)))
  replace S1 := Lib.hid (S1.out.below (grow1 w2 (.cells #[.int .i64 2] 3)))
  replace S2 := Lib.hid (S2.out.below (grow1 w2 (.cells #[.int .i64 2] 3)))
  replace HB := Lib.hid (HB.out.trans (((grow1 w2 (.cells #[.int .i64 2] 3))).mono HB.out.size))
  have S3 := Lib.hid (show Sub (w2.alloc (.cells #[.int .i64 2] 3)) ((nUn 19 2), .slice none 0 0, .slice (some ⟨w2.heap.size, 0, none⟩) 1 1) from ⟨nilRow, own_lit (Nat.zero_le _) (hit rfl) rfl one⟩)
  go_wp2_with fail
  refine (ret_lit (m := 4) [((leafN : Nd), Value.slice an0 0 cn0, Value.slice ak0 0 ck0), ((leafN : Nd), Value.slice an1 0 cn1, Value.slice ak1 0 ck1), (((nBin 12 0 1) : Nd), Value.slice an2 0 cn2, Value.slice ak2 2 ck2), (((nUn 19 2) : Nd), Value.slice none 0 0, Value.slice (some ⟨w2.heap.size, 0, none⟩) 1 1)] [leafN, leafN, nBin 12 0 1, nUn 19 2] 6 _ ⟨own_lit (Nat.zero_le _) (hit (by simp)) rfl (show 4 ≤ maxLen from by unfold maxLen; omega), fun r hr => ?_⟩ rfl rfl (by decide) (by decide) (by decide)).mono ?_
  · simp only [List.mem_cons, List.not_mem_nil, or_false] at hr
    rcases hr with rfl | rfl | rfl | rfl
    · exact S0.out.below (grow1 _ _)
    · exact S1.out.below (grow1 _ _)
    · exact S2.out.below (grow1 _ _)
    · exact S3.out.below (grow1 _ _)
  rintro e w9 ⟨g9, n9, c9, rfl, hn9, hS9, b9⟩
  replace HB := Lib.hid (HB.out.trans (((grow1 _ _).trans (b9.mono (grow1 _ _).size)).mono HB.out.size))
  have HX := Lib.hid (box_new (r := 6) hn9 hS9)
  clear hn9 hS9 b9 S0 S1 S2 S3
  go_wp2_with fail
  exact hQ _ _ _ _ _ _ _ _ _ HX.out (HB.out.trans ((grow1 _ _).mono HB.out.size))

set_option maxRecDepth 100000 in
set_option maxHeartbeats 4000000 in
theorem lit_8 {Q : Exit → Act → World → Prop} {p0 p1 p2 p3 p4 p5 p6 p7 p8 p9 p10 p11 p12 p13 p14 p15 p16 p17 p18 p19 p20 p21 p22 p23 p24 p25 p26 p27 p28 p29 p30 p31 p32 p33 p34 p35 p36 p37 p38 p39 p40 p41 p42 p43 p44 p45 p46 p47 p48 p49 p50 p51 p52 p53 p54 p55 p56 p57 p58 p59 p60 p61 p62 p63 p64 p65 p66 p67 p68 p69 p70 p71 p72 p73 p74 p75 p76 p77 p78 p79 p80 p81 p82 p83 p84 p85 p86 p87 p88 p89 p90 p91 p92 p93 p94 p95 p96 p97 p98 p99 p100 p101 p102 p103 p104 p105 p106 p107 p108 p109 p110 p111 p112 p113 p114 p115 p116 p117 p118 p119 p120 p121 p122 p123 p124 p125 p126 p127 p128 p129 p130 p131 p132 p133 p134 p135 p136 p137 p138 p139 p140 p141 p142 p143 p144 p145 p146 p147 p148 p149 p150 p151 p152 p153 p154 p155 p156 p157 p158 p159 p160 p161 p162 p163 p164 p165 p166 p167 p168 p169 p170 p171 p172 p173 p174 p175 p176 p177 p178 p179 p180 p181 p182 p183 p184 p185 p186 p187 p188 p189 p190 p191 p192 p193 p194 p195 p196 p197 p198 p199 p200 p201 p202 p203 p204 p205 p206 p207 p208 p209 p210 p211 p212 p213 p214 p215 p216 p217 p218 p219 p220 p221 p222 p223 p224 p225 p226 p227 p228 p229 p230 p231 p232 p233 p234 p235 p236 p237 p238 p239 : Value}  (w : World) 
    (hQ : ∀ (y8 y73 y74 y75 y76 y77 y78 y79 : Value) (wx : World), BoxAt wx y8 (ret [leafN, nUn 18 0, leafN, nBin 3 1 2]) 6 → Below w.heap.size w wx → Q .normal ⟨#[p0, p1, p2, p3, p4, p5, p6, p7, y8, p9, p10, p11, p12, p13, p14, p15, p16, p17, p18, p19, p20, p21, p22, p23, p24, p25, p26, p27, p28, p29, p30, p31, p32, p33, p34, p35, p36, p37, p38, p39, p40, p41, p42, p43, p44, p45, p46, p47, p48, p49, p50, p51, p52, p53, p54, p55, p56, p57, p58, p59, p60, p61, p62, p63, p64, p65, p66, p67, p68, p69, p70, p71, p72, y73, y74, y75, y76, y77, y78, y79, p80, p81, p82, p83, p84, p85, p86, p87, p88, p89, p90, p91, p92, p93, p94, p95, p96, p97, p98, p99, p100, p101, p102, p103, p104, p105, p106, p107, p108, p109, p110, p111, p112, p113, p114, p115, p116, p117, p118, p119, p120, p121, p122, p123, p124, p125, p126, p127, p128, p129, p130, p131, p132, p133, p134, p135, p136, p137, p138, p139, p140, p141, p142, p143, p144, p145, p146, p147, p148, p149, p150, p151, p152, p153, p154, p155, p156, p157, p158, p159, p160, p161, p162, p163, p164, p165, p166, p167, p168, p169, p170, p171, p172, p173, p174, p175, p176, p177, p178, p179, p180, p181, p182, p183, p184, p185, p186, p187, p188, p189, p190, p191, p192, p193, p194, p195, p196, p197, p198, p199, p200, p201, p202, p203, p204, p205, p206, p207, p208, p209, p210, p211, p212, p213, p214, p215, p216, p217, p218, p219, p220, p221, p222, p223, p224, p225, p226, p227, p228, p229, p230, p231, p232, p233, p234, p235, p236, p237, p238, p239], []⟩ wx) :
    Code.wp Try.prog (rg 8) Q ⟨#[p0, p1, p2, p3, p4, p5, p6, p7, p8, p9, p10, p11, p12, p13, p14, p15, p16, p17, p18, p19, p20, p21, p22, p23, p24, p25, p26, p27, p28, p29, p30, p31, p32, p33, p34, p35, p36, p37, p38, p39, p40, p41, p42, p43, p44, p45, p46, p47, p48, p49, p50, p51, p52, p53, p54, p55, p56, p57, p58, p59, p60, p61, p62, p63, p64, p65, p66, p67, p68, p69, p70, p71, p72, p73, p74, p75, p76, p77, p78, p79, p80, p81, p82, p83, p84, p85, p86, p87, p88, p89, p90, p91, p92, p93, p94, p95, p96, p97, p98, p99, p100, p101, p102, p103, p104, p105, p106, p107, p108, p109, p110, p111, p112, p113, p114, p115, p116, p117, p118, p119, p120, p121, p122, p123, p124, p125, p126, p127, p128, p129, p130, p131, p132, p133, p134, p135, p136, p137, p138, p139, p140, p141, p142, p143, p144, p145, p146, p147, p148, p149, p150, p151, p152, p153, p154, p155, p156, p157, p158, p159, p160, p161, p162, p163, p164, p165, p166, p167, p168, p169, p170, p171, p172, p173, p174, p175, p176, p177, p178, p179, p180, p181, p182, p183, p184, p185, p186, p187, p188, p189, p190, p191, p192, p193, p194, p195, p196, p197, p198, p199, p200, p201, p202, p203, p204, p205, p206, p207, p208, p209, p210, p211, p212, p213, p214, p215, p216, p217, p218, p219, p220, p221, p222, p223, p224, p225, p226, p227, p228, p229, p230, p231, p232, p233, p234, p235, p236, p237, p238, p239], []⟩ w := by
  have one : 1 ≤ maxLen := by unfold maxLen; omega
  conv => arg 2; whnf
  have HB := Lib.hid (Below.refl w.heap.size w)
  go_wp2_with fail
  refine (leaf_fn _).mono ?_
  rintro e w0 ⟨v, rfl, ⟨an0, cn0, ak0, ck0, rfl, s0⟩, b⟩
  replace HB := Lib.hid (HB.out.trans ((b).mono HB.out.size))
  have S0 := Lib.hid s0
  clear b s0
  replace S0 := Lib.hid (S0.out.below (grow1 w0 (.cells #[.int .i64 0] 3)))
  replace HB := Lib.hid (HB.out.trans (((grow1 w0 (.cells #[.int .i64 0] 3))).mono HB.out.size))
  have S1 := Lib.hid (show Sub (w0.alloc (.cells #[.int .i64 0] 3)) ((nUn 18 0), .slice none 0 0, .slice (some ⟨w0.heap.size, 0, none⟩) 1 1) from ⟨nilRow, own_lit (Nat.zero_le _) (hit rfl) rfl one⟩)
  go_wp2_with fail
  refine (leaf_fn _).mono ?_
  rintro e w2 ⟨v, rfl, ⟨an2, cn2, ak2, ck2, rfl, s2⟩, b⟩
  replace S0 := Lib.hid (S0.out.below b)
  replace S1 := Lib.hid (S1.out.below b)
  replace HB := Lib.hid (HB.out.trans ((b).mono HB.out.size))
  have S2 := Lib.hid s2
  clear b s2
  go_wp2_with fail
  refine (bin_fn 3 1 2 _ (by decide)).mono ?_
  rintro e w3 ⟨v, rfl, ⟨an3, cn3, ak3, ck3, rfl, s3⟩, b⟩
  replace S0 := Lib.hid (S0.out.below b)
  replace S1 := Lib.hid (S1.out.below b)
  replace S2 := Lib.hid (S2.out.below b)
  replace HB := Lib.hid (HB.out.trans ((b).mono HB.out.size))
  have S3 := Lib.hid s3
  clear b s3
  go_wp2_with fail
  refine (ret_lit (m := 4) [((leafN : Nd), Value.slice an0 0 cn0, Value.slice ak0 0 ck0), (((nUn 18 0) : Nd), Value.slice none 0 0, Value.slice (some ⟨w0.heap.size, 0, none⟩) 1 1), ((leafN : Nd), Value.slice an2 0 cn2, Value.slice ak2 0 ck2), (((nBin 3 1 2) : Nd), Value.slice an3 0 cn3, Value.slice ak3 2 ck3)] [leafN, nUn 18 0, leafN, nBin 3 1 2] 6 _ ⟨own_lit (Nat.zero_le _) (hit (by simp)) rfl (show 4 ≤ maxLen from by unfold maxLen; omega), fun r hr => ?_⟩ rfl rfl (by decide) (by decide) (by decide)).mono ?_
  · simp only [List.mem_cons, List.not_mem_nil, or_false] at hr
    rcases hr with rfl | rfl | rfl | rfl
    · exact S0.out.below (grow1 _ _)
    · exact S1.out.below (grow1 _ _)
    · exact S2.out.below (grow1 _ _)
    · exact S3.out.below (grow1 _ _)
  rintro e w9 ⟨g9, n9, c9, rfl, hn9, hS9, b9⟩
  replace HB := Lib.hid (HB.out.trans (((grow1 _ _).trans (b9.mono (grow1 _ _).size)).mono HB.out.size))
  have HX := Lib.hid (box_new (r := 6) hn9 hS9)
  clear hn9 hS9 b9 S0 S1 S2 S3
  go_wp2_with fail
  exact hQ _ _ _ _ _ _ _ _ _ HX.out (HB.out.trans ((grow1 _ _).mono HB.out.size))

set_option maxRecDepth 100000 in
set_option maxHeartbeats 4000000 in
theorem lit_37 {Q : Exit → Act → World → Prop} {p0 p1 p2 p3 p4 p5 p6 p7 p8 p9 p10 p11 p12 p13 p14 p15 p16 p17 p18 p19 p20 p21 p22 p23 p24 p25 p26 p27 p28 p29 p30 p31 p32 p33 p34 p35 p36 p37 p38 p39 p40 p41 p42 p43 p44 p45 p46 p47 p48 p49 p50 p51 p52 p53 p54 p55 p56 p57 p58 p59 p60 p61 p62 p63 p64 p65 p66 p67 p68 p69 p70 p71 p72 p73 p74 p75 p76 p77 p78 p79 p80 p81 p82 p83 p84 p85 p86 p87 p88 p89 p90 p91 p92 p93 p94 p95 p96 p97 p98 p99 p100 p101 p102 p103 p104 p105 p106 p107 p108 p109 p110 p111 p112 p113 p114 p115 p116 p117 p118 p119 p120 p121 p122 p123 p124 p125 p126 p127 p128 p129 p130 p131 p132 p133 p134 p135 p136 p137 p138 p139 p140 p141 p142 p143 p144 p145 p146 p147 p148 p149 p150 p151 p152 p153 p154 p155 p156 p157 p158 p159 p160 p161 p162 p163 p164 p165 p166 p167 p168 p169 p170 p171 p172 p173 p174 p175 p176 p177 p178 p179 p180 p181 p182 p183 p184 p185 p186 p187 p188 p189 p190 p191 p192 p193 p194 p195 p196 p197 p198 p199 p200 p201 p202 p203 p204 p205 p206 p207 p208 p209 p210 p211 p212 p213 p214 p215 p216 p217 p218 p219 p220 p221 p222 p223 p224 p225 p226 p227 p228 p229 p230 p231 p232 p233 p234 p235 p236 p237 p238 p239 : Value}  (w : World) 
    (hQ : ∀ (y21 y211 y212 y213 y214 y215 y216 y217 : Value) (wx : World), BoxAt wx y21 (ret [leafN, leafN, leafN, nBin 1 1 2, nBin 9 0 3]) 7 → Below w.heap.size w wx → Q .normal ⟨#[p0, p1, p2, p3, p4, p5, p6, p7, p8, p9, p10, p11, p12, p13, p14, p15, p16, p17, p18, p19, p20, y21, p22, p23, p24, p25, p26, p27, p28, p29, p30, p31, p32, p33, p34, p35, p36, p37, p38, p39, p40, p41, p42, p43, p44, p45, p46, p47, p48, p49, p50, p51, p52, p53, p54, p55, p56, p57, p58, p59, p60, p61, p62, p63, p64, p65, p66, p67, p68, p69, p70, p71, p72, p73, p74, p75, p76, p77, p78, p79, p80, p81, p82, p83, p84, p85, p86, p87, p88, p89, p90, p91, p92, p93, p94, p95, p96, p97, p98, p99, p100, p101, p102, p103, p104, p105, p106, p107, p108, p109, p110, p111, p112, p113, p114, p115, p116, p117, p118, p119, p120, p121, p122, p123, p124, p125, p126, p127, p128, p129, p130, p131, p132, p133, p134, p135, p136, p137, p138, p139, p140, p141, p142, p143, p144, p145, p146, p147, p148, p149, p150, p151, p152, p153, p154, p155, p156, p157, p158, p159, p160, p161, p162, p163, p164, p165, p166, p167, p168, p169, p170, p171, p172, p173, p174, p175, p176, p177, p178, p179, p180, p181, p182, p183, p184, p185, p186, p187, p188, p189, p190, p191, p192, p193, p194, p195, p196, p197, p198, p199, p200, p201, p202, p203, p204, p205, p206, p207, p208, p209, p210, y211, y212, y213, y214, y215, y216, y217, p218, p219, p220, p221, p222, p223, p224, p225, p226, p227, p228, p229, p230, p231, p232, p233, p234, p235, p236, p237, p238, p239], []⟩ wx) :
    Code.wp Try.prog (rg 37) Q ⟨#[p0, p1, p2, p3, p4, p5, p6, p7, p8, p9, p10, p11, p12, p13, p14, p15, p16, p17, p18, p19, p20, p21, p22, p23, p24, p25, p26, p27, p28, p29, p30, p31, p32, p33, p34, p35, p36, p37, p38, p39, p40, p41, p42, p43, p44, p45, p46, p47, p48, p49, p50, p51, p52, p53, p54, p55, p56, p57, p58, p59, p60, p61, p62, p63, p64, p65, p66, p67, p68, p69, p70, p71, p72, p73, p74, p75, p76, p77, p78, p79, p80, p81, p82, p83, p84, p85, p86, p87, p88, p89, p90, p91, p92, p93, p94, p95, p96, p97, p98, p99, p100, p101, p102, p103, p104, p105, p106, p107, p108, p109, p110, p111, p112, p113, p114, p115, p116, p117, p118, p119, p120, p121, p122, p123, p124, p125, p126, p127, p128, p129, p130, p131, p132, p133, p134, p135, p136, p137, p138, p139, p140, p141, p142, p143, p144, p145, p146, p147, p148, p149, p150, p151, p152, p153, p154, p155, p156, p157, p158, p159, p160, p161, p162, p163, p164, p165, p166, p167, p168, p169, p170, p171, p172, p173, p174, p175, p176, p177, p178, p179, p180, p181, p182, p183, p184, p185, p186, p187, p188, p189, p190, p191, p192, p193, p194, p195, p196, p197, p198, p199, p200, p201, p202, p203, p204, p205, p206, p207, p208, p209, p210, p211, p212, p213, p214, p215, p216, p217, p218, p219, p220, p221, p222, p223, p224, p225, p226, p227, p228, p229, p230, p231, p232, p233, p234, p235, p236, p237, p238, p239], []⟩ w := by
  have one : 1 ≤ maxLen := by unfold maxLen; omega
  conv => arg 2; whnf
  have HB := Lib.hid (Below.refl w.heap.size w)
  go_wp2_with fail
  refine (leaf_fn _).mono ?_
  rintro e w0 ⟨v, rfl, ⟨an0, cn0, ak0, ck0, rfl, s0⟩, b⟩
  replace HB := Lib.hid (HB.out.trans ((b).mono HB.out.size))
  have S0 := Lib.hid s0
  clear b s0
  go_wp2_with fail
  refine (leaf_fn _).mono ?_
  rintro e w1 ⟨v, rfl, ⟨an1, cn1, ak1, ck1, rfl, s1⟩, b⟩
  replace S0 := Lib.hid (S0.out.below b)
  replace HB := Lib.hid (HB.out.trans ((b).mono HB.out.size))
  have S1 := Lib.hid s1
  clear b s1
  go_wp2_with fail
  refine (leaf_fn _).mono ?_
  rintro e w2 ⟨v, rfl, ⟨an2, cn2, ak2, ck2, rfl, s2⟩, b⟩
  replace S0 := Lib.hid (S0.out.below b)
  replace S1 := Lib.hid (S1.out.below b)
  replace HB := Lib.hid (HB.out.trans ((b).mono HB.out.size))
  have S2 := Lib.hid s2
  clear b s2
  go_wp2_with fail
  refine (bin_fn 1 1 2 _ (by decide)).mono ?_
  rintro e w3 ⟨v, rfl, ⟨an3, cn3, ak3, ck3, rfl, s3⟩, b⟩
  replace S0 := Lib.hid (S0.out.below b)
  replace S1 := Lib.hid (S1.out.below b)
  replace S2 := Lib.hid (S2.out.below b)
  replace HB := Lib.hid (HB.out.trans ((b).mono HB.out.size))
  have S3 := Lib.hid s3
  clear b s3
  go_wp2_with fail
  refine (bin_fn 9 0 3 _ (by decide)).mono ?_
  rintro e w4 ⟨v, rfl, ⟨an4, cn4, ak4, ck4, rfl, s4⟩, b⟩
  replace S0 := Lib.hid (S0.out.below b)
  replace S1 := Lib.hid (S1.out.below b)
  replace S2 := Lib.hid (S2.out.below b)
  replace S3 := Lib.hid (S3.out.below b)
  replace HB := Lib.hid (HB.out.trans ((b).mono HB.out.size))
  have S4 := Lib.hid s4
  clear b s4
  go_wp2_with fail
  refine (ret_lit (m := 5) [((leafN : Nd), Value.slice an0 0 cn0, Value.slice ak0 0 ck0), ((leafN : Nd), Value.slice an1 0 cn1, Value.slice ak1 0 ck1), ((leafN : Nd), Value.slice an2 0 cn2, Value.slice ak2 0 ck2), (((nBin 1 1 2) : Nd), Value.slice an3 0 cn3, Value.slice ak3 2 ck3), (((nBin 9 0 3) : Nd), Value.slice an4 0 cn4, Value.slice ak4 2 ck4)] [leafN, leafN, leafN, nBin 1 1 2, nBin 9 0 3] 7 _ ⟨own_lit (Nat.zero_le _) (hit (by simp)) rfl (show 5 ≤ maxLen from by unfold maxLen; omega), fun r hr => ?_⟩ rfl rfl (by decide) (by decide) (by decide)).mono ?_
  · simp only [List.mem_cons, List.not_mem_nil, or_false] at hr
    rcases hr with rfl | rfl | rfl | rfl | rfl
    · exact S0.out.below (grow1 _ _)
    · exact S1.out.below (grow1 _ _)
    · exact S2.out.below (grow1 _ _)
    · exact S3.out.below (grow1 _ _)
    · exact S4.out.below (grow1 _ _)
  rintro e w9 ⟨g9, n9, c9, rfl, hn9, hS9, b9⟩
  replace HB := Lib.hid (HB.out.trans (((grow1 _ _).trans (b9.mono (grow1 _ _).size)).mono HB.out.size))
  have HX := Lib.hid (box_new (r := 7) hn9 hS9)
  clear hn9 hS9 b9 S0 S1 S2 S3 S4
  go_wp2_with fail
  exact hQ _ _ _ _ _ _ _ _ _ HX.out (HB.out.trans ((grow1 _ _).mono HB.out.size))

end Go.Proofs.Ytmddffacjkkeiaa.Nd
