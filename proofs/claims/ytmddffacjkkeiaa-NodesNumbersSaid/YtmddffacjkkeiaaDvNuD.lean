/-
  Layer 5: NodesNumbers, the chain to the left.
-/
import Derived.Test.YtmddffacjkkeiaaDvFam3
import Derived.Deep.CutBlock
import Derived.Deep.DeepCutAuto
namespace Go.Proofs.Ytmddffacjkkeiaa.Nd
open Go Go.RowKit Go.ChangeShapes Go.WideShapes Go.Shelf
open Go.Proofs.Ytmddffacjkkeiaa.Rf

set_option maxRecDepth 100000 in
set_option maxHeartbeats 4000000 in
theorem blk_4 {Q : Exit → Act → World → Prop} {p0 p1 p2 p3 p4 p5 p6 p7 p8 p9 p10 p11 p12 p15 p16 p17 p18 p19 p20 p21 p22 p23 p24 p25 p26 p27 p28 p29 p30 p31 p32 p33 p34 p35 p36 p37 p38 p39 p40 p41 p42 p43 p44 p45 p46 p47 p48 p49 p50 p51 p52 p53 p54 p55 p56 p57 p58 p59 p60 p61 p62 p63 p64 p65 p66 p67 p68 p69 p70 p71 p72 p73 p74 p75 p76 p77 p78 p79 p80 p81 p82 p83 p84 p85 p86 p87 p88 p89 p90 p91 p92 p93 p94 p95 p96 p97 p98 p99 p100 p101 p102 p103 p104 p105 p106 p107 p108 p109 p110 p111 p112 p113 p114 p115 p116 p117 p118 p119 p120 p121 p122 p123 p124 p125 p126 p127 p128 p129 p130 p131 p132 p133 p134 p135 p136 p137 p138 p139 p140 p141 p142 p143 p144 p145 p146 p147 p148 p149 p150 p151 p152 p153 p154 p155 p156 p157 p158 p159 p160 p161 p162 p163 p164 p165 p166 p167 p168 p169 p170 p171 p172 p173 p174 p175 p176 p177 p178 p179 p180 p181 p182 p183 p184 p185 p186 p187 p188 p189 p190 p191 p192 p193 p194 p195 p196 p197 p198 p199 p200 p201 p202 p203 p204 p205 p206 p207 p208 p209 p210 p211 p212 p213 p214 p215 p216 p217 p218 p219 p220 p221 p222 p223 p224 p225 p226 p227 p228 p229 p230 p231 p232 p233 p234 p235 p236 p237 p238 p239 : Value} {Z : Nat} (w0 : World) {rs0 : List R3} (w : World) (HO : Hid (OwnNd w Z (.slice (some ⟨Z, 0, none⟩) 1 1) rs0)) (hr0 : rs0.map (·.1) = chain 0) (HZ : Hid (Z ≤ w.heap.size ∧ w0.heap.size ≤ Z)) (HBR : Hid (Below w0.heap.size w0 w))
    (hQ : ∀ (y13 y14 y142 y143 y144 y145 y146 y147 y148 y149 y150 y151 y152 y153 y154 y155 : Value) (wx : World), ∀ rs : List R3, OwnNd wx Z y13 rs → rs.map (·.1) = chain 600 → Below w0.heap.size w0 wx → Q .normal ⟨#[p0, p1, p2, p3, p4, p5, p6, p7, p8, p9, p10, p11, p12, y13, y14, p15, p16, p17, p18, p19, p20, p21, p22, p23, p24, p25, p26, p27, p28, p29, p30, p31, p32, p33, p34, p35, p36, p37, p38, p39, p40, p41, p42, p43, p44, p45, p46, p47, p48, p49, p50, p51, p52, p53, p54, p55, p56, p57, p58, p59, p60, p61, p62, p63, p64, p65, p66, p67, p68, p69, p70, p71, p72, p73, p74, p75, p76, p77, p78, p79, p80, p81, p82, p83, p84, p85, p86, p87, p88, p89, p90, p91, p92, p93, p94, p95, p96, p97, p98, p99, p100, p101, p102, p103, p104, p105, p106, p107, p108, p109, p110, p111, p112, p113, p114, p115, p116, p117, p118, p119, p120, p121, p122, p123, p124, p125, p126, p127, p128, p129, p130, p131, p132, p133, p134, p135, p136, p137, p138, p139, p140, p141, y142, y143, y144, y145, y146, y147, y148, y149, y150, y151, y152, y153, y154, y155, p156, p157, p158, p159, p160, p161, p162, p163, p164, p165, p166, p167, p168, p169, p170, p171, p172, p173, p174, p175, p176, p177, p178, p179, p180, p181, p182, p183, p184, p185, p186, p187, p188, p189, p190, p191, p192, p193, p194, p195, p196, p197, p198, p199, p200, p201, p202, p203, p204, p205, p206, p207, p208, p209, p210, p211, p212, p213, p214, p215, p216, p217, p218, p219, p220, p221, p222, p223, p224, p225, p226, p227, p228, p229, p230, p231, p232, p233, p234, p235, p236, p237, p238, p239], []⟩ wx) :
    Code.wp Try.prog (bk 4) Q ⟨#[p0, p1, p2, p3, p4, p5, p6, p7, p8, p9, p10, p11, p12, .slice (some ⟨Z, 0, none⟩) 1 1, .int .i64 0, p15, p16, p17, p18, p19, p20, p21, p22, p23, p24, p25, p26, p27, p28, p29, p30, p31, p32, p33, p34, p35, p36, p37, p38, p39, p40, p41, p42, p43, p44, p45, p46, p47, p48, p49, p50, p51, p52, p53, p54, p55, p56, p57, p58, p59, p60, p61, p62, p63, p64, p65, p66, p67, p68, p69, p70, p71, p72, p73, p74, p75, p76, p77, p78, p79, p80, p81, p82, p83, p84, p85, p86, p87, p88, p89, p90, p91, p92, p93, p94, p95, p96, p97, p98, p99, p100, p101, p102, p103, p104, p105, p106, p107, p108, p109, p110, p111, p112, p113, p114, p115, p116, p117, p118, p119, p120, p121, p122, p123, p124, p125, p126, p127, p128, p129, p130, p131, p132, p133, p134, p135, p136, p137, p138, p139, p140, p141, p142, p143, p144, p145, p146, p147, p148, p149, p150, p151, p152, p153, p154, p155, p156, p157, p158, p159, p160, p161, p162, p163, p164, p165, p166, p167, p168, p169, p170, p171, p172, p173, p174, p175, p176, p177, p178, p179, p180, p181, p182, p183, p184, p185, p186, p187, p188, p189, p190, p191, p192, p193, p194, p195, p196, p197, p198, p199, p200, p201, p202, p203, p204, p205, p206, p207, p208, p209, p210, p211, p212, p213, p214, p215, p216, p217, p218, p219, p220, p221, p222, p223, p224, p225, p226, p227, p228, p229, p230, p231, p232, p233, p234, p235, p236, p237, p238, p239], []⟩ w := by
  have one : 1 ≤ maxLen := by unfold maxLen; omega
  conv => arg 2; whnf
  go_wp2_with fail
  go_loopg [13, 14] 600 (fun r l i wx => ∃ (j : Nat) (rs : List R3), r = 600 - j ∧ i = .int .i64 (j : Int) ∧ j ≤ 600 ∧ OwnNd wx Z l rs ∧ rs.map (·.1) = chain j ∧ Below w0.heap.size w0 wx ∧ Z ≤ wx.heap.size)
  case atStart => exact ⟨0, _, rfl, rfl, Nat.zero_le _, HO.out, hr0, HBR.out, HZ.out.1⟩
  case round =>
    obtain ⟨j, rs, rfl, rfl, hj, ho, hm, hb, hz⟩ := hrel
    by_cases hjl : j < 600
    · have hjl' : (j : Int) < 600 := by omega
      have jw : IntKind.i64.wrap ((j : Int) + 1) = ((j + 1 : Nat) : Int) := by rw [show (j : Int) + 1 = ((j + 1 : Nat) : Int) by omega]; exact IntWalk.i64_in _ (by omega)
      obtain ⟨a, ha⟩ : ∃ a : Int, ((2 * j : Nat) : Int) = a := ⟨_, rfl⟩
      obtain ⟨b, hb'⟩ : ∃ b : Int, ((2 * j + 1 : Nat) : Int) = b := ⟨_, rfl⟩
      have m1 : IntKind.i64.wrap (2 * (j : Int)) = a := by rw [← ha, show (2 : Int) * (j : Int) = ((2 * j : Nat) : Int) by omega]; exact IntWalk.i64_in _ (by omega)
      have m2 : IntKind.i64.wrap (a + 1) = b := by rw [← ha, ← hb', show ((2 * j : Nat) : Int) + 1 = ((2 * j + 1 : Nat) : Int) by omega]; exact IntWalk.i64_in _ (by omega)
      have HC := Lib.hid (show chain (j + 1) = chain j ++ [leafN, nBin 1 a b] from by rw [← ha, ← hb']; rfl)
      have HRS := Lib.hid (show rs.length = 2 * j + 1 from by rw [← chain_len, ← hm, List.length_map])
      have HO1 := Lib.hid ho
      have HM := Lib.hid hm
      have HB1 := Lib.hid (show Below w0.heap.size w0 wr ∧ Z ≤ wr.heap.size from ⟨hb, hz⟩)
      clear ho hm hb hz ha hb' HO HBR
      go_wp2_with fail
      refine (leaf_fn _).mono ?_
      rintro e v1 ⟨v, rfl, ⟨an1, cn1, ak1, ck1, rfl, s1⟩, b1⟩
      replace HO1 := Lib.hid (HO1.out.below b1)
      replace HB1 := Lib.hid (show Below w0.heap.size w0 v1 ∧ Z ≤ v1.heap.size from ⟨HB1.out.1.trans (b1.mono HB1.out.1.size), Nat.le_trans HB1.out.2 b1.size⟩)
      have S1 := Lib.hid s1
      clear s1 b1
      go_wp2_with fail
      refine (bin_fn 1 a b _ (by decide)).mono ?_
      rintro e v2 ⟨v, rfl, ⟨an2, cn2, ak2, ck2, rfl, s2⟩, b2⟩
      have hal := grow1 v2 (.cells #[.int .u8 23, .int .i64 5, .string ⟨#[]⟩, .slice an1 0 cn1, .slice ak1 0 ck1, .int .i64 2, .int .u8 31, .int .i64 1, .string ⟨#[]⟩, .slice an2 0 cn2, .slice ak2 2 ck2, .int .i64 1] 30)
      have hx : (v2.alloc (.cells #[.int .u8 23, .int .i64 5, .string ⟨#[]⟩, .slice an1 0 cn1, .slice ak1 0 ck1, .int .i64 2, .int .u8 31, .int .i64 1, .string ⟨#[]⟩, .slice an2 0 cn2, .slice ak2 2 ck2, .int .i64 1] 30)).heap[v2.heap.size]? = _ := hit rfl
      obtain ⟨qs, hqs⟩ : ∃ qs : List R3, [(leafN, Value.slice an1 0 cn1, Value.slice ak1 0 ck1), (nBin 1 a b, Value.slice an2 0 cn2, Value.slice ak2 2 ck2)] = qs := ⟨_, rfl⟩
      have HQ := Lib.hid (show qs.length = 2 ∧ qs.map (·.1) = [leafN, nBin 1 a b] ∧ (∀ r ∈ qs, Sub (v2.alloc (.cells #[.int .u8 23, .int .i64 5, .string ⟨#[]⟩, .slice an1 0 cn1, .slice ak1 0 ck1, .int .i64 2, .int .u8 31, .int .i64 1, .string ⟨#[]⟩, .slice an2 0 cn2, .slice ak2 2 ck2, .int .i64 1] 30)) r) ∧ (∀ (j : Nat) (u : Value), (rowCells qs)[j]? = some u → (v2.alloc (.cells #[.int .u8 23, .int .i64 5, .string ⟨#[]⟩, .slice an1 0 cn1, .slice ak1 0 ck1, .int .i64 2, .int .u8 31, .int .i64 1, .string ⟨#[]⟩, .slice an2 0 cn2, .slice ak2 2 ck2, .int .i64 1] 30)).cell? ⟨v2.heap.size, j, none⟩ = some u) from by
        subst hqs
        refine ⟨rfl, rfl, fun r hr => ?_, cells_lit hx rfl⟩
        simp only [List.mem_cons, List.not_mem_nil, or_false] at hr
        rcases hr with rfl | rfl
        · exact (S1.out.below b2).below hal
        · exact s2.below hal)
      have HO2 := Lib.hid ((HO1.out.below b2).below hal)
      have hb3 := HB1.out.1.trans (b2.mono HB1.out.1.size)
      have HB3 := Lib.hid (show Below w0.heap.size w0 (v2.alloc (.cells #[.int .u8 23, .int .i64 5, .string ⟨#[]⟩, .slice an1 0 cn1, .slice ak1 0 ck1, .int .i64 2, .int .u8 31, .int .i64 1, .string ⟨#[]⟩, .slice an2 0 cn2, .slice ak2 2 ck2, .int .i64 1] 30)) ∧ Z ≤ (v2.alloc (.cells #[.int .u8 23, .int .i64 5, .string ⟨#[]⟩, .slice an1 0 cn1, .slice ak1 0 ck1, .int .i64 2, .int .u8 31, .int .i64 1, .string ⟨#[]⟩, .slice an2 0 cn2, .slice ak2 2 ck2, .int .i64 1] 30)).heap.size from ⟨hb3.trans (hal.mono hb3.size), Nat.le_trans (Nat.le_trans HB1.out.2 b2.size) hal.size⟩)
      clear hal hx hqs s2 b2 hb3 HO1 HB1 S1
      go_wp2_with (at_builtin; refine wpList_append_rows rfl (.tmp 146) (.tmp 154) rfl Z _ rs qs rfl HO2.out HQ.out.2.2.1 v2.heap.size 2 2 HQ.out.1 rfl HQ.out.2.2.2 ?z1 ?z2 ?_)
      case z1 => have := HRS.out; have := HQ.out.1; omega
      case z2 => exact HB3.out.2
      intro v' w0' ho hb hg
      have HO4 := Lib.hid ho
      have HB4 := Lib.hid (show Below w0.heap.size w0 w0' ∧ Z ≤ w0'.heap.size from ⟨HB3.out.1.trans (hb.mono HZ.out.2), Nat.le_trans HB3.out.2 hb.size⟩)
      clear ho hb hg
      go_wp2_with fail
      go_roundg (600 - (j + 1))
      case measure => omega
      case rel => exact ⟨j + 1, _, rfl, by first | rfl | (rw [jw]) | simp [jw], by omega, HO4.out, by rw [List.map_append, HM.out, HQ.out.2.1, HC.out], HB4.out⟩
    · obtain rfl : j = 600 := by omega
      have hjl' : ¬ ((600 : Nat) : Int) < 600 := by omega
      have HX := Lib.hid (show OwnNd wr Z _ rs ∧ rs.map (·.1) = chain 600 ∧ Below w0.heap.size w0 wr from ⟨ho, hm, hb⟩)
      clear ho hm hb hz
      go_wp2_with fail
      exact hQ _ _ _ _ _ _ _ _ _ _ _ _ _ _ _ _ _ rs HX.out.1 HX.out.2.1 HX.out.2.2

end Go.Proofs.Ytmddffacjkkeiaa.Nd
