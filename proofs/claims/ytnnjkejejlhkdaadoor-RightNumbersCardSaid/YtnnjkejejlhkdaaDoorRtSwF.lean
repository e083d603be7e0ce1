/-
  Layer 9: the spoilt pair 16.
-/
import Derived.Test.YtnnjkejejlhkdaaDoorRtSpoil3
namespace Go.Proofs.YtnnjkejejlhkdaaDoor.Rt
open Go Go.RowKit

set_option maxHeartbeats 8000000 in
set_option maxRecDepth 100000 in
theorem sw_16 {Q : Exit → Act → World → Prop} {p0 p1 p6 p7 p8 p9 p10 p11 p12 p13 p14 p15 p16 p17 p18 p19 p20 p21 p22 p23 p24 p25 p27 p28 p29 p30 p31 p32 p33 p34 p35 p36 p37 p38 p39 p40 p41 p42 p43 p44 p45 p46 p47 p48 p49 p50 p51 p52 p53 p54 p55 p56 p57 p58 p59 p60 p61 p62 p63 p64 p65 p66 p67 p68 p69 p70 p71 p72 p73 p74 p75 p76 p77 p78 p79 p80 p81 p82 p83 p84 p85 p86 p87 p88 p89 p90 p91 p92 p93 p94 p95 p96 p97 p98 p99 p100 p101 p102 p103 p104 p105 p106 p107 p108 p109 p110 p111 p112 p113 p114 p115 p116 p117 p118 p119 p120 p121 p122 p123 p124 p125 p126 p127 p128 p129 p130 p131 p132 p133 p134 p135 p136 p137 p138 p139 p140 p141 p142 p143 p144 p145 p146 p147 p148 p149 p150 p151 p152 p153 p154 p155 p156 p157 p158 p159 p160 p161 p162 p163 p164 p165 p166 p167 p168 p169 p170 p171 p172 p173 p174 p175 p176 p177 p178 p179 p180 p181 p182 p183 p184 p185 p186 p187 p188 p189 p190 p191 p192 p193 p194 p195 p196 p197 p198 p199 p200 p201 p202 p203 p204 p205 p206 p207 p208 p209 p210 p211 p212 p213 p214 p215 p216 p217 p218 p219 p220 p221 p222 p223 p224 p225 p226 p227 p228 p229 p230 p231 p232 p233 p234 p235 p236 p237 p238 p239 p240 p241 p242 p243 p244 p245 p246 p247 p248 p249 p250 p251 p252 p253 p254 p255 p256 p257 p258 p259 p260 p261 p262 p263 p264 p265 p266 p267 p268 p269 p270 p271 p272 p273 p274 p275 p276 p277 p278 p279 p280 p281 p282 p283 p284 p285 p286 : Value} {q : Nat} {o : Option Nat} {w0 w : World} (hS : Start q w0 w) (hO : ∀ j, o = some j → j ≤ q)
    (hQ : ∀ (n27 n28 n29 n30 n31 n32 n33 n34 n35 n36 n37 n38 n39 n40 n41 n42 n43 n44 n45 n46 n47 n48 n49 n50 n51 n52 n53 n54 n55 n56 n57 n58 n59 n60 n61 n62 n63 n64 n65 n66 n67 n68 n69 n70 n71 n72 n73 n74 n75 n76 n77 n78 n79 n80 n81 n82 n83 n84 n85 n86 n87 n88 n89 n90 n91 n92 n93 n94 n95 n96 n97 n98 n99 n100 n101 n102 n103 n104 n105 n106 n107 n108 n109 n110 n111 n112 n113 n114 n115 n116 n117 n118 n119 n120 n121 n122 n123 n124 n125 n126 n127 n128 n129 n130 n131 n132 n133 n134 n135 n136 n137 n138 n139 n140 n141 n142 n143 n144 n145 n146 n147 n148 n149 n150 n151 n152 n153 n154 n155 n156 n157 n158 n159 n160 n161 n162 n163 n164 n165 n166 n167 n168 n169 n170 n171 n172 n173 n174 n175 n176 n177 n178 n179 n180 n181 n182 n183 n184 n185 n186 n187 n188 n189 n190 n191 n192 n193 n194 n195 n196 n197 n198 n199 n200 n201 n202 n203 n204 n205 n206 n207 n208 n209 n210 n211 n212 n213 n214 n215 n216 n217 n218 : Value) (wx : World), Spoils q q o w0 wx (spoiltP 16) → Q .normal ⟨(p0 :: p1 :: .int .i64 16 :: .pointer (some ⟨q + 12, 0, none⟩) :: .pointer (some ⟨q + 11, 0, none⟩) :: .pointer (some ⟨q + 11, 8, none⟩) :: p6 :: p7 :: p8 :: p9 :: p10 :: p11 :: p12 :: p13 :: p14 :: p15 :: p16 :: p17 :: p18 :: p19 :: p20 :: p21 :: p22 :: p23 :: p24 :: p25 :: .int .i64 16 :: n27 :: n28 :: n29 :: n30 :: n31 :: n32 :: n33 :: n34 :: n35 :: n36 :: n37 :: n38 :: n39 :: n40 :: n41 :: n42 :: n43 :: n44 :: n45 :: n46 :: n47 :: n48 :: n49 :: n50 :: n51 :: n52 :: n53 :: n54 :: n55 :: n56 :: n57 :: n58 :: n59 :: n60 :: n61 :: n62 :: n63 :: n64 :: n65 :: n66 :: n67 :: n68 :: n69 :: n70 :: n71 :: n72 :: n73 :: n74 :: n75 :: n76 :: n77 :: n78 :: n79 :: n80 :: n81 :: n82 :: n83 :: n84 :: n85 :: n86 :: n87 :: n88 :: n89 :: n90 :: n91 :: n92 :: n93 :: n94 :: n95 :: n96 :: n97 :: n98 :: n99 :: n100 :: n101 :: n102 :: n103 :: n104 :: n105 :: n106 :: n107 :: n108 :: n109 :: n110 :: n111 :: n112 :: n113 :: n114 :: n115 :: n116 :: n117 :: n118 :: n119 :: n120 :: n121 :: n122 :: n123 :: n124 :: n125 :: n126 :: n127 :: n128 :: n129 :: n130 :: n131 :: n132 :: n133 :: n134 :: n135 :: n136 :: n137 :: n138 :: n139 :: n140 :: n141 :: n142 :: n143 :: n144 :: n145 :: n146 :: n147 :: n148 :: n149 :: n150 :: n151 :: n152 :: n153 :: n154 :: n155 :: n156 :: n157 :: n158 :: n159 :: n160 :: n161 :: n162 :: n163 :: n164 :: n165 :: n166 :: n167 :: n168 :: n169 :: n170 :: n171 :: n172 :: n173 :: n174 :: n175 :: n176 :: n177 :: n178 :: n179 :: n180 :: n181 :: n182 :: n183 :: n184 :: n185 :: n186 :: n187 :: n188 :: n189 :: n190 :: n191 :: n192 :: n193 :: n194 :: n195 :: n196 :: n197 :: n198 :: n199 :: n200 :: n201 :: n202 :: n203 :: n204 :: n205 :: n206 :: n207 :: n208 :: n209 :: n210 :: n211 :: n212 :: n213 :: n214 :: n215 :: n216 :: n217 :: n218 :: p219 :: p220 :: p221 :: p222 :: p223 :: p224 :: p225 :: p226 :: p227 :: p228 :: p229 :: p230 :: p231 :: p232 :: p233 :: p234 :: p235 :: p236 :: p237 :: p238 :: p239 :: p240 :: p241 :: p242 :: p243 :: p244 :: p245 :: p246 :: p247 :: p248 :: p249 :: p250 :: p251 :: p252 :: p253 :: p254 :: p255 :: p256 :: p257 :: p258 :: p259 :: p260 :: p261 :: p262 :: p263 :: p264 :: p265 :: p266 :: p267 :: p268 :: p269 :: p270 :: p271 :: p272 :: p273 :: p274 :: p275 :: p276 :: p277 :: p278 :: p279 :: p280 :: p281 :: p282 :: p283 :: p284 :: p285 :: p286 :: []).toArray, []⟩ wx) :
    Code.wp Tryd.prog swCode Q ⟨(p0 :: p1 :: .int .i64 16 :: .pointer (some ⟨q + 12, 0, none⟩) :: .pointer (some ⟨q + 11, 0, none⟩) :: .pointer (some ⟨q + 11, 8, none⟩) :: p6 :: p7 :: p8 :: p9 :: p10 :: p11 :: p12 :: p13 :: p14 :: p15 :: p16 :: p17 :: p18 :: p19 :: p20 :: p21 :: p22 :: p23 :: p24 :: p25 :: .int .i64 16 :: p27 :: p28 :: p29 :: p30 :: p31 :: p32 :: p33 :: p34 :: p35 :: p36 :: p37 :: p38 :: p39 :: p40 :: p41 :: p42 :: p43 :: p44 :: p45 :: p46 :: p47 :: p48 :: p49 :: p50 :: p51 :: p52 :: p53 :: p54 :: p55 :: p56 :: p57 :: p58 :: p59 :: p60 :: p61 :: p62 :: p63 :: p64 :: p65 :: p66 :: p67 :: p68 :: p69 :: p70 :: p71 :: p72 :: p73 :: p74 :: p75 :: p76 :: p77 :: p78 :: p79 :: p80 :: p81 :: p82 :: p83 :: p84 :: p85 :: p86 :: p87 :: p88 :: p89 :: p90 :: p91 :: p92 :: p93 :: p94 :: p95 :: p96 :: p97 :: p98 :: p99 :: p100 :: p101 :: p102 :: p103 :: p104 :: p105 :: p106 :: p107 :: p108 :: p109 :: p110 :: p111 :: p112 :: p113 :: p114 :: p115 :: p116 :: p117 :: p118 :: p119 :: p120 :: p121 :: p122 :: p123 :: p124 :: p125 :: p126 :: p127 :: p128 :: p129 :: p130 :: p131 :: p132 :: p133 :: p134 :: p135 :: p136 :: p137 :: p138 :: p139 :: p140 :: p141 :: p142 :: p143 :: p144 :: p145 :: p146 :: p147 :: p148 :: p149 :: p150 :: p151 :: p152 :: p153 :: p154 :: p155 :: p156 :: p157 :: p158 :: p159 :: p160 :: p161 :: p162 :: p163 :: p164 :: p165 :: p166 :: p167 :: p168 :: p169 :: p170 :: p171 :: p172 :: p173 :: p174 :: p175 :: p176 :: p177 :: p178 :: p179 :: p180 :: p181 :: p182 :: p183 :: p184 :: p185 :: p186 :: p187 :: p188 :: p189 :: p190 :: p191 :: p192 :: p193 :: p194 :: p195 :: p196 :: p197 :: p198 :: p199 :: p200 :: p201 :: p202 :: p203 :: p204 :: p205 :: p206 :: p207 :: p208 :: p209 :: p210 :: p211 :: p212 :: p213 :: p214 :: p215 :: p216 :: p217 :: p218 :: p219 :: p220 :: p221 :: p222 :: p223 :: p224 :: p225 :: p226 :: p227 :: p228 :: p229 :: p230 :: p231 :: p232 :: p233 :: p234 :: p235 :: p236 :: p237 :: p238 :: p239 :: p240 :: p241 :: p242 :: p243 :: p244 :: p245 :: p246 :: p247 :: p248 :: p249 :: p250 :: p251 :: p252 :: p253 :: p254 :: p255 :: p256 :: p257 :: p258 :: p259 :: p260 :: p261 :: p262 :: p263 :: p264 :: p265 :: p266 :: p267 :: p268 :: p269 :: p270 :: p271 :: p272 :: p273 :: p274 :: p275 :: p276 :: p277 :: p278 :: p279 :: p280 :: p281 :: p282 :: p283 :: p284 :: p285 :: p286 :: []).toArray, []⟩ w := by
  have HS := Lib.hid hS
  have HO := Lib.hid hO
  have HK := Lib.hid hQ
  clear hS hO hQ
  conv => arg 2; whnf
  have hP := HS.out.1.1
  have hp := HS.out.1.2
  have hb := HS.out.2.1
  have hsz := HS.out.2.2
  have x18 : w.cell? ⟨q + 11, 6, none⟩ = some (.slice (some ⟨q + 5, 0, none⟩) 1 1) := cell_of hP.b11 6 _ rfl
  obtain ⟨W1, hW1⟩ : ∃ W, w.alloc (.cells #[.int .u8 7, .int .i64 1, .slice none 0 0] 41) = W := ⟨_, rfl⟩
  have hn : W1.heap[q + 13]? = some (.cells #[.int .u8 7, .int .i64 1, nilS] 41 (0, 0)) := by rw [← hW1]; exact new_at _ hsz
  have hs1 : W1.heap.size = q + 14 := by rw [← hW1]; exact size_grow _ hsz
  have hP1 : PairAt q #[.bool true, .bool false] (xStmtC q) xExprC #[.bool true, .int .i64 0] (yStmtC q) yExprC (xyC q) W1 := by rw [← hW1]; exact hP.grow _
  have hp1 : W1.heap[q + 12]? = some (.cells #[nilS, sl (q + 11) 2] 26 (0, 0)) := by rw [← hW1]; exact grow_at _ hp
  have hb1 : Below q w0 W1 := by rw [← hW1]; exact hb.alloc (by omega) _
  have HN := Lib.hid hn
  have HS1 := Lib.hid hs1
  have HP1 := Lib.hid hP1
  have HPP := Lib.hid hp1
  have HB := Lib.hid hb1
  have HSZ := Lib.hid hsz
  clear hn hs1 hP1 hp1 hb1 hP hp hb
  go_wp2_with (at_builtin; go_loud (refine wpList_append_ex (q := q) (g0 := q + 5) (g := q + 13) (m := 1) rfl (.tmp 177) (.tmp 179) rfl rfl (row_of_pair (by omega) HP1.out.b5 rfl) rfl HN.out rfl (by decide) ?_ (by have := HS1.out; omega) ?_))
  · intro u hu
    simp only [List.mem_cons, List.not_mem_nil, or_false] at hu
    rcases hu with rfl | rfl | rfl <;> rfl
  · intro v1 w1 hv hg
    obtain ⟨ao, cc, rfl⟩ : ∃ ao c, v1 = .slice ao 2 c := by
      rcases hv.2 with ⟨_, h0⟩ | ⟨g, cap, cur, rfl, _⟩
      · omega
      · exact ⟨_, _, rfl⟩
    have h5 := HP1.out.no5 hg
    have x20 := cell_of h5.b11 6 _ rfl
    have f20 := frozen_of_row w1 (q + 11) 6 _ _ h5.b11
    have HV := Lib.hid hv
    have H5 := Lib.hid h5
    have HP2 := Lib.hid (show w1.heap[q + 12]? = some (.cells #[nilS, sl (q + 11) 2] 26 (0, 0)) from (hg.block _ (lt_of_get HPP.out) (fun e => by have := Option.some.inj e; omega)).trans HPP.out)
    have HB2 := Lib.hid (show Below q w0 w1 from HB.out.grown hg (by have := HS1.out; omega) (fun k hk => by have := Option.some.inj hk; omega))
    clear hv hg h5
    go_upto_region 46 with fail
    obtain ⟨W2, hW2⟩ : ∃ W, w1.setCell ⟨q + 11, 6, none⟩ (.slice ao 2 cc) = W := ⟨_, rfl⟩
    rw [hW2]
    have g5 : PairNo5 q #[.bool true, .bool false] (xStmtC q) #[.bool true, .int .i64 0] (yStmtC q) yExprC #[.int .i64 0, .bool true, .int .i64 2, sl (q + 1) 2, nilS, sl (q + 4) 1, .slice ao 2 cc, .int .i64 0, .int .i64 1, .bool false, .int .i64 1, sl (q + 6) 1, sl (q + 7) 1, sl (q + 9) 1, sl (q + 10) 1, .int .i64 0] W2 := by rw [← hW2]; exact H5.out.set11 6 _
    have HV2 := Lib.hid (show W2.ownsRow (q + 1) 41 3 (.slice ao 2 cc) 2 [.int .u8 7, .int .i64 1, nilS, .int .u8 7, .int .i64 1, nilS] by rw [← hW2]; exact own_other HV.out H5.out.b11 (by decide))
    have HP3 := Lib.hid (show W2.heap[q + 12]? = some (.cells #[nilS, sl (q + 11) 2] 26 (0, 0)) by rw [← hW2]; exact at_set HP2.out (by omega))
    have HB3 := Lib.hid (show Below q w0 W2 by rw [← hW2]; exact HB2.out.setCell (by show q ≤ q + 11; omega) _)
    obtain ⟨r, hr⟩ : ∃ r, W2.heap.size = r := ⟨_, rfl⟩
    have hqr : q + 12 < r := by rw [← hr]; exact lt_of_get HP3.out
    have n1 : ¬ q + 4 = r := by omega
    have n2 : ¬ r = q + 4 := by omega
    have n3 : q + 4 < r := by omega
    have x21 : W2.cell? ⟨q + 11, 5, none⟩ = some (.slice (some ⟨q + 4, 0, none⟩) 1 1) := cell_of g5.b11 5 _ rfl
    have f30 := frozen_of_row W2 (q + 4) 0 _ _ g5.b4
    have x30 := cell_of g5.b4 0 _ rfl
    have f31 := frozen_of_row W2 (q + 4) 1 _ _ g5.b4
    have x31 := cell_of g5.b4 1 _ rfl
    have f32 := frozen_of_row W2 (q + 4) 2 _ _ g5.b4
    have x32 := cell_of g5.b4 2 _ rfl
    have f33 := frozen_of_row W2 (q + 4) 3 _ _ g5.b4
    have x33 := cell_of g5.b4 3 _ rfl
    have f34 := frozen_of_row W2 (q + 4) 4 _ _ g5.b4
    have x34 := cell_of g5.b4 4 _ rfl
    have f35 := frozen_of_row W2 (q + 4) 5 _ _ g5.b4
    have x35 := cell_of g5.b4 5 _ rfl
    have f36 := frozen_of_row W2 (q + 4) 6 _ _ g5.b4
    have x36 := cell_of g5.b4 6 _ rfl
    have fa := frozen_of_row (W2.alloc (.cells #[.int .i64 0, .int .i64 1] 3)) (q + 4) 0 _ _ (g5.grow _).b4
    have xa := cell_of (g5.grow (.cells #[.int .i64 0, .int .i64 1] 3)).b4 0 _ rfl
    have H6 := Lib.hid g5
    have HR := Lib.hid hqr
    clear g5 x20 f20 x18 hW2 HV HP2 HB2 H5
    go_wp2_with fail
    refine HK.out _ _ _ _ _ _ _ _ _ _ _ _ _ _ _ _ _ _ _ _ _ _ _ _ _ _ _ _ _ _ _ _ _ _ _ _ _ _ _ _ _ _ _ _ _ _ _ _ _ _ _ _ _ _ _ _ _ _ _ _ _ _ _ _ _ _ _ _ _ _ _ _ _ _ _ _ _ _ _ _ _ _ _ _ _ _ _ _ _ _ _ _ _ _ _ _ _ _ _ _ _ _ _ _ _ _ _ _ _ _ _ _ _ _ _ _ _ _ _ _ _ _ _ _ _ _ _ _ _ _ _ _ _ _ _ _ _ _ _ _ _ _ _ _ _ _ _ _ _ _ _ _ _ _ _ _ _ _ _ _ _ _ _ _ _ _ _ _ _ _ _ _ _ _ _ _ _ _ _ _ _ _ _ _ _ _ _ _ _ _ _ _ _ ?_
    exact ⟨nilS, sl (q + 11) 2, grow_at _ (at_set (at_set (at_set (at_set (at_set (at_set (at_set HP3.out (by omega)) (by omega)) (by omega)) (by omega)) (by omega)) (by omega)) (by omega)), fun w2 _ hk => pg_16 (((((((((H6.out.set4 0 _).set4 1 _).set4 2 _).set4 3 _).set4 4 _).set4 5 _).set4 6 _).grow _).stays HO.out hk) (Rt.stays HO.out hk (by have := HR.out; omega) (new_at _ (size_set (size_set (size_set (size_set (size_set (size_set (size_set hr))))))))) (own_stays HO.out hk (own_grow _ (own_other (own_other (own_other (own_other (own_other (own_other (own_other HV2.out H6.out.b4 (by decide)) (H6.out.set4 0 _).b4 (by decide)) ((H6.out.set4 0 _).set4 1 _).b4 (by decide)) (((H6.out.set4 0 _).set4 1 _).set4 2 _).b4 (by decide)) ((((H6.out.set4 0 _).set4 1 _).set4 2 _).set4 3 _).b4 (by decide)) (((((H6.out.set4 0 _).set4 1 _).set4 2 _).set4 3 _).set4 4 _).b4 (by decide)) ((((((H6.out.set4 0 _).set4 1 _).set4 2 _).set4 3 _).set4 4 _).set4 5 _).b4 (by decide)))), (((((((HB3.out.setCell (by show q ≤ q + 4; omega) _).setCell (by show q ≤ q + 4; omega) _).setCell (by show q ≤ q + 4; omega) _).setCell (by show q ≤ q + 4; omega) _).setCell (by show q ≤ q + 4; omega) _).setCell (by show q ≤ q + 4; omega) _).setCell (by show q ≤ q + 4; omega) _).alloc (by rw [(size_set (size_set (size_set (size_set (size_set (size_set (size_set hr)))))))]; have := HR.out; omega) _, rfl, rfl⟩

end Go.Proofs.YtnnjkejejlhkdaaDoor.Rt
