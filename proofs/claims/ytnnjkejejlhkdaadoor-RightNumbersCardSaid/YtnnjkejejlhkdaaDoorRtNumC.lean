/-
  The fixed examples of the chapter on right programs come out as written, what is spoilt does not: the law returns true. No condition of its own; the table of the kinds' rows as its initialiser lays it.
  Layer 9: the loop that spoils the pairs.
  Layer 9: the loop that asks the spoilt pairs.
  Layer 9: CopyProgram.
  Layer 9: a program in memory of its own, read as a program; one number in it turned.
  Layer 9: RightNumbers.
-/
import Derived.Test.YtnnjkejejlhkdaaDoorRtSwA
import Derived.Test.YtnnjkejejlhkdaaDoorRtSwB
import Derived.Test.YtnnjkejejlhkdaaDoorRtSwC
import Derived.Test.YtnnjkejejlhkdaaDoorRtSwD
import Derived.Test.YtnnjkejejlhkdaaDoorRtSwE
import Derived.Test.YtnnjkejejlhkdaaDoorRtSwF
import Derived.Test.YtnnjkejejlhkdaaDoorRtSwG
import Derived.Deep.RegionHeld3
import Derived.Deep.CutBlock
import Derived.Deep.DeepCutAuto
import Derived.Deep.LoopGhost
import Derived.Test.YtnnjkejejlhkdaaDoorRtSw
import Derived.Test.YtnnjkejejlhkdaaDoorRtCopy3
import Derived.Lib.SmallJoins
import Derived.Test.YtnnjkejejlhkdaaDoorRtPairM
import Derived.MakeChecks
import Derived.OwnWalk
import Derived.Test.YtnnjkejejlhkdaaDoorRtLaid
namespace Go.Proofs.YtnnjkejejlhkdaaDoor.Rt
open Go Go.RowKit

noncomputable def loop1Code : Code := ((Tryd.f3.body).bind (findBlk 0)).getD .skip

set_option maxHeartbeats 40000000 in
set_option maxRecDepth 100000 in
theorem loop1 {Q : Exit → Act → World → Prop} {p0 p3 p4 p5 p6 p7 p8 p9 p10 p11 p12 p13 p14 p15 p16 p17 p18 p19 p20 p21 p22 p23 p24 p25 p26 p27 p28 p29 p30 p31 p32 p33 p34 p35 p36 p37 p38 p39 p40 p41 p42 p43 p44 p45 p46 p47 p48 p49 p50 p51 p52 p53 p54 p55 p56 p57 p58 p59 p60 p61 p62 p63 p64 p65 p66 p67 p68 p69 p70 p71 p72 p73 p74 p75 p76 p77 p78 p79 p80 p81 p82 p83 p84 p85 p86 p87 p88 p89 p90 p91 p92 p93 p94 p95 p96 p97 p98 p99 p100 p101 p102 p103 p104 p105 p106 p107 p108 p109 p110 p111 p112 p113 p114 p115 p116 p117 p118 p119 p120 p121 p122 p123 p124 p125 p126 p127 p128 p129 p130 p131 p132 p133 p134 p135 p136 p137 p138 p139 p140 p141 p142 p143 p144 p145 p146 p147 p148 p149 p150 p151 p152 p153 p154 p155 p156 p157 p158 p159 p160 p161 p162 p163 p164 p165 p166 p167 p168 p169 p170 p171 p172 p173 p174 p175 p176 p177 p178 p179 p180 p181 p182 p183 p184 p185 p186 p187 p188 p189 p190 p191 p192 p193 p194 p195 p196 p197 p198 p199 p200 p201 p202 p203 p204 p205 p206 p207 p208 p209 p210 p211 p212 p213 p214 p215 p216 p217 p218 p219 p220 p221 p222 p223 p224 p225 p226 p227 p228 p229 p230 p231 p232 p233 p234 p235 p236 p237 p238 p239 p240 p241 p242 p243 p244 p245 p246 p247 p248 p249 p250 p251 p252 p253 p254 p255 p256 p257 p258 p259 p260 p261 p262 p263 p264 p265 p266 p267 p268 p269 p270 p271 p272 p273 p274 p275 p276 p277 p278 p279 p280 p281 p282 p283 p284 p285 p286 v1 : Value} {w w0 : World} (hS0 : SpAt w.heap.size w0 v1 (spoiltsP 0)) (hB0 : Below w.heap.size w w0)
    (hQ : ∀ (n0 n2 n3 n4 n5 n6 n7 n8 n9 n10 n11 n12 n13 n14 n15 n16 n17 n18 n19 n20 n21 n22 n23 n24 n25 n26 n27 n28 n29 n30 n31 n32 n33 n34 n35 n36 n37 n38 n39 n40 n41 n42 n43 n44 n45 n46 n47 n48 n49 n50 n51 n52 n53 n54 n55 n56 n57 n58 n59 n60 n61 n62 n63 n64 n65 n66 n67 n68 n69 n70 n71 n72 n73 n74 n75 n76 n77 n78 n79 n80 n81 n82 n83 n84 n85 n86 n87 n88 n89 n90 n91 n92 n93 n94 n95 n96 n97 n98 n99 n100 n101 n102 n103 n104 n105 n106 n107 n108 n109 n110 n111 n112 n113 n114 n115 n116 n117 n118 n119 n120 n121 n122 n123 n124 n125 n126 n127 n128 n129 n130 n131 n132 n133 n134 n135 n136 n137 n138 n139 n140 n141 n142 n143 n144 n145 n146 n147 n148 n149 n150 n151 n152 n153 n154 n155 n156 n157 n158 n159 n160 n161 n162 n163 n164 n165 n166 n167 n168 n169 n170 n171 n172 n173 n174 n175 n176 n177 n178 n179 n180 n181 n182 n183 n184 n185 n186 n187 n188 n189 n190 n191 n192 n193 n194 n195 n196 n197 n198 n199 n200 n201 n202 n203 n204 n205 n206 n207 n208 n209 n210 n211 n212 n213 n214 n215 n216 n217 n218 n219 n220 n221 n222 n223 n224 n225 n226 n227 n228 n229 n230 n231 n232 n233 n234 n235 n236 n237 n238 n239 n240 n241 n242 n243 n244 n245 n246 n247 n248 n249 n250 n251 n252 n253 n254 n255 n256 n257 n258 n259 n260 n261 n262 n263 n264 n265 n266 n267 n268 n269 n270 n271 n272 n273 n274 n275 n276 n277 n278 n279 n280 n281 n282 n283 n284 n285 n286 v : Value) (wx : World), SpAt w.heap.size wx v (spoiltsP 20) → Below w.heap.size w wx → Q .normal ⟨(n0 :: v :: n2 :: n3 :: n4 :: n5 :: n6 :: n7 :: n8 :: n9 :: n10 :: n11 :: n12 :: n13 :: n14 :: n15 :: n16 :: n17 :: n18 :: n19 :: n20 :: n21 :: n22 :: n23 :: n24 :: n25 :: n26 :: n27 :: n28 :: n29 :: n30 :: n31 :: n32 :: n33 :: n34 :: n35 :: n36 :: n37 :: n38 :: n39 :: n40 :: n41 :: n42 :: n43 :: n44 :: n45 :: n46 :: n47 :: n48 :: n49 :: n50 :: n51 :: n52 :: n53 :: n54 :: n55 :: n56 :: n57 :: n58 :: n59 :: n60 :: n61 :: n62 :: n63 :: n64 :: n65 :: n66 :: n67 :: n68 :: n69 :: n70 :: n71 :: n72 :: n73 :: n74 :: n75 :: n76 :: n77 :: n78 :: n79 :: n80 :: n81 :: n82 :: n83 :: n84 :: n85 :: n86 :: n87 :: n88 :: n89 :: n90 :: n91 :: n92 :: n93 :: n94 :: n95 :: n96 :: n97 :: n98 :: n99 :: n100 :: n101 :: n102 :: n103 :: n104 :: n105 :: n106 :: n107 :: n108 :: n109 :: n110 :: n111 :: n112 :: n113 :: n114 :: n115 :: n116 :: n117 :: n118 :: n119 :: n120 :: n121 :: n122 :: n123 :: n124 :: n125 :: n126 :: n127 :: n128 :: n129 :: n130 :: n131 :: n132 :: n133 :: n134 :: n135 :: n136 :: n137 :: n138 :: n139 :: n140 :: n141 :: n142 :: n143 :: n144 :: n145 :: n146 :: n147 :: n148 :: n149 :: n150 :: n151 :: n152 :: n153 :: n154 :: n155 :: n156 :: n157 :: n158 :: n159 :: n160 :: n161 :: n162 :: n163 :: n164 :: n165 :: n166 :: n167 :: n168 :: n169 :: n170 :: n171 :: n172 :: n173 :: n174 :: n175 :: n176 :: n177 :: n178 :: n179 :: n180 :: n181 :: n182 :: n183 :: n184 :: n185 :: n186 :: n187 :: n188 :: n189 :: n190 :: n191 :: n192 :: n193 :: n194 :: n195 :: n196 :: n197 :: n198 :: n199 :: n200 :: n201 :: n202 :: n203 :: n204 :: n205 :: n206 :: n207 :: n208 :: n209 :: n210 :: n211 :: n212 :: n213 :: n214 :: n215 :: n216 :: n217 :: n218 :: n219 :: n220 :: n221 :: n222 :: n223 :: n224 :: n225 :: n226 :: n227 :: n228 :: n229 :: n230 :: n231 :: n232 :: n233 :: n234 :: n235 :: n236 :: n237 :: n238 :: n239 :: n240 :: n241 :: n242 :: n243 :: n244 :: n245 :: n246 :: n247 :: n248 :: n249 :: n250 :: n251 :: n252 :: n253 :: n254 :: n255 :: n256 :: n257 :: n258 :: n259 :: n260 :: n261 :: n262 :: n263 :: n264 :: n265 :: n266 :: n267 :: n268 :: n269 :: n270 :: n271 :: n272 :: n273 :: n274 :: n275 :: n276 :: n277 :: n278 :: n279 :: n280 :: n281 :: n282 :: n283 :: n284 :: n285 :: n286 :: []).toArray, []⟩ wx) :
    Code.wp Tryd.prog loop1Code Q ⟨(p0 :: v1 :: .int .i64 0 :: p3 :: p4 :: p5 :: p6 :: p7 :: p8 :: p9 :: p10 :: p11 :: p12 :: p13 :: p14 :: p15 :: p16 :: p17 :: p18 :: p19 :: p20 :: p21 :: p22 :: p23 :: p24 :: p25 :: p26 :: p27 :: p28 :: p29 :: p30 :: p31 :: p32 :: p33 :: p34 :: p35 :: p36 :: p37 :: p38 :: p39 :: p40 :: p41 :: p42 :: p43 :: p44 :: p45 :: p46 :: p47 :: p48 :: p49 :: p50 :: p51 :: p52 :: p53 :: p54 :: p55 :: p56 :: p57 :: p58 :: p59 :: p60 :: p61 :: p62 :: p63 :: p64 :: p65 :: p66 :: p67 :: p68 :: p69 :: p70 :: p71 :: p72 :: p73 :: p74 :: p75 :: p76 :: p77 :: p78 :: p79 :: p80 :: p81 :: p82 :: p83 :: p84 :: p85 :: p86 :: p87 :: p88 :: p89 :: p90 :: p91 :: p92 :: p93 :: p94 :: p95 :: p96 :: p97 :: p98 :: p99 :: p100 :: p101 :: p102 :: p103 :: p104 :: p105 :: p106 :: p107 :: p108 :: p109 :: p110 :: p111 :: p112 :: p113 :: p114 :: p115 :: p116 :: p117 :: p118 :: p119 :: p120 :: p121 :: p122 :: p123 :: p124 :: p125 :: p126 :: p127 :: p128 :: p129 :: p130 :: p131 :: p132 :: p133 :: p134 :: p135 :: p136 :: p137 :: p138 :: p139 :: p140 :: p141 :: p142 :: p143 :: p144 :: p145 :: p146 :: p147 :: p148 :: p149 :: p150 :: p151 :: p152 :: p153 :: p154 :: p155 :: p156 :: p157 :: p158 :: p159 :: p160 :: p161 :: p162 :: p163 :: p164 :: p165 :: p166 :: p167 :: p168 :: p169 :: p170 :: p171 :: p172 :: p173 :: p174 :: p175 :: p176 :: p177 :: p178 :: p179 :: p180 :: p181 :: p182 :: p183 :: p184 :: p185 :: p186 :: p187 :: p188 :: p189 :: p190 :: p191 :: p192 :: p193 :: p194 :: p195 :: p196 :: p197 :: p198 :: p199 :: p200 :: p201 :: p202 :: p203 :: p204 :: p205 :: p206 :: p207 :: p208 :: p209 :: p210 :: p211 :: p212 :: p213 :: p214 :: p215 :: p216 :: p217 :: p218 :: p219 :: p220 :: p221 :: p222 :: p223 :: p224 :: p225 :: p226 :: p227 :: p228 :: p229 :: p230 :: p231 :: p232 :: p233 :: p234 :: p235 :: p236 :: p237 :: p238 :: p239 :: p240 :: p241 :: p242 :: p243 :: p244 :: p245 :: p246 :: p247 :: p248 :: p249 :: p250 :: p251 :: p252 :: p253 :: p254 :: p255 :: p256 :: p257 :: p258 :: p259 :: p260 :: p261 :: p262 :: p263 :: p264 :: p265 :: p266 :: p267 :: p268 :: p269 :: p270 :: p271 :: p272 :: p273 :: p274 :: p275 :: p276 :: p277 :: p278 :: p279 :: p280 :: p281 :: p282 :: p283 :: p284 :: p285 :: p286 :: []).toArray, []⟩ w0 := by
  have HK := Lib.hid hQ
  have HS0 := Lib.hid hS0
  have HB3 := Lib.hid hB0
  clear hQ hS0 hB0
  conv => arg 2; whnf
  go_wp2_with fail
  go_loopg [1, 2] 20 (fun r v i wr => ∃ k : Nat, r = 20 - k ∧ i = .int .i64 (k : Int) ∧ k ≤ 20 ∧ SpAt w.heap.size wr v (spoiltsP k) ∧ Below w.heap.size w wr)
  case atStart => exact ⟨0, rfl, rfl, by omega, HS0.out, HB3.out⟩
  case round =>
    clear HS0 HB3
    obtain ⟨k, rfl, rfl, hk, hsp, hb⟩ := hrel
    by_cases hlt : k < 20
    · have hlt' : (k : Int) < 20 := by omega
      have HSP := Lib.hid hsp
      have HB := Lib.hid hb
      clear hsp hb
      obtain ⟨q, hq⟩ : ∃ q, q = wr.heap.size := ⟨_, rfl⟩
      go_wp2_with fail
      refine (pair_at wr q hq).mono ?_
      rintro e w3 ⟨rfl, hp, hb3, hs3⟩
      have H3 := Lib.hid (show Below q wr w3 ∧ q = wr.heap.size from ⟨hb3, hq⟩)
      clear hq hb3
      have hb4 := (Below.refl w3.heap.size w3).alloc (Nat.le_refl _) (.cells #[nilS, sl (q + 11) 2] 26)
      have hp4 := hp.below hb4
      have hn4 := new_block w3 (.cells #[nilS, sl (q + 11) 2] 26)
      rw [hs3] at hn4
      obtain ⟨W, hW⟩ : ∃ W, W = w3.alloc (.cells #[nilS, sl (q + 11) 2] 26) := ⟨_, rfl⟩
      have hWs : W.heap.size = q + 13 := by rw [hW]; simp; omega
      rw [← hW] at hb4 hp4 hn4
      have hB4 := H3.out.1.trans (hb4.mono (by omega))
      have x1 := cell_of hn4 1 _ rfl
      have x1' : W.cell? ⟨q + 12, 1, none⟩ = some (.slice (some ⟨q + 11, 0, none⟩) 2 2) := x1
      go_upto_region 8 with fail
      have hW' : w3.alloc (.cells #[.slice none 0 0, .slice (some ⟨q + 11, 0, none⟩) 2 2] 26) = W := hW.symm
      rw [hW']
      clear hW hW' hs3 hb4 hp x1
      have H4 := Lib.hid hp4
      have N4 := Lib.hid hn4
      have B4 := Lib.hid (show Below q wr W ∧ q = wr.heap.size from ⟨hB4, H3.out.2⟩)
      have HWS := Lib.hid hWs
      clear hp4 hn4 hB4 hWs
      have hmx : Tryd.prog.follows .mixedOrders = true := by kernel_rfl
      refine wp_region_noPanic (wp_region_held_drew (S := fun W' => (PairAt q #[.bool true, .bool false] (xStmtC q) xExprC #[.bool true, .int .i64 0] (yStmtC q) yExprC (xyC q) W' ∧ W'.heap[q + 12]? = some (.cells #[nilS, sl (q + 11) 2] 26 (0, 0))) ∧ Below q wr W') hmx ⟨⟨H4.out.below (Below.refl _ _).drew, at_below N4.out (Below.refl _ _).drew⟩, B4.out.1.drew⟩ (fun hS => ?_))
      clear H4 N4
      refine wpAnyH_take (i := 0) (v := .pointer (some ⟨q + 12, 1, none⟩)) rfl (by kernel_rfl) (by kernel_rfl) (by kernel_rfl) (fun _ _ _ h => h) (.inl ⟨by rfl, fun w' hs => ?_⟩) hS ?_
      · have z1 : w'.cell? ⟨q + 12, 1, none⟩ = some (.slice (some ⟨q + 11, 0, none⟩) 2 2) := cell_of hs.1.2 1 _ rfl
        clear hs
        go_simp
      simp only [List.getElem_toArray, List.getElem_cons_zero, Act.put, List.setIfInBounds_toArray, List.set_cons_zero, List.set_cons_succ]
      refine wpAnyH_take (i := 1) (v := .slice (some ⟨q + 11, 0, none⟩) 2 2) rfl (by kernel_rfl) (by kernel_rfl) (by kernel_rfl) (fun _ _ _ h => h) (.inl ⟨by rfl, fun w' hs => ?_⟩) hS ?_
      · have z1 : w'.cell? ⟨q + 12, 1, none⟩ = some (.slice (some ⟨q + 11, 0, none⟩) 2 2) := cell_of hs.1.2 1 _ rfl
        clear hs
        go_simp
      simp only [List.getElem_toArray, List.getElem_cons_succ, List.getElem_cons_zero, Act.put, List.setIfInBounds_toArray, List.set_cons_zero, List.set_cons_succ]
      refine wpAnyH_take (i := 2) (v := .pointer (some ⟨q + 11, 0, none⟩)) rfl (by kernel_rfl) (by kernel_rfl) (by kernel_rfl) (fun _ _ _ h => h) (.inl ⟨by rfl, fun w' hs => ?_⟩) hS ?_
      · have z1 : w'.cell? ⟨q + 12, 1, none⟩ = some (.slice (some ⟨q + 11, 0, none⟩) 2 2) := cell_of hs.1.2 1 _ rfl
        clear hs
        go_simp
      simp only [List.getElem_toArray, List.getElem_cons_succ, List.getElem_cons_zero, Act.put, List.setIfInBounds_toArray, List.set_cons_zero, List.set_cons_succ]
      refine wpAnyH_take (i := 3) (v := .pointer (some ⟨q + 12, 1, none⟩)) rfl (by kernel_rfl) (by kernel_rfl) (by kernel_rfl) (fun _ _ _ h => h) (.inl ⟨by rfl, fun w' hs => ?_⟩) hS ?_
      · have z1 : w'.cell? ⟨q + 12, 1, none⟩ = some (.slice (some ⟨q + 11, 0, none⟩) 2 2) := cell_of hs.1.2 1 _ rfl
        clear hs
        go_simp
      simp only [List.getElem_toArray, List.getElem_cons_succ, List.getElem_cons_zero, Act.put, List.setIfInBounds_toArray, List.set_cons_zero, List.set_cons_succ]
      refine wpAnyH_take (i := 4) (v := .slice (some ⟨q + 11, 0, none⟩) 2 2) rfl (by kernel_rfl) (by kernel_rfl) (by kernel_rfl) (fun _ _ _ h => h) (.inl ⟨by rfl, fun w' hs => ?_⟩) hS ?_
      · have z1 : w'.cell? ⟨q + 12, 1, none⟩ = some (.slice (some ⟨q + 11, 0, none⟩) 2 2) := cell_of hs.1.2 1 _ rfl
        clear hs
        go_simp
      simp only [List.getElem_toArray, List.getElem_cons_succ, List.getElem_cons_zero, Act.put, List.setIfInBounds_toArray, List.set_cons_zero, List.set_cons_succ]
      refine wpAnyH_take (i := 5) (v := .pointer (some ⟨q + 11, 8, none⟩)) rfl (by kernel_rfl) (by kernel_rfl) (by kernel_rfl) (fun _ _ _ h => h) (.inl ⟨by rfl, fun w' hs => ?_⟩) hS ?_
      · have z1 : w'.cell? ⟨q + 12, 1, none⟩ = some (.slice (some ⟨q + 11, 0, none⟩) 2 2) := cell_of hs.1.2 1 _ rfl
        clear hs
        go_simp
      simp only [List.getElem_toArray, List.getElem_cons_succ, List.getElem_cons_zero, Act.put, List.setIfInBounds_toArray, List.set_cons_zero, List.set_cons_succ]
      refine wpAnyH_take (i := 6) (v := .pointer (some ⟨q + 11, 0, none⟩)) rfl (by kernel_rfl) (by kernel_rfl) (by kernel_rfl) (fun _ _ _ h => h) (.inl ⟨by rfl, fun w' hs => ?_⟩) hS ?_
      · have z1 : w'.cell? ⟨q + 12, 1, none⟩ = some (.slice (some ⟨q + 11, 0, none⟩) 2 2) := cell_of hs.1.2 1 _ rfl
        clear hs
        go_simp
      simp only [List.getElem_toArray, List.getElem_cons_succ, List.getElem_cons_zero, Act.put, List.setIfInBounds_toArray, List.set_cons_zero, List.set_cons_succ]
      refine wpAnyH_take (i := 7) (v := .pointer (some ⟨q + 11, 8, none⟩)) rfl (by kernel_rfl) (by kernel_rfl) (by kernel_rfl) (fun _ _ _ h => h) (.inl ⟨by rfl, fun w' hs => ?_⟩) hS ?_
      · have z1 : w'.cell? ⟨q + 12, 1, none⟩ = some (.slice (some ⟨q + 11, 0, none⟩) 2 2) := cell_of hs.1.2 1 _ rfl
        clear hs
        go_simp
      simp only [List.getElem_toArray, List.getElem_cons_succ, List.getElem_cons_zero, Act.put, List.setIfInBounds_toArray, List.set_cons_zero, List.set_cons_succ]
      refine wpAnyH_done (by kernel_rfl) (NoPanic.normal ?_) _
      obtain ⟨W5, hW5⟩ : ∃ X, X = W.drew := ⟨_, rfl⟩
      have hz : W5.heap.size = q + 13 := by rw [hW5]; exact HWS.out
      rw [← hW5] at hS ⊢
      have HS := Lib.hid (show Start q wr W5 from ⟨hS.1, hS.2, hz⟩)
      have HQ := Lib.hid B4.out.2
      clear hS hW5 x1' hmx B4 hz HWS
      obtain ⟨x, hx⟩ : ∃ x : Int, x = (k : Int) := ⟨_, rfl⟩
      rw [← hx]
      go_upto_block 2 with fail
      go_cut [] from 27 to 218 (fun wx => Spoils q q u1.ownBlock wr wx (spoiltP k))
      case first =>
        have ho : ∀ j, u1.ownBlock = some j → j ≤ q := fun j hj => by
          have := (HSP.out.block j hj).2
          have := HQ.out
          omega
        have HO := Lib.hid ho
        have hcs : x = 0 ∨ x = 1 ∨ x = 2 ∨ x = 3 ∨ x = 4 ∨ x = 5 ∨ x = 6 ∨ x = 7 ∨ x = 8 ∨ x = 9 ∨ x = 10 ∨ x = 11 ∨ x = 12 ∨ x = 13 ∨ x = 14 ∨ x = 15 ∨ x = 16 ∨ x = 17 ∨ x = 18 ∨ x = 19 := by omega
        clear hlt' H3 HSP HQ ho
        rcases hcs with rfl | rfl | rfl | rfl | rfl | rfl | rfl | rfl | rfl | rfl | rfl | rfl | rfl | rfl | rfl | rfl | rfl | rfl | rfl | rfl
        · obtain rfl : k = 0 := by omega
          refine sw_0 HS.out HO.out ?_
          intros
          rename_i wx hs
          first | go_meet | (go_wp2_with fail; go_meet)
          exact hs
        · obtain rfl : k = 1 := by omega
          refine sw_1 HS.out HO.out ?_
          intros
          rename_i wx hs
          first | go_meet | (go_wp2_with fail; go_meet)
          exact hs
        · obtain rfl : k = 2 := by omega
          refine sw_2 HS.out HO.out ?_
          intros
          rename_i wx hs
          first | go_meet | (go_wp2_with fail; go_meet)
          exact hs
        · obtain rfl : k = 3 := by omega
          refine sw_3 HS.out HO.out ?_
          intros
          rename_i wx hs
          first | go_meet | (go_wp2_with fail; go_meet)
          exact hs
        · obtain rfl : k = 4 := by omega
          refine sw_4 HS.out HO.out ?_
          intros
          rename_i wx hs
          first | go_meet | (go_wp2_with fail; go_meet)
          exact hs
        · obtain rfl : k = 5 := by omega
          refine sw_5 HS.out HO.out ?_
          intros
          rename_i wx hs
          first | go_meet | (go_wp2_with fail; go_meet)
          exact hs
        · obtain rfl : k = 6 := by omega
          refine sw_6 HS.out HO.out ?_
          intros
          rename_i wx hs
          first | go_meet | (go_wp2_with fail; go_meet)
          exact hs
        · obtain rfl : k = 7 := by omega
          refine sw_7 HS.out HO.out ?_
          intros
          rename_i wx hs
          first | go_meet | (go_wp2_with fail; go_meet)
          exact hs
        · obtain rfl : k = 8 := by omega
          refine sw_8 HS.out HO.out ?_
          intros
          rename_i wx hs
          first | go_meet | (go_wp2_with fail; go_meet)
          exact hs
        · obtain rfl : k = 9 := by omega
          refine sw_9 HS.out HO.out ?_
          intros
          rename_i wx hs
          first | go_meet | (go_wp2_with fail; go_meet)
          exact hs
        · obtain rfl : k = 10 := by omega
          refine sw_10 HS.out HO.out ?_
          intros
          rename_i wx hs
          first | go_meet | (go_wp2_with fail; go_meet)
          exact hs
        · obtain rfl : k = 11 := by omega
          refine sw_11 HS.out HO.out ?_
          intros
          rename_i wx hs
          first | go_meet | (go_wp2_with fail; go_meet)
          exact hs
        · obtain rfl : k = 12 := by omega
          refine sw_12 HS.out HO.out ?_
          intros
          rename_i wx hs
          first | go_meet | (go_wp2_with fail; go_meet)
          exact hs
        · obtain rfl : k = 13 := by omega
          refine sw_13 HS.out HO.out ?_
          intros
          rename_i wx hs
          first | go_meet | (go_wp2_with fail; go_meet)
          exact hs
        · obtain rfl : k = 14 := by omega
          refine sw_14 HS.out HO.out ?_
          intros
          rename_i wx hs
          first | go_meet | (go_wp2_with fail; go_meet)
          exact hs
        · obtain rfl : k = 15 := by omega
          refine sw_15 HS.out HO.out ?_
          intros
          rename_i wx hs
          first | go_meet | (go_wp2_with fail; go_meet)
          exact hs
        · obtain rfl : k = 16 := by omega
          refine sw_16 HS.out HO.out ?_
          intros
          rename_i wx hs
          first | go_meet | (go_wp2_with fail; go_meet)
          exact hs
        · obtain rfl : k = 17 := by omega
          refine sw_17 HS.out HO.out ?_
          intros
          rename_i wx hs
          first | go_meet | (go_wp2_with fail; go_meet)
          exact hs
        · obtain rfl : k = 18 := by omega
          refine sw_18 HS.out HO.out ?_
          intros
          rename_i wx hs
          first | go_meet | (go_wp2_with fail; go_meet)
          exact hs
        · obtain rfl : k = 19 := by omega
          refine sw_19 HS.out HO.out ?_
          intros
          rename_i wx hs
          first | go_meet | (go_wp2_with fail; go_meet)
          exact hs
      case rest =>
        obtain ⟨vs, vp, hx, hF, hb, o1, o2⟩ := hcut
        have hqq := HQ.out
        have hbw : Below wr.heap.size wr wc := by rw [← hqq]; exact hb
        have HS1 := Lib.hid (HSP.out.below hbw)
        have HF := Lib.hid hF
        have c0 := cell_of hx 0 vs rfl
        have c1 := cell_of hx 1 vp rfl
        have HZ := Lib.hid (show (spoiltsP k).length ≤ 1000 ∧ w.heap.size ≤ wc.heap.size ∧ Below w.heap.size w wc from ⟨by rw [spoilts_len]; omega, Nat.le_trans HB.out.size hbw.size, HB.out.trans (hbw.mono HB.out.size)⟩)
        have O12 := Lib.hid (show vs.oneCell' = true ∧ vp.oneCell' = true from ⟨o1, o2⟩)
        clear hx hF hb hbw hqq o1 o2 HS HQ H3 HSP HB
        go_wp2_with (at_builtin; go_loud (refine wpList_append_pg rfl (.tmp 219) (.tmp 221) rfl rfl HS1.out HF.out O12.out.1 O12.out.2 _ rfl rfl HZ.out.1 HZ.out.2.1 ?_))
        intro v' w' hs' hb'
        have HS2 := Lib.hid hs'
        have HB2 := Lib.hid (HZ.out.2.2.trans hb')
        clear hs' hb' c0 c1
        go_wp2_with fail
        go_roundg (20 - (k + 1))
        case measure => omega
        case rel => exact ⟨k + 1, rfl, by go_num, by omega, by rw [spoilts_succ]; exact HS2.out, HB2.out⟩
    · obtain rfl : k = 20 := by omega
      have HSP := Lib.hid hsp
      have HB := Lib.hid hb
      clear hsp hb
      go_wp2_with fail
      exact HK.out _ _ _ _ _ _ _ _ _ _ _ _ _ _ _ _ _ _ _ _ _ _ _ _ _ _ _ _ _ _ _ _ _ _ _ _ _ _ _ _ _ _ _ _ _ _ _ _ _ _ _ _ _ _ _ _ _ _ _ _ _ _ _ _ _ _ _ _ _ _ _ _ _ _ _ _ _ _ _ _ _ _ _ _ _ _ _ _ _ _ _ _ _ _ _ _ _ _ _ _ _ _ _ _ _ _ _ _ _ _ _ _ _ _ _ _ _ _ _ _ _ _ _ _ _ _ _ _ _ _ _ _ _ _ _ _ _ _ _ _ _ _ _ _ _ _ _ _ _ _ _ _ _ _ _ _ _ _ _ _ _ _ _ _ _ _ _ _ _ _ _ _ _ _ _ _ _ _ _ _ _ _ _ _ _ _ _ _ _ _ _ _ _ _ _ _ _ _ _ _ _ _ _ _ _ _ _ _ _ _ _ _ _ _ _ _ _ _ _ _ _ _ _ _ _ _ _ _ _ _ _ _ _ _ _ _ _ _ _ _ _ _ _ _ _ _ _ _ _ _ _ _ _ _ _ _ _ _ _ _ _ _ _ _ _ _ _ _ _ _ _ _ _ _ _ _ _ _ _ _ _ _ _ _ _ _ _ _ HSP.out HB.out

end Go.Proofs.YtnnjkejejlhkdaaDoor.Rt

namespace Go.Proofs.YtnnjkejejlhkdaaDoor.Rt
open Go Go.RowKit

noncomputable def loop2Code : Code := ((Tryd.f3.body).bind (findBlk 3)).getD .skip

set_option maxHeartbeats 8000000 in
set_option maxRecDepth 100000 in
theorem loop2 {Q : Exit → Act → World → Prop} {p0 p2 p3 p4 p5 p7 p8 p9 p10 p11 p12 p13 p14 p15 p16 p17 p18 p19 p20 p21 p22 p23 p24 p25 p26 p27 p28 p29 p30 p31 p32 p33 p34 p35 p36 p37 p38 p39 p40 p41 p42 p43 p44 p45 p46 p47 p48 p49 p50 p51 p52 p53 p54 p55 p56 p57 p58 p59 p60 p61 p62 p63 p64 p65 p66 p67 p68 p69 p70 p71 p72 p73 p74 p75 p76 p77 p78 p79 p80 p81 p82 p83 p84 p85 p86 p87 p88 p89 p90 p91 p92 p93 p94 p95 p96 p97 p98 p99 p100 p101 p102 p103 p104 p105 p106 p107 p108 p109 p110 p111 p112 p113 p114 p115 p116 p117 p118 p119 p120 p121 p122 p123 p124 p125 p126 p127 p128 p129 p130 p131 p132 p133 p134 p135 p136 p137 p138 p139 p140 p141 p142 p143 p144 p145 p146 p147 p148 p149 p150 p151 p152 p153 p154 p155 p156 p157 p158 p159 p160 p161 p162 p163 p164 p165 p166 p167 p168 p169 p170 p171 p172 p173 p174 p175 p176 p177 p178 p179 p180 p181 p182 p183 p184 p185 p186 p187 p188 p189 p190 p191 p192 p193 p194 p195 p196 p197 p198 p199 p200 p201 p202 p203 p204 p205 p206 p207 p208 p209 p210 p211 p212 p213 p214 p215 p216 p217 p218 p219 p220 p221 p222 p223 p224 p225 p226 p227 p228 p229 p230 p231 p232 p233 p234 p235 p236 p237 p238 p239 p240 p241 p242 p243 p244 p245 p246 p247 p248 p249 p250 p251 p252 p253 p254 p255 p256 p257 p258 p259 p260 p261 p262 p263 p264 p265 p266 p267 p268 p269 p270 p271 p272 p273 p274 p275 p276 p277 p278 p279 p280 p281 p282 p283 p284 p285 p286 v1 : Value} {B : Nat} {w0 : World} (hS : SpAt B w0 v1 (spoiltsP 20)) (hR : RowsTab w0)
    (hQ : ∀ (n0 n1 n2 n3 n4 n5 n6 n7 n8 n9 n10 n11 n12 n13 n14 n15 n16 n17 n18 n19 n20 n21 n22 n23 n24 n25 n26 n27 n28 n29 n30 n31 n32 n33 n34 n35 n36 n37 n38 n39 n40 n41 n42 n43 n44 n45 n46 n47 n48 n49 n50 n51 n52 n53 n54 n55 n56 n57 n58 n59 n60 n61 n62 n63 n64 n65 n66 n67 n68 n69 n70 n71 n72 n73 n74 n75 n76 n77 n78 n79 n80 n81 n82 n83 n84 n85 n86 n87 n88 n89 n90 n91 n92 n93 n94 n95 n96 n97 n98 n99 n100 n101 n102 n103 n104 n105 n106 n107 n108 n109 n110 n111 n112 n113 n114 n115 n116 n117 n118 n119 n120 n121 n122 n123 n124 n125 n126 n127 n128 n129 n130 n131 n132 n133 n134 n135 n136 n137 n138 n139 n140 n141 n142 n143 n144 n145 n146 n147 n148 n149 n150 n151 n152 n153 n154 n155 n156 n157 n158 n159 n160 n161 n162 n163 n164 n165 n166 n167 n168 n169 n170 n171 n172 n173 n174 n175 n176 n177 n178 n179 n180 n181 n182 n183 n184 n185 n186 n187 n188 n189 n190 n191 n192 n193 n194 n195 n196 n197 n198 n199 n200 n201 n202 n203 n204 n205 n206 n207 n208 n209 n210 n211 n212 n213 n214 n215 n216 n217 n218 n219 n220 n221 n222 n223 n224 n225 n226 n227 n228 n229 n230 n231 n232 n233 n234 n235 n236 n237 n238 n239 n240 n241 n242 n243 n244 n245 n246 n247 n248 n249 n250 n251 n252 n253 n254 n255 n256 n257 n258 n259 n260 n261 n262 n263 n264 n265 n266 n267 n268 n269 n270 n271 n272 n273 n274 n275 n276 n277 n278 n279 n280 n281 n282 n283 n284 n285 n286 : Value) (wx : World), Below w0.heap.size w0 wx → Q .normal ⟨(n0 :: n1 :: n2 :: n3 :: n4 :: n5 :: n6 :: n7 :: n8 :: n9 :: n10 :: n11 :: n12 :: n13 :: n14 :: n15 :: n16 :: n17 :: n18 :: n19 :: n20 :: n21 :: n22 :: n23 :: n24 :: n25 :: n26 :: n27 :: n28 :: n29 :: n30 :: n31 :: n32 :: n33 :: n34 :: n35 :: n36 :: n37 :: n38 :: n39 :: n40 :: n41 :: n42 :: n43 :: n44 :: n45 :: n46 :: n47 :: n48 :: n49 :: n50 :: n51 :: n52 :: n53 :: n54 :: n55 :: n56 :: n57 :: n58 :: n59 :: n60 :: n61 :: n62 :: n63 :: n64 :: n65 :: n66 :: n67 :: n68 :: n69 :: n70 :: n71 :: n72 :: n73 :: n74 :: n75 :: n76 :: n77 :: n78 :: n79 :: n80 :: n81 :: n82 :: n83 :: n84 :: n85 :: n86 :: n87 :: n88 :: n89 :: n90 :: n91 :: n92 :: n93 :: n94 :: n95 :: n96 :: n97 :: n98 :: n99 :: n100 :: n101 :: n102 :: n103 :: n104 :: n105 :: n106 :: n107 :: n108 :: n109 :: n110 :: n111 :: n112 :: n113 :: n114 :: n115 :: n116 :: n117 :: n118 :: n119 :: n120 :: n121 :: n122 :: n123 :: n124 :: n125 :: n126 :: n127 :: n128 :: n129 :: n130 :: n131 :: n132 :: n133 :: n134 :: n135 :: n136 :: n137 :: n138 :: n139 :: n140 :: n141 :: n142 :: n143 :: n144 :: n145 :: n146 :: n147 :: n148 :: n149 :: n150 :: n151 :: n152 :: n153 :: n154 :: n155 :: n156 :: n157 :: n158 :: n159 :: n160 :: n161 :: n162 :: n163 :: n164 :: n165 :: n166 :: n167 :: n168 :: n169 :: n170 :: n171 :: n172 :: n173 :: n174 :: n175 :: n176 :: n177 :: n178 :: n179 :: n180 :: n181 :: n182 :: n183 :: n184 :: n185 :: n186 :: n187 :: n188 :: n189 :: n190 :: n191 :: n192 :: n193 :: n194 :: n195 :: n196 :: n197 :: n198 :: n199 :: n200 :: n201 :: n202 :: n203 :: n204 :: n205 :: n206 :: n207 :: n208 :: n209 :: n210 :: n211 :: n212 :: n213 :: n214 :: n215 :: n216 :: n217 :: n218 :: n219 :: n220 :: n221 :: n222 :: n223 :: n224 :: n225 :: n226 :: n227 :: n228 :: n229 :: n230 :: n231 :: n232 :: n233 :: n234 :: n235 :: n236 :: n237 :: n238 :: n239 :: n240 :: n241 :: n242 :: n243 :: n244 :: n245 :: n246 :: n247 :: n248 :: n249 :: n250 :: n251 :: n252 :: n253 :: n254 :: n255 :: n256 :: n257 :: n258 :: n259 :: n260 :: n261 :: n262 :: n263 :: n264 :: n265 :: n266 :: n267 :: n268 :: n269 :: n270 :: n271 :: n272 :: n273 :: n274 :: n275 :: n276 :: n277 :: n278 :: n279 :: n280 :: n281 :: n282 :: n283 :: n284 :: n285 :: n286 :: []).toArray, []⟩ wx) :
    Code.wp Tryd.prog loop2Code Q ⟨(p0 :: v1 :: p2 :: p3 :: p4 :: p5 :: .int .i64 0 :: p7 :: p8 :: p9 :: p10 :: p11 :: p12 :: p13 :: p14 :: p15 :: p16 :: p17 :: p18 :: p19 :: p20 :: p21 :: p22 :: p23 :: p24 :: p25 :: p26 :: p27 :: p28 :: p29 :: p30 :: p31 :: p32 :: p33 :: p34 :: p35 :: p36 :: p37 :: p38 :: p39 :: p40 :: p41 :: p42 :: p43 :: p44 :: p45 :: p46 :: p47 :: p48 :: p49 :: p50 :: p51 :: p52 :: p53 :: p54 :: p55 :: p56 :: p57 :: p58 :: p59 :: p60 :: p61 :: p62 :: p63 :: p64 :: p65 :: p66 :: p67 :: p68 :: p69 :: p70 :: p71 :: p72 :: p73 :: p74 :: p75 :: p76 :: p77 :: p78 :: p79 :: p80 :: p81 :: p82 :: p83 :: p84 :: p85 :: p86 :: p87 :: p88 :: p89 :: p90 :: p91 :: p92 :: p93 :: p94 :: p95 :: p96 :: p97 :: p98 :: p99 :: p100 :: p101 :: p102 :: p103 :: p104 :: p105 :: p106 :: p107 :: p108 :: p109 :: p110 :: p111 :: p112 :: p113 :: p114 :: p115 :: p116 :: p117 :: p118 :: p119 :: p120 :: p121 :: p122 :: p123 :: p124 :: p125 :: p126 :: p127 :: p128 :: p129 :: p130 :: p131 :: p132 :: p133 :: p134 :: p135 :: p136 :: p137 :: p138 :: p139 :: p140 :: p141 :: p142 :: p143 :: p144 :: p145 :: p146 :: p147 :: p148 :: p149 :: p150 :: p151 :: p152 :: p153 :: p154 :: p155 :: p156 :: p157 :: p158 :: p159 :: p160 :: p161 :: p162 :: p163 :: p164 :: p165 :: p166 :: p167 :: p168 :: p169 :: p170 :: p171 :: p172 :: p173 :: p174 :: p175 :: p176 :: p177 :: p178 :: p179 :: p180 :: p181 :: p182 :: p183 :: p184 :: p185 :: p186 :: p187 :: p188 :: p189 :: p190 :: p191 :: p192 :: p193 :: p194 :: p195 :: p196 :: p197 :: p198 :: p199 :: p200 :: p201 :: p202 :: p203 :: p204 :: p205 :: p206 :: p207 :: p208 :: p209 :: p210 :: p211 :: p212 :: p213 :: p214 :: p215 :: p216 :: p217 :: p218 :: p219 :: p220 :: p221 :: p222 :: p223 :: p224 :: p225 :: p226 :: p227 :: p228 :: p229 :: p230 :: p231 :: p232 :: p233 :: p234 :: p235 :: p236 :: p237 :: p238 :: p239 :: p240 :: p241 :: p242 :: p243 :: p244 :: p245 :: p246 :: p247 :: p248 :: p249 :: p250 :: p251 :: p252 :: p253 :: p254 :: p255 :: p256 :: p257 :: p258 :: p259 :: p260 :: p261 :: p262 :: p263 :: p264 :: p265 :: p266 :: p267 :: p268 :: p269 :: p270 :: p271 :: p272 :: p273 :: p274 :: p275 :: p276 :: p277 :: p278 :: p279 :: p280 :: p281 :: p282 :: p283 :: p284 :: p285 :: p286 :: []).toArray, []⟩ w0 := by
  have HK := Lib.hid hQ
  have HS := Lib.hid hS
  have HR := Lib.hid hR
  clear hQ hS hR
  obtain ⟨g, cap, _, _, hv, _⟩ := HS.out.read 0 (by rw [spoilts_len]; decide)
  rw [spoilts_len] at hv
  subst hv
  conv => arg 2; whnf
  go_wp2_with fail
  go_loopg [6] 20 (fun r i wr => ∃ k : Nat, r = 20 - k ∧ i = .int .i64 (k : Int) ∧ k ≤ 20 ∧ Below w0.heap.size w0 wr)
  case atStart => exact ⟨0, rfl, rfl, by omega, Below.refl _ _⟩
  case round =>
    obtain ⟨k, rfl, rfl, hk, hb⟩ := hrel
    have HB := Lib.hid hb
    clear hb
    by_cases hlt : k < 20
    · have hlt' : (k : Int) < 20 := by omega
      obtain ⟨g2, cap2, vs, vp, hv, c0, c1, hp⟩ := (HS.out.below HB.out).read k (by rw [spoilts_len]; omega)
      injection hv with e1 e2 e3
      injection e1 with e1
      injection e1 with e1
      subst e1
      rw [Nat.mul_comm] at c0 c1
      have c := right_fn (.agg #[vs, vp]) _ wr hp (HR.out.below HB.out)
      rw [show (spoiltsP 20)[k]'(by rw [spoilts_len]; omega) = spoiltP k from by simp [spoiltsP], spoilt_bad k hlt] at c
      have C := Lib.hid c
      clear c hp e2 e3
      go_wp2_with fail
      refine C.out.mono ?_
      rintro e w3 ⟨rfl, hb3⟩
      have HB3 := Lib.hid (HB.out.trans (hb3.mono HB.out.size))
      clear hb3 c0 c1 C
      go_wp2_with fail
      go_roundg (20 - (k + 1))
      case measure => omega
      case rel => exact ⟨k + 1, rfl, by go_num, by omega, HB3.out⟩
    · obtain rfl : k = 20 := by omega
      go_wp2_with fail
      exact HK.out _ _ _ _ _ _ _ _ _ _ _ _ _ _ _ _ _ _ _ _ _ _ _ _ _ _ _ _ _ _ _ _ _ _ _ _ _ _ _ _ _ _ _ _ _ _ _ _ _ _ _ _ _ _ _ _ _ _ _ _ _ _ _ _ _ _ _ _ _ _ _ _ _ _ _ _ _ _ _ _ _ _ _ _ _ _ _ _ _ _ _ _ _ _ _ _ _ _ _ _ _ _ _ _ _ _ _ _ _ _ _ _ _ _ _ _ _ _ _ _ _ _ _ _ _ _ _ _ _ _ _ _ _ _ _ _ _ _ _ _ _ _ _ _ _ _ _ _ _ _ _ _ _ _ _ _ _ _ _ _ _ _ _ _ _ _ _ _ _ _ _ _ _ _ _ _ _ _ _ _ _ _ _ _ _ _ _ _ _ _ _ _ _ _ _ _ _ _ _ _ _ _ _ _ _ _ _ _ _ _ _ _ _ _ _ _ _ _ _ _ _ _ _ _ _ _ _ _ _ _ _ _ _ _ _ _ _ _ _ _ _ _ _ _ _ _ _ _ _ _ _ _ _ _ _ _ _ _ _ _ _ _ _ _ _ _ _ _ _ _ _ _ _ _ _ _ _ _ _ _ _ _ _ _ _ _ _ _ HB.out

end Go.Proofs.YtnnjkejejlhkdaaDoor.Rt

namespace Go.Proofs.YtnnjkejejlhkdaaDoor.Rt
open Go Go.RowKit

def BndE (e : Ex) : Prop := e.kids.length * 8 ≤ 140737488351232
def BndF (f : Pr) : Prop := f.boxed.length ≤ 140737488351232 ∧ f.ups.length ≤ 1000000 ∧ f.stmts.length ≤ 1000000 ∧ f.exprs.length ≤ 1000000 ∧ (∀ s ∈ f.stmts, BndS s) ∧ ∀ e ∈ f.exprs, BndE e
def Bnd (p : Pg) : Prop := p.strs.length * 16 ≤ 140737488351232 ∧ p.protos.length ≤ 1000000 ∧ ∀ f ∈ p.protos, BndF f

theorem two_new (w : World) (A B : Obj) : Below w.heap.size w ((w.alloc A).alloc B) ∧ ((w.alloc A).alloc B).heap[w.heap.size]? = some A ∧ ((w.alloc A).alloc B).heap[w.heap.size + 1]? = some B ∧ ((w.alloc A).alloc B).heap.size = w.heap.size + 2 := by
  obtain ⟨h1, h2, h3⟩ := grows w [A, B] _ rfl
  exact ⟨h1, h3 0 (by simp), h3 1 (by simp), h2⟩

/-- What stands at the beginning of a round over the functions. -/
def Outer (β : Nat) (w2 : World) (p : Pg) (g3 : Nat) (vs : Value) (k : Nat) (u : Value) (w : World) : Prop :=
  ∃ rs, rs.map (·.1) = p.protos.take k ∧ OwnP β w (g3 + 1) u rs ∧ w.heap[g3]? = some (.cells #[vs, u] 26 (0, 0)) ∧ TextsO w vs p.strs ∧ Below w2.heap.size w2 w
theorem Outer.below {β : Nat} {w2 : World} {p : Pg} {g3 k : Nat} {vs u : Value} {w w' : World} (h : Outer β w2 p g3 vs k u w) (hb : Below w.heap.size w w') : Outer β w2 p g3 vs k u w' := by
  obtain ⟨rs, a, b, c, d, e⟩ := h
  exact ⟨rs, a, b.below hb, at_below c hb, own_same d (Same.of_below (T := 1000000) hb) (by decide), e.trans (hb.mono e.size)⟩
/-- What stands in a round, the function's copy in block b: its cells, the lists that are copied. -/
def Mid (β : Nat) (wr : World) (b : Nat) (f : Pr) (vb vu vs ve : Value) (w : World) : Prop :=
  w.heap[b]? = some (.cells #[.int .i64 f.params, .bool f.more, .int .i64 f.slots, vb, vu, vs, ve, .int .i64 f.start] 35 (0, 0)) ∧
    w.ownsRow β 4 1 vb f.boxed.length (bools f.boxed) ∧ w.ownsRow β 37 2 vu f.ups.length (f.ups.flatMap cellsU) ∧ Below wr.heap.size wr w
theorem Mid.below {β : Nat} {wr : World} {b : Nat} {f : Pr} {vb vu vs ve : Value} {w w' : World} (h : Mid β wr b f vb vu vs ve w) (hb : Below w.heap.size w w') : Mid β wr b f vb vu vs ve w' := by
  obtain ⟨a, c, d, e⟩ := h
  exact ⟨at_below a hb, own_same c (Same.of_below (T := 1000000) hb) (by decide), own_same d (Same.of_below (T := 1000000) hb) (by decide), e.trans (hb.mono e.size)⟩

theorem Mid.grow {β : Nat} {wr : World} {b : Nat} {f : Pr} {vb vu vs ve : Value} {w w' : World} {T : TypeId} (h : Mid β wr b f vb vu vs ve w) (hs : Same T w w') (hb : Below (b + 1) w w') (hr : b = wr.heap.size) (h1 : 4 ≠ T) (h2 : 37 ≠ T) : Mid β wr b f vb vu vs ve w' := by
  obtain ⟨a, c, d, e⟩ := h
  exact ⟨(hb.block b (Nat.lt_succ_self b)).trans a, own_same c hs h1, own_same d hs h2, e.trans (hb.mono (by omega))⟩
theorem OwnS.push {β b : Nat} {v v' : Value} {ss : List S4} {x : S4} {w w' : World} (h : OwnS β w b v ss) (hx : SubS β w x) (ho : w'.ownsRow b 44 7 v' (ss.length + 1) (ss.flatMap cellsS ++ cellsS x)) (hs : Same 44 w w') : OwnS β w' b v' (ss ++ [x]) := by
  refine ⟨by rw [List.length_append, List.flatMap_append]; simpa using ho, fun r hr => ?_⟩
  rcases List.mem_append.1 hr with hr | hr
  · exact (h.2 r hr).same hs (by decide)
  · rw [List.mem_singleton.1 hr]; exact hx.same hs (by decide)
theorem OwnE.push {β b : Nat} {v v' : Value} {ss : List E3} {x : E3} {w w' : World} (h : OwnE β w b v ss) (hx : SubE β w x) (ho : w'.ownsRow b 41 3 v' (ss.length + 1) (ss.flatMap cellsE ++ cellsE x)) (hs : Same 41 w w') : OwnE β w' b v' (ss ++ [x]) := by
  refine ⟨by rw [List.length_append, List.flatMap_append]; simpa using ho, fun r hr => ?_⟩
  rcases List.mem_append.1 hr with hr | hr
  · exact (h.2 r hr).same hs (by decide)
  · rw [List.mem_singleton.1 hr]; exact IntsO.same hx hs (by decide)
theorem OwnP.push {β b : Nat} {v v' : Value} {ss : List P5} {x : P5} {w w' : World} (h : OwnP β w b v ss) (hx : SubP β w x) (ho : w'.ownsRow b 35 8 v' (ss.length + 1) (ss.flatMap cellsP ++ cellsP x)) (hs : Same 35 w w') : OwnP β w' b v' (ss ++ [x]) := by
  refine ⟨by rw [List.length_append, List.flatMap_append]; simpa using ho, fun r hr => ?_⟩
  rcases List.mem_append.1 hr with hr | hr
  · exact (h.2 r hr).same hs (by decide) (by decide) (by decide) (by decide) (by decide)
  · rw [List.mem_singleton.1 hr]; exact hx.same hs (by decide) (by decide) (by decide) (by decide) (by decide)
theorem map_len {α β : Type} {ss : List (α × β)} {l : List α} {k : Nat} (h : ss.map (·.1) = l.take k) (hk : k ≤ l.length) : ss.length = k := by
  have h1 := congrArg List.length h
  rw [List.length_map, List.length_take] at h1
  omega

set_option maxHeartbeats 16000000 in
set_option maxRecDepth 100000 in
theorem copy_program {B : Nat} (v : Value) (p : Pg) (w : World) (hp : PgV B w v p) (hB : B ≤ w.heap.size) (hbd : Bnd p) :
    Calls Tryd.prog 7 #[v] w fun e w' => ∃ vs vp, e = .returned (.agg #[vs, vp]) ∧ (∃ rs, OwnP w.heap.size w' w.heap.size vp rs ∧ rs.map (·.1) = p.protos) ∧ TextsO w' vs p.strs ∧ Below w.heap.size w w' := by
  obtain ⟨vs, vp, rfl, hs, hr⟩ := hp
  obtain ⟨a1, c1, rfl, hl1⟩ := hs.slice
  obtain ⟨a2, c2, rfl, hl2⟩ := hr.slice
  rw [texts_len] at hl1 ⊢
  obtain ⟨hbd1, hbd2, hbd3⟩ := hbd
  obtain ⟨O1, hO1⟩ : ∃ O, O = Obj.cells #[.slice a1 p.strs.length c1, .slice a2 p.protos.length c2] 26 (0, 0) := ⟨_, rfl⟩
  obtain ⟨O2, hO2⟩ : ∃ O, O = Obj.cells #[.slice none 0 0, .slice none 0 0] 26 (0, 0) := ⟨_, rfl⟩
  obtain ⟨b2, x1, x2, z2⟩ := two_new w O1 O2
  obtain ⟨w2, hw2⟩ : ∃ w2, w2 = (w.alloc O1).alloc O2 := ⟨_, rfl⟩
  rw [← hw2] at b2 x1 x2 z2
  have hb2 : Below B w w2 := b2.mono hB
  have ct := copy_texts (B := B) (.slice a1 p.strs.length c1) p.strs w2 (by have := hs.below hb2; rwa [texts_len] at this) hbd1
  have HR := Lib.hid (show RowsB 8 (PrC B w2) B w2 (.slice a2 p.protos.length c2) p.protos from hr.below hb2 (fun _ _ h => h.below hb2))
  have HB := Lib.hid hbd3
  have HX := Lib.hid (show w2.heap[w.heap.size]? = some O1 ∧ w2.heap[w.heap.size + 1]? = some O2 ∧ w2.heap.size = w.heap.size + 2 ∧ Below w.heap.size w w2 from ⟨x1, x2, z2, b2⟩)
  have c10 := cell_of (x1.trans (congrArg some hO1)) 0 _ rfl
  clear hs hr hb2 x1 x2 z2 b2 hbd3
  subst hO1 hO2
  go_enter Tryd.func7, Tryd.ntmps7
  go_upto_region 1 with fail
  rw [← hw2]
  clear hw2
  go_wp2_with fail
  refine ct.mono ?_
  rintro e w3 ⟨vs', rfl, ht, hb3⟩
  obtain ⟨g3, hg3⟩ : ∃ g, g = w3.heap.size := ⟨_, rfl⟩
  have hH := new_block w3 (.cells #[vs', .slice none 0 0] 26)
  have hba : Below w3.heap.size w3 (w3.alloc (.cells #[vs', .slice none 0 0] 26)) := (Below.refl _ _).alloc (Nat.le_refl _) _
  have H0 := Lib.hid (show Outer w.heap.size w2 p g3 vs' 0 (.slice none 0 0) (w3.alloc (.cells #[vs', .slice none 0 0] 26)) from
    ⟨[], rfl, ⟨World.ownsRow_nil _ _ _ _, fun r hr => by cases hr⟩, by rw [hg3]; exact hH, own_same ht (Same.of_below (T := 1000000) hba) (by decide), hb3.trans (hba.mono hb3.size)⟩)
  have HG := Lib.hid (show w2.heap.size ≤ g3 from by rw [hg3]; exact hb3.size)
  obtain ⟨at3, ct3, rfl⟩ := own_slice ht
  obtain ⟨n, hn⟩ : ∃ n, n = p.protos.length := ⟨_, rfl⟩
  rw [← hn] at hbd2 hl2
  have HN := Lib.hid hn
  clear hH hba ht hb3 ct hn c10
  go_wp2_with fail
  rw [← hg3]
  clear hg3
  generalize (w3.alloc (.cells #[(.slice at3 p.strs.length ct3), .slice none 0 0] 26)) = w4 at *
  go_loopg [4] n (fun r i wr => ∃ k : Nat, ∃ u : Value, r = n - k ∧ i = .int .i64 (k : Int) ∧ k ≤ n ∧ Outer w.heap.size w2 p g3 (.slice at3 p.strs.length ct3) k u wr)
  case atStart => exact ⟨0, .slice none 0 0, rfl, rfl, Nat.zero_le _, H0.out⟩
  case round =>
    clear H0
    generalize wr = wR at *
    obtain ⟨k, u, rfl, rfl, hk, ho⟩ := hrel
    have HO := Lib.hid ho
    obtain ⟨rs, hmap, hown, h3, _, hb⟩ := ho
    have hX := HX.out
    have c11 := cell_of ((hb.block _ (by omega)).trans hX.1) 1 (.slice a2 p.protos.length c2) rfl
    rw [← HN.out] at c11
    have hBw : B ≤ w2.heap.size := by omega
    have HBW := Lib.hid hBw
    have HWR := Lib.hid (show w.heap.size ≤ wR.heap.size from by have := hb.size; omega)
    have HBB := Lib.hid hb
    clear hX hown hmap h3 hb
    by_cases hlt : k < n
    · have hlt' : (k : Int) < n := by omega
      have hkl : k < p.protos.length := by have := HN.out; omega
      obtain ⟨g, off, cap, cs, hg, hv, _, hC, hcell⟩ := (HR.out.below (HBB.out.mono hBw) (fun _ _ h => h.below (HBB.out.mono hBw))).item hkl
      injection hv with e1 e2 e3
      subst e1
      subst e3
      have hbf := HB.out _ (List.getElem_mem hkl)
      have HK := Lib.hid (show p.protos.take (k + 1) = p.protos.take k ++ [p.protos[k]] from List.take_succ_eq_append_getElem hkl)
      obtain ⟨vb, vu, vst, ve, rfl, q1, q2, q3, q4, i1, i2, i3⟩ := hC
      obtain ⟨ab, cb, hvb, _⟩ := q1.slice
      rw [bools_len] at hvb
      subst hvb
      obtain ⟨au, cu, rfl, _⟩ := q2.slice
      obtain ⟨ass, cs, rfl, hls⟩ := q3.slice
      obtain ⟨ae, ce, rfl, hle⟩ := q4.slice
      have x0 : wR.cell? ⟨g, off + k * 8, none⟩ = some (.int .i64 p.protos[k].params) := (hcell 0 (by decide)).choose_spec
      have x1 : wR.cell? ⟨g, off + k * 8 + 1, none⟩ = some (.bool p.protos[k].more) := (hcell 1 (by decide)).choose_spec
      have x2 : wR.cell? ⟨g, off + k * 8 + 2, none⟩ = some (.int .i64 p.protos[k].slots) := (hcell 2 (by decide)).choose_spec
      have x3 : wR.cell? ⟨g, off + k * 8 + 3, none⟩ = some (.slice ab p.protos[k].boxed.length cb) := (hcell 3 (by decide)).choose_spec
      have x4 : wR.cell? ⟨g, off + k * 8 + 4, none⟩ = some (.slice au p.protos[k].ups.length cu) := (hcell 4 (by decide)).choose_spec
      have x5 : wR.cell? ⟨g, off + k * 8 + 5, none⟩ = some (.slice ass p.protos[k].stmts.length cs) := (hcell 5 (by decide)).choose_spec
      have x6 : wR.cell? ⟨g, off + k * 8 + 6, none⟩ = some (.slice ae p.protos[k].exprs.length ce) := (hcell 6 (by decide)).choose_spec
      have x7 : wR.cell? ⟨g, off + k * 8 + 7, none⟩ = some (.int .i64 p.protos[k].start) := (hcell 7 (by decide)).choose_spec
      clear hcell e2
      generalize p.protos[k] = f at *
      obtain ⟨hf1, hf2, hf3, hf4, hf5, hf6⟩ := hbf
      have HFS := Lib.hid (show f.stmts.length ≤ 1000000 ∧ f.exprs.length ≤ 1000000 ∧ (∀ s ∈ f.stmts, BndS s) ∧ ∀ e ∈ f.exprs, BndE e from ⟨hf3, hf4, hf5, hf6⟩)
      obtain ⟨w5, hw5⟩ : ∃ w5, w5 = wR.alloc (.cells #[.int .i64 f.params, .bool f.more, .int .i64 f.slots, .slice ab f.boxed.length cb, .slice au f.ups.length cu, .slice ass f.stmts.length cs, .slice ae f.exprs.length ce, .int .i64 f.start] 35) := ⟨_, rfl⟩
      obtain ⟨b5, hb5⟩ : ∃ b5, b5 = wR.heap.size := ⟨_, rfl⟩
      have hbl5 : Below wR.heap.size wR w5 := by rw [hw5]; exact (Below.refl _ _).alloc (Nat.le_refl _) _
      have hs5 : w5.heap.size = b5 + 1 := by rw [hw5, hb5]; simp
      have hX5 : w5.heap[b5]? = some (.cells #[.int .i64 f.params, .bool f.more, .int .i64 f.slots, .slice ab f.boxed.length cb, .slice au f.ups.length cu, .slice ass f.stmts.length cs, .slice ae f.exprs.length ce, .int .i64 f.start] 35 (0, 0)) := by rw [hw5, hb5]; exact new_block _ _
      have hBr : B ≤ wR.heap.size := Nat.le_trans hBw HBB.out.size
      have HS3 := Lib.hid (show SrcAt w5 (.slice ab f.boxed.length cb) f.boxed.length 1 (bools f.boxed) from by have := (q1.below (hbl5.mono hBr)).src; rwa [bools_len] at this)
      have HQ2 := Lib.hid q2
      have HQ3 := Lib.hid q3
      have HQ4 := Lib.hid q4
      have HFB := Lib.hid (show f.boxed.length ≤ 140737488351232 ∧ f.ups.length ≤ 1000000 from ⟨hf1, hf2⟩)
      have c3 := cell_of hX5 3 (.slice ab f.boxed.length cb) rfl
      have HL5 := Lib.hid hbl5
      clear hf1 hf2 hf3 hf4 hf5 hf6 q1 q2 q3 q4 hbl5
      go_upto_region 10 with fail
      rw [← hw5, ← hb5]
      have HB5 := Lib.hid (show b5 = wR.heap.size ∧ w5.heap.size = b5 + 1 from ⟨hb5, hs5⟩)
      clear hb5 hs5 hBw hBr
      clear hw5 c11 x0 x1 x2 x3 x4 x5 x6 x7
      go_wp2_with (at_builtin; go_loud (refine wpList_append_src rfl (.tmp 30) (.tmp 32) 30 rfl 4 (.bool false) 1 1 Tryd.underlying30 infoBools rfl (by decide) rfl (.slice ab f.boxed.length cb) f.boxed.length (bools f.boxed) rfl HS3.out ?g1 ?g2 ?g3 ?_))
      case g1 => intro u hu; obtain ⟨c, _, rfl⟩ := List.mem_map.1 hu; rfl
      case g2 => have := HFB.out; unfold maxLen; omega
      case g3 => have := HFB.out; omega
      intro v6 w6 ho6 hb6
      obtain ⟨ab6, cb6, rfl⟩ := own_slice ho6
      have hX6 := (hb6.block b5 (by have := HB5.out; omega)).trans hX5
      have hX7 := Joins.block_setCell (i := 3) hX6 (.slice ab6 f.boxed.length cb6)
      have f3 := frozen_of_row w6 b5 3 _ _ hX6
      have d3 := cell_of hX6 3 (.slice ab f.boxed.length cb) rfl
      have hm7 : Below wR.heap.size wR (w6.setCell ⟨b5, 3, none⟩ (.slice ab6 f.boxed.length cb6)) := (HL5.out.trans (hb6.mono HL5.out.size)).setCell (by show _ ≤ b5; have := HB5.out; omega) _
      have ho7 := own_same (own_lift (b' := w.heap.size) ho6 (by have := HWR.out; have := HB5.out; omega)) (Same.set (j := 3) hX6 (.slice ab6 f.boxed.length cb6)) (by decide)
      have HM7 := Lib.hid hm7
      have HO7 := Lib.hid ho7
      clear ho6 hb6 hX5 c3 HL5 hm7 ho7
      have hX7 : (w6.setCell ⟨b5, 3, none⟩ (.slice ab6 f.boxed.length cb6)).heap[b5]? = some (.cells #[.int .i64 f.params, .bool f.more, .int .i64 f.slots, .slice ab6 f.boxed.length cb6, .slice au f.ups.length cu, .slice ass f.stmts.length cs, .slice ae f.exprs.length ce, .int .i64 f.start] 35 (0, 0)) := hX7
      have hB7 : Below B wR (w6.setCell ⟨b5, 3, none⟩ (.slice ab6 f.boxed.length cb6)) := HM7.out.mono (Nat.le_trans HBW.out HBB.out.size)
      have HS4 := Lib.hid (show SrcAt (w6.setCell ⟨b5, 3, none⟩ (.slice ab6 f.boxed.length cb6)) (.slice au f.ups.length cu) f.ups.length 2 (f.ups.flatMap cellsU) from (HQ2.out.below hB7 (fun _ _ h => h)).src (by decide) cellsU (fun _ => rfl) (fun _ _ h => by rw [h.1]; rfl))
      have hs7 : b5 < (w6.setCell ⟨b5, 3, none⟩ (.slice ab6 f.boxed.length cb6)).heap.size := lt_of_get hX7
      clear hB7 hX6
      go_upto_region 11 with fail
      clear d3 f3
      generalize (w6.setCell ⟨b5, 3, none⟩ (.slice ab6 f.boxed.length cb6)) = w7 at *
      have d4 := cell_of hX7 4 (.slice au f.ups.length cu) rfl
      have HX7 := Lib.hid hX7
      have HS7 := Lib.hid hs7
      clear hX7 hs7
      go_wp2_with (at_builtin; go_loud (refine wpList_append_src rfl (.tmp 35) (.tmp 37) 31 rfl 37 (.agg #[.bool false, .int .i64 0]) 2 16 Tryd.underlying31 infoUp rfl (by decide) rfl (.slice au f.ups.length cu) f.ups.length (f.ups.flatMap cellsU) rfl HS4.out ?g1 ?g2 ?g3 ?_))
      case g1 =>
        intro u hu
        obtain ⟨c, _, hc⟩ := List.mem_flatMap.1 hu
        simp [cellsU] at hc
        rcases hc with rfl | rfl <;> rfl
      case g2 => have := HFB.out; unfold maxLen; omega
      case g3 => have := HFB.out; omega
      intro v8 w8 ho8 hb8
      obtain ⟨au8, cu8, rfl⟩ := own_slice ho8
      have hX8 := (hb8.block b5 HS7.out).trans HX7.out
      have f4 := frozen_of_row w8 b5 4 _ _ hX8
      have d4 := cell_of hX8 4 (.slice au f.ups.length cu) rfl
      have hX9 := Joins.block_setCell (i := 4) hX8 (.slice au8 f.ups.length cu8)
      have HMid := Lib.hid (show Mid w.heap.size wR b5 f (.slice ab6 f.boxed.length cb6) (.slice au8 f.ups.length cu8) (.slice ass f.stmts.length cs) (.slice ae f.exprs.length ce) (w8.setCell ⟨b5, 4, none⟩ (.slice au8 f.ups.length cu8)) from
        ⟨hX9, own_same (own_same HO7.out (Same.of_below (T := 1000000) hb8) (by decide)) (Same.set (j := 4) hX8 _) (by decide), own_same (own_lift (b' := w.heap.size) ho8 (by have := HWR.out; have := HB5.out; have := HS7.out; omega)) (Same.set (j := 4) hX8 _) (by decide), (HM7.out.trans (hb8.mono HM7.out.size)).setCell (by show _ ≤ b5; have := HB5.out; omega) _⟩)
      clear ho8 hb8 hX8 hX9 HX7 HS7 HS4 HM7 HO7
      go_wp2_with fail
      generalize (w8.setCell ⟨b5, 4, none⟩ (.slice au8 f.ups.length cu8)) = w9 at *
      clear d4 f4
      generalize hvb : (Value.slice ab6 f.boxed.length cb6) = vb at *
      generalize hvu : (Value.slice au8 f.ups.length cu8) = vu at *
      clear hvb hvu
      obtain ⟨m, hm⟩ : ∃ m, m = f.stmts.length := ⟨_, rfl⟩
      rw [← hm] at HMid HQ3 hls ⊢
      have HMM := Lib.hid hm
      clear hm
      go_loopg [8, 10] m (fun r v8 j wj => ∃ q : Nat, ∃ ss : List S4, r = m - q ∧ j = .int .i64 (q : Int) ∧ q ≤ m ∧ ss.map (·.1) = f.stmts.take q ∧ OwnS w.heap.size wj (b5 + 1) v8 ss ∧ Mid w.heap.size wR b5 f vb vu (.slice ass m cs) (.slice ae f.exprs.length ce) wj)
      case atStart => exact ⟨0, [], rfl, rfl, Nat.zero_le _, rfl, ⟨World.ownsRow_nil _ _ _ _, fun r hr => by cases hr⟩, HMid.out⟩
      case round =>
        clear HMid
        obtain ⟨q, ss, rfl, rfl, hq, hmap, hown, hmid⟩ := hrel
        generalize wr = wJ at *
        have HBJ := Lib.hid (show Below B wR wJ from hmid.2.2.2.mono (Nat.le_trans HBW.out HBB.out.size))
        have HMAP := Lib.hid hmap
        have HOWN := Lib.hid hown
        have HMid := Lib.hid hmid
        have c5 := cell_of hmid.1 5 (.slice ass m cs) rfl
        clear hmap hown hmid
        by_cases hltq : q < m
        · have hltq' : (q : Int) < m := by omega
          have hm6 : m ≤ 1000000 := by have := HFS.out.1; have := HMM.out; omega
          have hql : q < f.stmts.length := by have := HMM.out; omega
          obtain ⟨g4, off4, cap4, cs4, hg4, hv4, _, hC, hcell⟩ := (HQ3.out.below HBJ.out (fun _ _ h => h.below HBJ.out)).item hql
          injection hv4 with e1 e2 e3
          subst e1
          subst e3
          clear e2
          have HK2 := Lib.hid (show f.stmts.take (q + 1) = f.stmts.take q ++ [f.stmts[q]] from List.take_succ_eq_append_getElem hql)
          have hbs := HFS.out.2.2.1 _ (List.getElem_mem hql)
          obtain ⟨vs1, vt1, ve1, rfl, l1, l2, l3, _, _, _, _, _, _, _⟩ := hC
          obtain ⟨as1, cs1, hv1, _⟩ := l1.slice
          rw [ints_len] at hv1
          subst hv1
          obtain ⟨at1, ct1, hv1, _⟩ := l2.slice
          rw [ints_len] at hv1
          subst hv1
          obtain ⟨ae1, ce1, hv1, _⟩ := l3.slice
          rw [ints_len] at hv1
          subst hv1
          have y0 : wJ.cell? ⟨g4, off4 + q * 7, none⟩ = some (.int .u8 f.stmts[q].k) := (hcell 0 (by decide)).choose_spec
          have y1 : wJ.cell? ⟨g4, off4 + q * 7 + 1, none⟩ = some (.slice as1 f.stmts[q].slots.length cs1) := (hcell 1 (by decide)).choose_spec
          have y2 : wJ.cell? ⟨g4, off4 + q * 7 + 2, none⟩ = some (.slice at1 f.stmts[q].targets.length ct1) := (hcell 2 (by decide)).choose_spec
          have y3 : wJ.cell? ⟨g4, off4 + q * 7 + 3, none⟩ = some (.slice ae1 f.stmts[q].exprs.length ce1) := (hcell 3 (by decide)).choose_spec
          have y4 : wJ.cell? ⟨g4, off4 + q * 7 + 4, none⟩ = some (.int .i64 f.stmts[q].next) := (hcell 4 (by decide)).choose_spec
          have y5 : wJ.cell? ⟨g4, off4 + q * 7 + 5, none⟩ = some (.int .i64 f.stmts[q].els) := (hcell 5 (by decide)).choose_spec
          have y6 : wJ.cell? ⟨g4, off4 + q * 7 + 6, none⟩ = some (.int .i64 f.stmts[q].line) := (hcell 6 (by decide)).choose_spec
          clear hcell
          generalize f.stmts[q] = s at *
          obtain ⟨w11, hw11⟩ : ∃ w11, w11 = wJ.alloc (.cells #[.int .u8 s.k, .slice as1 s.slots.length cs1, .slice at1 s.targets.length ct1, .slice ae1 s.exprs.length ce1, .int .i64 s.next, .int .i64 s.els, .int .i64 s.line] 44) := ⟨_, rfl⟩
          obtain ⟨b11, hb11⟩ : ∃ b11, b11 = wJ.heap.size := ⟨_, rfl⟩
          have hbl11 : Below wJ.heap.size wJ w11 := by rw [hw11]; exact (Below.refl _ _).alloc (Nat.le_refl _) _
          have hs11 : w11.heap.size = b11 + 1 := by rw [hw11, hb11]; simp
          have hX11 : w11.heap[b11]? = some (.cells #[.int .u8 s.k, .slice as1 s.slots.length cs1, .slice at1 s.targets.length ct1, .slice ae1 s.exprs.length ce1, .int .i64 s.next, .int .i64 s.els, .int .i64 s.line] 44 (0, 0)) := by rw [hw11, hb11]; exact new_block _ _
          have hJ11 : Below B wR w11 := HBJ.out.trans (hbl11.mono (Nat.le_trans (Nat.le_trans HBW.out HBB.out.size) HBJ.out.size))
          have HJ11 := Lib.hid (show Below wJ.heap.size wJ w11 ∧ B ≤ w11.heap.size ∧ B ≤ wJ.heap.size from ⟨hbl11, Nat.le_trans (Nat.le_trans HBW.out HBB.out.size) hJ11.size, Nat.le_trans (Nat.le_trans HBW.out HBB.out.size) HBJ.out.size⟩)
          have hbb11 : B ≤ b11 := by rw [hb11]; exact Nat.le_trans (Nat.le_trans HBW.out HBB.out.size) HBJ.out.size
          have hc3 := fun {Q : Exit → Act → World → Prop} => @copy_three Q
          have HL := Lib.hid (show LstB B w11 (.slice as1 s.slots.length cs1) (ints s.slots) ∧ LstB B w11 (.slice at1 s.targets.length ct1) (ints s.targets) ∧ LstB B w11 (.slice ae1 s.exprs.length ce1) (ints s.exprs) ∧ B ≤ b11 ∧ BndS s from ⟨l1.below (HJ11.out.1.mono HJ11.out.2.2), l2.below (HJ11.out.1.mono HJ11.out.2.2), l3.below (HJ11.out.1.mono HJ11.out.2.2), hbb11, hbs⟩)
          have HL2 := Lib.hid (show w.heap.size ≤ b11 from by rw [hb11]; have := HWR.out; have := HMid.out.2.2.2.size; omega)
          clear hc3 hbb11
          have HX11 := Lib.hid hX11
          clear l1 l2 l3 hbs hJ11 hbl11 hX11
          go_upto_region 16 with fail
          rw [← hw11, ← hb11]
          have HB11 := Lib.hid (show b11 = wJ.heap.size ∧ w11.heap.size = b11 + 1 from ⟨hb11, hs11⟩)
          clear hw11 hb11 hs11 y0 y1 y2 y3 y4 y5 y6
          refine copy_three HX11.out HL.out.1 HL.out.2.1 HL.out.2.2.1 HL.out.2.2.2.1 HL2.out HL.out.2.2.2.2 ?_
          intro n52 n53 n54 n55 n56 n57 n58 n59 n60 n61 n62 n63 w12 hc12
          clear HX11 HL c5
          obtain ⟨as2, cs2, at2, ct2, ae2, ce2, hX12, o1, o2, o3, hb12⟩ := hc12
          have e0 := cell_of hX12 0 (.int .u8 s.k) rfl
          have e1 := cell_of hX12 1 (.slice as2 s.slots.length cs2) rfl
          have e2 := cell_of hX12 2 (.slice at2 s.targets.length ct2) rfl
          have e3 := cell_of hX12 3 (.slice ae2 s.exprs.length ce2) rfl
          have e4 := cell_of hX12 4 (.int .i64 s.next) rfl
          have e5 := cell_of hX12 5 (.int .i64 s.els) rfl
          have e6 := cell_of hX12 6 (.int .i64 s.line) rfl
          have hb12' : Below wJ.heap.size wJ w12 := HJ11.out.1.trans (by rw [← HB11.out.1]; exact hb12)
          have HB12 := Lib.hid hb12'
          have HSUB := Lib.hid (show SubS w.heap.size w12 ((s, .slice as2 s.slots.length cs2, .slice at2 s.targets.length ct2, .slice ae2 s.exprs.length ce2) : S4) from ⟨o1, o2, o3⟩)
          have HOWN2 := Lib.hid (HOWN.out.below hb12')
          have HZ := Lib.hid (show b5 + 1 ≤ w12.heap.size ∧ ss.length ≤ 1000000 from by
            refine ⟨?_, ?_⟩
            · have := lt_of_get HMid.out.1
              have := hb12'.size
              omega
            · have h1 := congrArg List.length HMAP.out
              rw [List.length_map, List.length_take] at h1
              have := HFS.out.1
              omega)
          clear hX12 o1 o2 o3 hb12 hb12' HJ11
          obtain ⟨ao8, co8, h8⟩ := own_slice HOWN2.out.1
          subst h8
          go_wp2_with (at_builtin; go_loud (refine wpList_append_item rfl (.tmp 64) (.tmp 66) 32 rfl 44 (.agg #[.int .u8 0, .slice none 0 0, .slice none 0 0, .slice none 0 0, .int .i64 0, .int .i64 0, .int .i64 0]) 7 104 Tryd.underlying32 infoStmt rfl (by decide) (by decide) (b5 + 1) (.slice ao8 ss.length co8) ss.length (ss.flatMap cellsS) rfl HOWN2.out.1 _ rfl rfl [.int .u8 s.k, .slice as2 s.slots.length cs2, .slice at2 s.targets.length ct2, .slice ae2 s.exprs.length ce2, .int .i64 s.next, .int .i64 s.els, .int .i64 s.line] rfl ?g1 HZ.out.2 HZ.out.1 ?_))
          case g1 =>
            intro u hu
            simp only [List.mem_cons, List.not_mem_nil, or_false] at hu
            rcases hu with rfl | rfl | rfl | rfl | rfl | rfl | rfl <;> rfl
          intro v13 w13 ho13 hs13 hb13
          have HO13 := Lib.hid (show OwnS w.heap.size w13 (b5 + 1) v13 (ss ++ [((s, .slice as2 s.slots.length cs2, .slice at2 s.targets.length ct2, .slice ae2 s.exprs.length ce2) : S4)]) from HOWN2.out.push HSUB.out ho13 hs13)
          have HM13 := Lib.hid ((HMid.out.below HB12.out).grow hs13 hb13 HB5.out.1 (by decide) (by decide))
          have HMP := Lib.hid (show (ss ++ [((s, .slice as2 s.slots.length cs2, .slice at2 s.targets.length ct2, .slice ae2 s.exprs.length ce2) : S4)]).map (·.1) = f.stmts.take (q + 1) from by rw [List.map_append, HMAP.out, HK2.out]; rfl)
          clear ho13 hs13 hb13 e0 e1 e2 e3 e4 e5 e6 HOWN2 HSUB HB12 HMid
          obtain ⟨ao13, co13, rfl⟩ := own_slice HO13.out.1
          go_wp2_with fail
          go_roundg (m - (q + 1))
          case measure => omega
          case rel => exact ⟨q + 1, _, rfl, by go_num, by omega, HMP.out, HO13.out, HM13.out⟩
        · obtain rfl : q = m := by omega
          have hnlt : ¬ (q : Int) < q := by omega
          have HSS := Lib.hid (show ss.map (·.1) = f.stmts from by rw [HMAP.out, List.take_of_length_le (by have := HMM.out; omega)])
          clear HMAP
          obtain ⟨ao8, co8, h8⟩ := own_slice HOWN.out.1
          subst h8
          go_wp2_with fail
          clear c5
          obtain ⟨m2, hm2⟩ : ∃ m2, m2 = f.exprs.length := ⟨_, rfl⟩
          rw [← hm2] at HMid HQ4 hle ⊢
          have HM2 := Lib.hid hm2
          clear hm2
          go_loopg [9, 12] m2 (fun r v9 j wj => ∃ z : Nat, ∃ es : List E3, r = m2 - z ∧ j = .int .i64 (z : Int) ∧ z ≤ m2 ∧ es.map (·.1) = f.exprs.take z ∧ OwnE w.heap.size wj (b5 + 1) v9 es ∧ OwnS w.heap.size wj (b5 + 1) (.slice ao8 ss.length co8) ss ∧ Mid w.heap.size wR b5 f vb vu (.slice ass q cs) (.slice ae m2 ce) wj)
          case atStart => exact ⟨0, [], rfl, rfl, Nat.zero_le _, rfl, ⟨World.ownsRow_nil _ _ _ _, fun r hr => by cases hr⟩, HOWN.out, HMid.out⟩
          case round =>
            clear HMid HOWN
            obtain ⟨z, es, rfl, rfl, hz, hmap, hown, howns, hmid⟩ := hrel
            generalize wr = wE at *
            have HBE := Lib.hid (show Below B wR wE from hmid.2.2.2.mono (Nat.le_trans HBW.out HBB.out.size))
            have HMAP := Lib.hid hmap
            have HOWN := Lib.hid hown
            have HOWNS := Lib.hid howns
            have HMid := Lib.hid hmid
            have c6 := cell_of hmid.1 6 (.slice ae m2 ce) rfl
            clear hmap hown howns hmid
            by_cases hltz : z < m2
            · have hltz' : (z : Int) < m2 := by omega
              have hm6 : m2 ≤ 1000000 := by have := HFS.out.2.1; have := HM2.out; omega
              have hzl : z < f.exprs.length := by have := HM2.out; omega
              obtain ⟨g4, off4, cap4, cs4, hg4, hv4, _, hC, hcell⟩ := (HQ4.out.below HBE.out (fun _ _ h => h.below HBE.out)).item hzl
              injection hv4 with e1 e2 e3
              subst e1
              subst e3
              clear e2
              have HK2 := Lib.hid (show f.exprs.take (z + 1) = f.exprs.take z ++ [f.exprs[z]] from List.take_succ_eq_append_getElem hzl)
              have hbs := HFS.out.2.2.2 _ (List.getElem_mem hzl)
              obtain ⟨vk1, rfl, l1, _, _, _⟩ := hC
              obtain ⟨ak1, ck1, hv1, _⟩ := l1.slice
              rw [ints_len] at hv1
              subst hv1
              have y0 : wE.cell? ⟨g4, off4 + z * 3, none⟩ = some (.int .u8 f.exprs[z].k) := (hcell 0 (by decide)).choose_spec
              have y1 : wE.cell? ⟨g4, off4 + z * 3 + 1, none⟩ = some (.int .i64 f.exprs[z].n) := (hcell 1 (by decide)).choose_spec
              have y2 : wE.cell? ⟨g4, off4 + z * 3 + 2, none⟩ = some (.slice ak1 f.exprs[z].kids.length ck1) := (hcell 2 (by decide)).choose_spec
              clear hcell
              generalize f.exprs[z] = s at *
              obtain ⟨w11, hw11⟩ : ∃ w11, w11 = wE.alloc (.cells #[.int .u8 s.k, .int .i64 s.n, .slice ak1 s.kids.length ck1] 41) := ⟨_, rfl⟩
              obtain ⟨b11, hb11⟩ : ∃ b11, b11 = wE.heap.size := ⟨_, rfl⟩
              have hbl11 : Below wE.heap.size wE w11 := by rw [hw11]; exact (Below.refl _ _).alloc (Nat.le_refl _) _
              have hs11 : w11.heap.size = b11 + 1 := by rw [hw11, hb11]; simp
              have hX11 : w11.heap[b11]? = some (.cells #[.int .u8 s.k, .int .i64 s.n, .slice ak1 s.kids.length ck1] 41 (0, 0)) := by rw [hw11, hb11]; exact new_block _ _
              have ci := copy_ints (B := B) (.slice ak1 s.kids.length ck1) s.kids w11 (l1.below (hbl11.mono (Nat.le_trans (Nat.le_trans HBW.out HBB.out.size) HBE.out.size))) hbs
              have c2 := cell_of hX11 2 (.slice ak1 s.kids.length ck1) rfl
              have HL11 := Lib.hid hbl11
              have HX11 := Lib.hid hX11
              clear l1 hbs hbl11 hX11
              go_upto_region 22 with fail
              rw [← hw11, ← hb11]
              have HB11 := Lib.hid (show b11 = wE.heap.size ∧ w11.heap.size = b11 + 1 from ⟨hb11, hs11⟩)
              clear hw11 hb11 hs11 y0 y1 y2
              go_wp2_with fail
              refine ci.mono ?_
              rintro e w12 ⟨v', rfl, o1, hb12⟩
              clear ci c2
              obtain ⟨ak2, ck2, rfl⟩ := own_slice o1
              have hX12 := at_below HX11.out hb12
              have f2 := frozen_of_row w12 b11 2 _ _ hX12
              have c2 := cell_of hX12 2 (.slice ak1 s.kids.length ck1) rfl
              have hX13 := Joins.block_setCell (i := 2) hX12 (.slice ak2 s.kids.length ck2)
              have hb13 : Below wE.heap.size wE (w12.setCell ⟨b11, 2, none⟩ (.slice ak2 s.kids.length ck2)) := (HL11.out.trans (hb12.mono HL11.out.size)).setCell (by show _ ≤ b11; have := HB11.out.1; omega) _
              have HSUB := Lib.hid (show SubE w.heap.size (w12.setCell ⟨b11, 2, none⟩ (.slice ak2 s.kids.length ck2)) ((s, .slice ak2 s.kids.length ck2) : E3) from (o1.lift (by have := HWR.out; have := HB5.out; have := HB11.out; have := lt_of_get HMid.out.1; omega)).same (Same.set (j := 2) hX12 _) (by decide))
              have HB13 := Lib.hid hb13
              have HX13 := Lib.hid hX13
              clear o1 hb12 hX12 hX13 hb13 HX11 HL11
              go_upto_region 23 with fail
              generalize (w12.setCell ⟨b11, 2, none⟩ (.slice ak2 s.kids.length ck2)) = w13 at *
              clear c2 f2 c6
              have e0 := cell_of HX13.out 0 (.int .u8 s.k) rfl
              have e1 := cell_of HX13.out 1 (.int .i64 s.n) rfl
              have e2 := cell_of HX13.out 2 (.slice ak2 s.kids.length ck2) rfl
              have HOWN2 := Lib.hid (HOWN.out.below HB13.out)
              have HZ := Lib.hid (show b5 + 1 ≤ w13.heap.size ∧ es.length ≤ 1000000 from by
                refine ⟨?_, ?_⟩
                · have := lt_of_get HMid.out.1
                  have := HB13.out.size
                  omega
                · have := map_len HMAP.out (by omega)
                  have := HFS.out.2.1
                  have := HM2.out
                  omega)
              clear HX13
              obtain ⟨ao9, co9, h9⟩ := own_slice HOWN2.out.1
              subst h9
              go_wp2_with (at_builtin; go_loud (refine wpList_append_item rfl (.tmp 84) (.tmp 86) 33 rfl 41 (.agg #[.int .u8 0, .int .i64 0, .slice none 0 0]) 3 40 Tryd.underlying33 infoExpr rfl (by decide) (by decide) (b5 + 1) (.slice ao9 es.length co9) es.length (es.flatMap cellsE) rfl HOWN2.out.1 _ rfl rfl [.int .u8 s.k, .int .i64 s.n, .slice ak2 s.kids.length ck2] rfl ?g1 HZ.out.2 HZ.out.1 ?_))
              case g1 =>
                intro u hu
                simp only [List.mem_cons, List.not_mem_nil, or_false] at hu
                rcases hu with rfl | rfl | rfl <;> rfl
              intro v14 w14 ho14 hs14 hb14
              have HO14 := Lib.hid (show OwnE w.heap.size w14 (b5 + 1) v14 (es ++ [((s, .slice ak2 s.kids.length ck2) : E3)]) from HOWN2.out.push HSUB.out ho14 hs14)
              have HM14 := Lib.hid ((HMid.out.below HB13.out).grow hs14 hb14 HB5.out.1 (by decide) (by decide))
              have HOS14 := Lib.hid ((HOWNS.out.below HB13.out).same hs14 (by decide) (by decide))
              have HMP := Lib.hid (show (es ++ [((s, .slice ak2 s.kids.length ck2) : E3)]).map (·.1) = f.exprs.take (z + 1) from by rw [List.map_append, HMAP.out, HK2.out]; rfl)
              clear ho14 hs14 hb14 e0 e1 e2 HOWN2 HSUB HB13 HMid HOWNS
              obtain ⟨ao14, co14, rfl⟩ := own_slice HO14.out.1
              go_wp2_with fail
              go_roundg (m2 - (z + 1))
              case measure => omega
              case rel => exact ⟨z + 1, _, rfl, by go_num, by omega, HMP.out, HO14.out, HOS14.out, HM14.out⟩
            · obtain rfl : z = m2 := by omega
              have hnlt2 : ¬ (z : Int) < z := by omega
              have HEE := Lib.hid (show es.map (·.1) = f.exprs from by rw [HMAP.out, List.take_of_length_le (by have := HM2.out; omega)])
              clear HMAP
              obtain ⟨ao9, co9, h9⟩ := own_slice HOWN.out.1
              subst h9
              have hXE := HMid.out.1
              have f5 := frozen_of_row wE b5 5 _ _ hXE
              have f6 := frozen_of_row wE b5 6 _ _ hXE
              have c5 := cell_of hXE 5 (.slice ass q cs) rfl
              have hX1 := Joins.block_setCell (i := 5) hXE (.slice ao8 ss.length co8)
              have hX2 := Joins.block_setCell (i := 6) hX1 (.slice ao9 es.length co9)
              have hS1 := Same.set (j := 5) hXE (.slice ao8 ss.length co8)
              have hS2 := Same.set (j := 6) hX1 (.slice ao9 es.length co9)
              have hBE2 : Below wR.heap.size wR ((wE.setCell ⟨b5, 5, none⟩ (.slice ao8 ss.length co8)).setCell ⟨b5, 6, none⟩ (.slice ao9 es.length co9)) := (HMid.out.2.2.2.setCell (by show _ ≤ b5; have := HB5.out.1; omega) _).setCell (by show _ ≤ b5; have := HB5.out.1; omega) _
              have HSP := Lib.hid (show SubP w.heap.size ((wE.setCell ⟨b5, 5, none⟩ (.slice ao8 ss.length co8)).setCell ⟨b5, 6, none⟩ (.slice ao9 es.length co9)) ((f, vb, vu, .slice ao8 ss.length co8, .slice ao9 es.length co9) : P5) from
                ⟨own_same (own_same HMid.out.2.1 hS1 (by decide)) hS2 (by decide), own_same (own_same HMid.out.2.2.1 hS1 (by decide)) hS2 (by decide), ⟨ss, ((HOWNS.out.lift (by have := HWR.out; have := HB5.out; omega)).same hS1 (by decide) (by decide)).same hS2 (by decide) (by decide), HSS.out⟩, es, ((HOWN.out.lift (by have := HWR.out; have := HB5.out; omega)).same hS1 (by decide) (by decide)).same hS2 (by decide) (by decide), HEE.out⟩)
              have HX2 := Lib.hid hX2
              have HBE2 := Lib.hid hBE2
              clear hXE hX1 hX2 hS1 hS2 hBE2 HOWN HOWNS
              go_upto_region 25 with fail
              generalize ((wE.setCell ⟨b5, 5, none⟩ (.slice ao8 ss.length co8)).setCell ⟨b5, 6, none⟩ (.slice ao9 es.length co9)) = wF at *
              clear f5 f6 c5 c6
              have e0 := cell_of HX2.out 0 (.int .i64 f.params) rfl
              have e1 := cell_of HX2.out 1 (.bool f.more) rfl
              have e2 := cell_of HX2.out 2 (.int .i64 f.slots) rfl
              have e3 := cell_of HX2.out 3 vb rfl
              have e4 := cell_of HX2.out 4 vu rfl
              have e5 := cell_of HX2.out 5 (.slice ao8 ss.length co8) rfl
              have e6 := cell_of HX2.out 6 (.slice ao9 es.length co9) rfl
              have e7 := cell_of HX2.out 7 (.int .i64 f.start) rfl
              obtain ⟨rs, hmap, hown, h3, ht3, hbw⟩ := HO.out.below HBE2.out
              obtain ⟨aou, cou, hu⟩ := own_slice hown.1
              subst hu
              have d3 := cell_of h3 1 (.slice aou rs.length cou) rfl
              have HOW := Lib.hid hown
              have HT3 := Lib.hid ht3
              have HH3 := Lib.hid h3
              have HBW2 := Lib.hid hbw
              have HRL := Lib.hid (map_len hmap (by omega))
              have HMP := Lib.hid (show (rs ++ [((f, vb, vu, .slice ao8 ss.length co8, .slice ao9 es.length co9) : P5)]).map (·.1) = p.protos.take (k + 1) from by rw [List.map_append, hmap, HK.out]; rfl)
              have HZ := Lib.hid (show g3 + 1 ≤ wF.heap.size ∧ rs.length ≤ 1000000 from ⟨lt_of_get h3, by have := HRL.out; omega⟩)
              obtain ⟨abv, cbv, hvb⟩ : ∃ a c, vb = .slice a f.boxed.length c := own_slice HSP.out.1
              obtain ⟨auv, cuv, hvu⟩ : ∃ a c, vu = .slice a f.ups.length c := own_slice HSP.out.2.1
              subst hvb
              subst hvu
              clear hown ht3 h3 hbw hmap HX2 HMid
              go_wp2_with (at_builtin; go_loud (refine wpList_append_item rfl (.tmp 93) (.tmp 95) 24 rfl 35 (.agg #[.int .i64 0, .bool false, .int .i64 0, .slice none 0 0, .slice none 0 0, .slice none 0 0, .slice none 0 0, .int .i64 0]) 8 128 Tryd.underlying24 infoProto rfl (by decide) (by decide) (g3 + 1) (.slice aou rs.length cou) rs.length (rs.flatMap cellsP) rfl HOW.out.1 _ rfl rfl [.int .i64 f.params, .bool f.more, .int .i64 f.slots, .slice abv f.boxed.length cbv, .slice auv f.ups.length cuv, .slice ao8 ss.length co8, .slice ao9 es.length co9, .int .i64 f.start] rfl ?g1 HZ.out.2 HZ.out.1 ?_))
              case g1 => exact ⟨rfl, rfl, rfl, rfl, rfl, rfl, rfl, rfl⟩
              intro v15 w15 ho15 hs15 hb15
              obtain ⟨ao15, co15, h15⟩ := own_slice ho15
              subst h15
              have hO15 := HOW.out.push HSP.out ho15 hs15
              have h315 := (hb15.block g3 (Nat.lt_succ_self g3)).trans HH3.out
              have f15 := frozen_of_row w15 g3 1 _ _ h315
              have c15 := cell_of h315 1 (.slice aou rs.length cou) rfl
              have h316 := Joins.block_setCell (i := 1) h315 (.slice ao15 (rs.length + 1) co15)
              have hS16 := Same.set (j := 1) h315 (.slice ao15 (rs.length + 1) co15)
              have HF := Lib.hid (show Outer w.heap.size w2 p g3 (.slice at3 p.strs.length ct3) (k + 1) (.slice ao15 (rs.length + 1) co15) (w15.setCell ⟨g3, 1, none⟩ (.slice ao15 (rs.length + 1) co15)) from
                ⟨_, HMP.out, hO15.same hS16 (by decide) (by decide) (by decide) (by decide) (by decide) (by decide), h316, own_same (own_same HT3.out hs15 (by decide)) hS16 (by decide), (HBW2.out.trans (hb15.mono (by have := HG.out; omega))).setCell (by show _ ≤ g3; exact HG.out) _⟩)
              clear ho15 hs15 hb15 hO15 h315 h316 hS16 e0 e1 e2 e3 e4 e5 e6 e7 d3 HOW HSP
              go_wp2_with fail
              go_roundg (n - (k + 1))
              case measure => omega
              case rel => exact ⟨k + 1, _, rfl, by go_num, by omega, HF.out⟩
    · obtain rfl : k = n := by omega
      have hnlt : ¬ (k : Int) < k := by omega
      obtain ⟨rs, hmap, hown, h3, ht3, hbw⟩ := HO.out
      obtain ⟨aou, cou, hu⟩ := own_slice hown.1
      subst hu
      have hX := HX.out
      have hX1 := (hbw.block _ (by omega)).trans hX.2.1
      have f10 := frozen_of_row wR (w.heap.size + 1) 0 _ _ hX1
      have f11 := frozen_of_row wR (w.heap.size + 1) 1 _ _ hX1
      have c12 := cell_of hX1 0 (.slice none 0 0) rfl
      have c13 := cell_of hX1 1 (.slice none 0 0) rfl
      have d0 := cell_of h3 0 (.slice at3 p.strs.length ct3) rfl
      have d1 := cell_of h3 1 (.slice aou rs.length cou) rfl
      have i1 := Joins.block_setCell (i := 0) hX1 (.slice at3 p.strs.length ct3)
      have i2 := Joins.block_setCell (i := 1) i1 (.slice aou rs.length cou)
      have hS1 := Same.set (j := 0) hX1 (.slice at3 p.strs.length ct3)
      have hS2 := Same.set (j := 1) i1 (.slice aou rs.length cou)
      have z0 := cell_of i2 0 (.slice at3 p.strs.length ct3) rfl
      have z1 := cell_of i2 1 (.slice aou rs.length cou) rfl
      have HE := Lib.hid (show (∃ rs', OwnP w.heap.size ((wR.setCell ⟨w.heap.size + 1, 0, none⟩ (.slice at3 p.strs.length ct3)).setCell ⟨w.heap.size + 1, 1, none⟩ (.slice aou rs.length cou)) w.heap.size (.slice aou rs.length cou) rs' ∧ rs'.map (·.1) = p.protos) ∧ TextsO ((wR.setCell ⟨w.heap.size + 1, 0, none⟩ (.slice at3 p.strs.length ct3)).setCell ⟨w.heap.size + 1, 1, none⟩ (.slice aou rs.length cou)) (.slice at3 p.strs.length ct3) p.strs ∧ Below w.heap.size w ((wR.setCell ⟨w.heap.size + 1, 0, none⟩ (.slice at3 p.strs.length ct3)).setCell ⟨w.heap.size + 1, 1, none⟩ (.slice aou rs.length cou)) from
        ⟨⟨rs, (((hown.lift (by have := HG.out; omega)).same hS1 (by decide) (by decide) (by decide) (by decide) (by decide) (by decide)).same hS2 (by decide) (by decide) (by decide) (by decide) (by decide) (by decide)), by rw [hmap, List.take_of_length_le (by have := HN.out; omega)]⟩, own_same (own_same ht3 hS1 (by decide)) hS2 (by decide), ((hX.2.2.2.trans (hbw.mono (by omega))).setCell (p := ⟨w.heap.size + 1, 0, none⟩) (by show w.heap.size ≤ w.heap.size + 1; omega) _).setCell (p := ⟨w.heap.size + 1, 1, none⟩) (by show w.heap.size ≤ w.heap.size + 1; omega) _⟩)
      have Z0 := Lib.hid z0
      have Z1 := Lib.hid z1
      clear hX hX1 i1 i2 hS1 hS2 hmap hown h3 ht3 hbw z0 z1
      go_wp2_with fail
      have z0 := Z0.out
      have z1 := Z1.out
      refine bodyPost_ret (v := .agg #[.slice at3 p.strs.length ct3, .slice aou rs.length cou]) (by simp [results, Tryd.results7, go_sem, z0, z1]) rfl ?_
      exact ⟨_, _, rfl, HE.out⟩

end Go.Proofs.YtnnjkejejlhkdaaDoor.Rt

namespace Go.Proofs.YtnnjkejejlhkdaaDoor.Rt
open Go Go.RowKit

def FineE (e : Ex) : Prop := e.k < 256 ∧ In64 e.n ∧ ∀ c ∈ e.kids, In64 c
def FineS (s : St) : Prop := s.k < 256 ∧ (∀ c ∈ s.slots, In64 c) ∧ (∀ c ∈ s.targets, In64 c) ∧ (∀ c ∈ s.exprs, In64 c) ∧ In64 s.next ∧ In64 s.els ∧ In64 s.line
def FineF (f : Pr) : Prop := (∀ u ∈ f.ups, In64 u.pos) ∧ (∀ s ∈ f.stmts, FineS s) ∧ (∀ e ∈ f.exprs, FineE e) ∧ In64 f.params ∧ In64 f.slots ∧ In64 f.start

section
variable {β : Nat} {w : World} {b : Nat} {e : TypeId} {v : Value}
theorem own_lst {xs : List Value} (h : w.ownsRow b e 1 v xs.length xs) : LstB w.heap.size w v xs := by
  have hx := h
  rcases h.2 with ⟨rfl, h0⟩ | ⟨g, cap, cur, rfl, _, hh, h1, h2, _⟩
  · obtain rfl : xs = [] := List.length_eq_zero_iff.1 h0
    exact ⟨none, 0, rfl, Nat.zero_le _, fun h => absurd rfl h⟩
  · refine ⟨_, _, rfl, ?_, fun _ => ⟨g, 0, lt_of_get hh, rfl, fun j hj => ?_⟩⟩
    · unfold Len; simp only [maxLen] at h2; omega
    · have := hx.cells (g := g) rfl j xs[j] (List.getElem?_eq_getElem hj)
      rwa [Go.WideShapes.add_plain] at this
theorem own_rows {R α : Type} {C : Nat} {V : Array Value → α → Prop} {rs : List R} (cf : R → List Value) (hC : ∀ r, (cf r).length = C) (pr : R → α) (h : w.ownsRow b e C v rs.length (rs.flatMap cf)) (hV : ∀ r ∈ rs, V (cf r).toArray (pr r)) : RowsB C V w.heap.size w v (rs.map pr) := by
  have hx := h
  rcases h.2 with ⟨rfl, h0⟩ | ⟨g, cap, cur, rfl, _, hh, h1, h2, _⟩
  · obtain rfl : rs = [] := List.length_eq_zero_iff.1 h0
    exact ⟨none, 0, rfl, Nat.zero_le _, fun h => absurd rfl h⟩
  · refine ⟨_, _, by rw [List.length_map], ?_, fun _ => ⟨g, 0, lt_of_get hh, rfl, fun i hi => ?_⟩⟩
    · unfold Len; rw [List.length_map]; simp only [maxLen] at h2; omega
    · have hi' : i < rs.length := by simpa using hi
      refine ⟨(cf rs[i]).toArray, by rw [List.getElem_map]; exact hV _ (List.getElem_mem hi'), fun j hj => ?_⟩
      have hj' : j < (cf rs[i]).toArray.size := by simpa [hC] using hj
      refine ⟨hj', ?_⟩
      have := hx.cells (g := g) rfl (i * C + j) ((cf rs[i])[j]'(by rw [hC]; exact hj)) (by rw [flat_get C cf hC rs i hi' j hj, List.getElem?_eq_getElem (by rw [hC]; exact hj)])
      rw [Go.WideShapes.add_plain] at this
      rw [Nat.zero_add] at this ⊢
      rw [this]
      simp
theorem IntsO.lst {l : List Int} (h : IntsO β w v l) : LstB w.heap.size w v (ints l) := own_lst (by rw [ints_len]; exact h)
theorem TextsO.lst {l : List ByteArray} (h : TextsO w v l) : LstB w.heap.size w v (texts l) := own_lst (by rw [texts_len]; exact h)
theorem OwnE.rows {rs : List E3} (h : OwnE β w b v rs) (hf : ∀ r ∈ rs, FineE r.1) : RowsB 3 (ExC w.heap.size w) w.heap.size w v (rs.map (·.1)) :=
  own_rows cellsE (fun _ => rfl) (·.1) h.1 fun r hr => ⟨r.2, rfl, (h.2 r hr).lst, (hf r hr).1, (hf r hr).2.1, (hf r hr).2.2⟩
theorem OwnS.rows {rs : List S4} (h : OwnS β w b v rs) (hf : ∀ r ∈ rs, FineS r.1) : RowsB 7 (StC w.heap.size w) w.heap.size w v (rs.map (·.1)) :=
  own_rows cellsS (fun _ => rfl) (·.1) h.1 fun r hr => ⟨r.2.1, r.2.2.1, r.2.2.2, rfl, (h.2 r hr).1.lst, (h.2 r hr).2.1.lst, (h.2 r hr).2.2.lst, hf r hr⟩
theorem OwnP.rows {rs : List P5} (h : OwnP β w b v rs) (hf : ∀ r ∈ rs, FineF r.1) : RowsB 8 (PrC w.heap.size w) w.heap.size w v (rs.map (·.1)) :=
  own_rows cellsP (fun _ => rfl) (·.1) h.1 fun r hr => by
    obtain ⟨ob, ou, ⟨ss, os, hs⟩, es, oe, he⟩ := h.2 r hr
    obtain ⟨f1, f2, f3, f4⟩ := hf r hr
    refine ⟨_, _, _, _, rfl, own_lst (by rw [bools_len]; exact ob), ?_, ?_, ?_, f4⟩
    · have := own_rows (V := UpC) (w := w) (b := β) cellsU (fun _ => rfl) id ou (fun u hu => ⟨rfl, f1 u hu⟩)
      rwa [List.map_id] at this
    · rw [← hs]; exact os.rows fun q hq => f2 q.1 (by rw [← hs]; exact List.mem_map_of_mem hq)
    · rw [← he]; exact oe.rows fun q hq => f3 q.1 (by rw [← he]; exact List.mem_map_of_mem hq)
theorem pg_own {vs vp : Value} {strs : List ByteArray} {rs : List P5} (ht : TextsO w vs strs) (h : OwnP β w b vp rs) (hf : ∀ r ∈ rs, FineF r.1) : PgV w.heap.size w (.agg #[vs, vp]) ⟨strs, rs.map (·.1)⟩ :=
  ⟨vs, vp, rfl, ht.lst, h.rows hf⟩

/-- A number stored at the head of a list of numbers: that list, and whoever shares its memory, has it; nothing else turns. -/
theorem ints_set {l : List Int} {t : Nat} {cs : Array Value} {fr : Nat × Nat} (x : Int) (h : IntsO β w v l) (ht : w.heap[t]? = some (.cells cs 3 fr)) :
    ∃ l', IntsO β (w.setCell ⟨t, 0, none⟩ (.int .i64 x)) v l' ∧ (l' = l ∨ l' = l.set 0 x) ∧ (v.ownBlock = some t → l' = l.set 0 x) := by
  rcases h.2 with ⟨rfl, h0⟩ | ⟨g, cap, cur, rfl, h1, hh, h2, h3, h4, h5⟩
  · obtain rfl : l = [] := List.length_eq_zero_iff.1 h0
    exact ⟨[], World.ownsRow_nil _ _ _ _, .inl rfl, fun h => by cases h⟩
  · by_cases hgt : g = t
    · subst hgt
      refine ⟨l.set 0 x, ⟨by simp [ints], .inr ⟨g, cap, cur.setIfInBounds 0 (.int .i64 x), by rw [List.length_set], h1, Joins.block_setCell (i := 0) hh _, by rw [List.length_set]; exact h2, h3, by simpa using h4, ?_⟩⟩, .inr rfl, fun _ => rfl⟩
      rw [List.length_set, Array.toList_setIfInBounds, List.take_set, h5]
      simp [ints, List.map_set]
    · refine ⟨l, ⟨h.1, .inr ⟨g, cap, cur, rfl, h1, (heap_setCell_other w ⟨t, 0, none⟩ g _ hgt).trans hh, h2, h3, h4, h5⟩⟩, .inl rfl, fun e => ?_⟩
      exact absurd (by injection e) hgt
theorem own_cells {C n : Nat} {xs : List Value} (h : w.ownsRow b e C v n xs) (hn : n ≠ 0) : ∃ g cap cur, v = .slice (some ⟨g, 0, none⟩) n cap ∧ b ≤ g ∧ w.heap[g]? = some (.cells cur e (0, 0)) ∧ ∀ j u, xs[j]? = some u → w.cell? ⟨g, j, none⟩ = some u := by
  have hx := h
  rcases h.2 with ⟨rfl, h0⟩ | ⟨g, cap, cur, rfl, hbg, hh, _⟩
  · exact absurd h0 hn
  · refine ⟨g, cap, cur, rfl, hbg, hh, fun j u hj => ?_⟩
    have := hx.cells (g := g) rfl j u hj
    rwa [Go.WideShapes.add_plain, Nat.zero_add] at this
end

theorem map_one {α β : Type} {ss : List (α × β)} {a : α} (h : ss.map (·.1) = [a]) : ∃ x, ss = [(a, x)] := by
  match ss, h with
  | [(c, x)], h => simp at h; exact ⟨x, by rw [h]⟩
theorem map_cons {α β : Type} {ss : List (α × β)} {a : α} {l : List α} (h : ss.map (·.1) = a :: l) : ∃ x r, ss = (a, x) :: r ∧ r.map (·.1) = l := by
  match ss, h with
  | (c, x) :: r, h => simp at h; exact ⟨x, r, by rw [h.1], by rw [← h.2]⟩
theorem i64_in {c : Int} (l : List Int) (hl : l.all (fun c => decide (-9223372036854775808 ≤ c) && decide (c ≤ 9223372036854775807)) = true) (h : c ∈ l) : In64 c := by
  have := List.all_eq_true.1 hl c h
  simpa [In64] using this

def prL (x y k : List Int) : Pr := ⟨0, true, 4, [false, false, false, false], [], [⟨5, [2], [], x, 1, 0, 1⟩, ⟨6, y, [], [], 1, -1, 1⟩], [⟨4, 1, []⟩, ⟨8, 0, []⟩, ⟨8, 0, []⟩, ⟨10, 0, []⟩, ⟨14, 1, k⟩], 0⟩
theorem prL_bad : ∀ x ∈ [[0, 1, 4], [2, 1, 4]], ∀ y ∈ [[0, 3], [2, 3]], rightB ⟨[⟨#[121]⟩], [prL x y [2, 3]]⟩ = false := by decide +kernel

set_option maxRecDepth 100000 in
/-- The copy of the loop's program, its first slot turned. -/
theorem late_own {β : Nat} {w : World} {b : Nat} {vs vp : Value} {rs : List P5} (ht : TextsO w vs [⟨#[121]⟩]) (h : OwnP β w b vp rs) (hm : rs.map (·.1) = (loopP 0).protos) :
    ∃ g c g2 c2 t c3, vp = .slice (some ⟨g, 0, none⟩) 1 c ∧ w.cell? ⟨g, 5, none⟩ = some (.slice (some ⟨g2, 0, none⟩) 2 c2) ∧ w.cell? ⟨g2, 1, none⟩ = some (.slice (some ⟨t, 0, none⟩) 1 c3) ∧ w.cell? ⟨t, 0, none⟩ = some (.int .i64 0) ∧ w.frozen? ⟨t, 0, none⟩ = false ∧ β ≤ t ∧
      ∃ p, PgV w.heap.size (w.setCell ⟨t, 0, none⟩ (.int .i64 2)) (.agg #[vs, vp]) p ∧ rightB p = false := by
  obtain ⟨⟨vb, vu, vst, vex⟩, rfl⟩ := map_one hm
  obtain ⟨ob, ou, ⟨ss, os, hs⟩, es, oe, he⟩ := h.2 _ (List.mem_singleton.2 rfl)
  obtain ⟨⟨s1, s2, s3⟩, r1, hs1, hs2⟩ := map_cons hs
  obtain ⟨⟨q1, q2, q3⟩, hs3⟩ := map_one hs2
  obtain ⟨k0, r2, he1, he2⟩ := map_cons he
  obtain ⟨k1, r3, he3, he4⟩ := map_cons he2
  obtain ⟨k2, r4, he5, he6⟩ := map_cons he4
  obtain ⟨k3, r5, he7, he8⟩ := map_cons he6
  obtain ⟨k4, he9⟩ := map_one he8
  clear hs he hm hs2 he2 he4 he6 he8
  subst hs3
  subst hs1
  subst he9
  subst he7
  subst he5
  subst he3
  subst he1
  obtain ⟨g, c, cur, hvp, _, hg, hgc⟩ := own_cells h.1 (by simp)
  obtain ⟨g2, c2, cur2, hvs, _, hg2, hg2c⟩ := own_cells os.1 (by simp)
  obtain ⟨t1, t2, t3⟩ := os.2 _ (.head _)
  obtain ⟨u1, u2, u3⟩ := os.2 _ (.tail _ (.head _))
  obtain ⟨t, c3, cur3, hv1, hbt, hgt, hgtc⟩ := own_cells t1 (by simp)
  have m0 := oe.2 _ (.head _)
  have m1 := oe.2 _ (.tail _ (.head _))
  have m2 := oe.2 _ (.tail _ (.tail _ (.head _)))
  have m3 := oe.2 _ (.tail _ (.tail _ (.tail _ (.head _))))
  have m4 := oe.2 _ (.tail _ (.tail _ (.tail _ (.tail _ (.head _)))))
  have hv1 : s1 = .slice (some ⟨t, 0, none⟩) 1 c3 := hv1
  have hvs : vst = .slice (some ⟨g2, 0, none⟩) 2 c2 := hvs
  have hvp : vp = .slice (some ⟨g, 0, none⟩) 1 c := hvp
  have hS := Same.set (j := 0) hgt (.int .i64 2)
  obtain ⟨l1, n1, -, e1⟩ := ints_set 2 t1 hgt
  obtain ⟨l2, n2, e2, -⟩ := ints_set 2 t2 hgt
  obtain ⟨l3, n3, e3, -⟩ := ints_set 2 t3 hgt
  obtain ⟨l4, n4, e4, -⟩ := ints_set 2 u1 hgt
  obtain ⟨l5, n5, e5, -⟩ := ints_set 2 u2 hgt
  obtain ⟨l6, n6, e6, -⟩ := ints_set 2 u3 hgt
  obtain ⟨l7, n7, e7, -⟩ := ints_set 2 m0 hgt
  obtain ⟨l8, n8, e8, -⟩ := ints_set 2 m1 hgt
  obtain ⟨l9, n9, e9, -⟩ := ints_set 2 m2 hgt
  obtain ⟨l10, n10, e10, -⟩ := ints_set 2 m3 hgt
  obtain ⟨l11, n11, e11, -⟩ := ints_set 2 m4 hgt
  have e1 : l1 = [2] := e1 (by rw [hv1]; rfl)
  have e2 : l2 = [] := by simpa using e2
  have e5 : l5 = [] := by simpa using e5
  have e6 : l6 = [] := by simpa using e6
  have e7 : l7 = [] := by simpa using e7
  have e8 : l8 = [] := by simpa using e8
  have e9 : l9 = [] := by simpa using e9
  have e10 : l10 = [] := by simpa using e10
  have e11 : l11 = [2, 3] := by simpa using e11
  have e3 : l3 = [0, 1, 4] ∨ l3 = [2, 1, 4] := e3
  have e4 : l4 = [0, 3] ∨ l4 = [2, 3] := e4
  subst e1 e2 e5 e6 e7 e8 e9 e10 e11
  refine ⟨g, c, g2, c2, t, c3, hvp, by rw [hgc 5 vst rfl, hvs], by rw [hg2c 1 s1 rfl, hv1], hgtc 0 _ rfl, frozen_of_row _ _ _ _ _ hgt, hbt, ⟨[⟨#[121]⟩], [prL l3 l4 [2, 3]]⟩, ?_, ?_⟩
  · have hz : w.heap.size = (w.setCell ⟨t, 0, none⟩ (.int .i64 2)).heap.size := by simp
    rw [hz]
    refine pg_own (β := β) (rs := [((prL l3 l4 [2, 3], vb, vu, vst, vex) : P5)]) (b := b) (own_same ht hS (by decide)) ⟨own_same h.1 hS (by decide), fun r hr => ?_⟩ (fun r hr => ?_)
    · rw [List.mem_singleton.1 hr]
      refine ⟨own_same ob hS (by decide), own_same ou hS (by decide), ⟨[(⟨5, [2], [], l3, 1, 0, 1⟩, s1, s2, s3), (⟨6, l4, [], [], 1, -1, 1⟩, q1, q2, q3)], ⟨own_same os.1 hS (by decide), fun q hq => ?_⟩, rfl⟩, [(⟨4, 1, []⟩, k0), (⟨8, 0, []⟩, k1), (⟨8, 0, []⟩, k2), (⟨10, 0, []⟩, k3), (⟨14, 1, [2, 3]⟩, k4)], ⟨own_same oe.1 hS (by decide), fun q hq => ?_⟩, rfl⟩
      · simp only [List.mem_cons, List.not_mem_nil, or_false] at hq
        rcases hq with rfl | rfl
        · exact ⟨n1, n2, n3⟩
        · exact ⟨n4, n5, n6⟩
      · simp only [List.mem_cons, List.not_mem_nil, or_false] at hq
        rcases hq with rfl | rfl | rfl | rfl | rfl
        · exact n7
        · exact n8
        · exact n9
        · exact n10
        · exact n11
    · rw [List.mem_singleton.1 hr]
      have d : ∀ c : Int, decide (-9223372036854775808 ≤ c ∧ c ≤ 9223372036854775807) = true → In64 c := fun c h => (of_decide_eq_true h : -9223372036854775808 ≤ c ∧ c ≤ 9223372036854775807)
      refine ⟨fun u hu => (by cases hu), fun s hs => ?_, fun e he => ?_, d _ rfl, d _ rfl, d _ rfl⟩
      · have hs : s ∈ ([⟨5, [2], [], l3, 1, 0, 1⟩, ⟨6, l4, [], [], 1, -1, 1⟩] : List St) := hs
        simp only [List.mem_cons, List.not_mem_nil, or_false] at hs
        rcases hs with rfl | rfl
        · exact ⟨(show 5 < 256 by decide), fun c h => i64_in [2] (by decide) h, fun c h => (by cases h), fun c h => (by rcases e3 with rfl | rfl <;> exact i64_in _ (by decide) h), d _ rfl, d _ rfl, d _ rfl⟩
        · exact ⟨(show 6 < 256 by decide), fun c h => (by rcases e4 with rfl | rfl <;> exact i64_in _ (by decide) h), fun c h => (by cases h), fun c h => (by cases h), d _ rfl, d _ rfl, d _ rfl⟩
      · have he : e ∈ ([⟨4, 1, []⟩, ⟨8, 0, []⟩, ⟨8, 0, []⟩, ⟨10, 0, []⟩, ⟨14, 1, [2, 3]⟩] : List Ex) := he
        simp only [List.mem_cons, List.not_mem_nil, or_false] at he
        rcases he with rfl | rfl | rfl | rfl | rfl
        · exact ⟨by decide, d _ rfl, fun c h => (by cases h)⟩
        · exact ⟨by decide, d _ rfl, fun c h => (by cases h)⟩
        · exact ⟨by decide, d _ rfl, fun c h => (by cases h)⟩
        · exact ⟨by decide, d _ rfl, fun c h => (by cases h)⟩
        · exact ⟨by decide, d _ rfl, fun c h => i64_in _ (by decide) h⟩
  · rcases e3 with rfl | rfl <;> rcases e4 with rfl | rfl <;> exact prL_bad _ (by decide) _ (by decide)

end Go.Proofs.YtnnjkejejlhkdaaDoor.Rt

namespace Go.Proofs.YtnnjkejejlhkdaaDoor.Rt
open Go Go.RowKit

def loopC (q : Nat) : Array Value := #[.int .u8 5, sl (q + 13) 1, nilS, sl (q + 14) 3, .int .i64 1, .int .i64 0, .int .i64 1, .int .u8 6, sl (q + 15) 2, nilS, nilS, .int .i64 1, .int .i64 (-1), .int .i64 1]
/-- The loop's program, in the blocks behind q. -/
structure LoopAt (q : Nat) (w : World) : Prop where
  b1 : w.heap[q + 1]? = some (.cells #[.string ⟨#[121]⟩] 9 (0, 0))
  b8 : w.heap[q + 8]? = some (.cells #[.int .i64 2, .int .i64 3] 3 (0, 0))
  b9 : w.heap[q + 9]? = some (.cells (exprsC q 0) 41 (0, 0))
  b10 : w.heap[q + 10]? = some (.cells #[.int .i64 0, .bool true, .int .i64 4, sl (q + 12) 4, nilS, sl (q + 16) 2, sl (q + 9) 5, .int .i64 0] 35 (0, 0))
  b11 : w.heap[q + 11]? = some (.cells #[sl (q + 1) 1, sl (q + 10) 1] 26 (0, 0))
  b12 : w.heap[q + 12]? = some (.cells #[.bool false, .bool false, .bool false, .bool false] 4 (0, 0))
  b13 : w.heap[q + 13]? = some (.cells #[.int .i64 0] 3 (0, 0))
  b14 : w.heap[q + 14]? = some (.cells #[.int .i64 0, .int .i64 1, .int .i64 4] 3 (0, 0))
  b15 : w.heap[q + 15]? = some (.cells #[.int .i64 0, .int .i64 3] 3 (0, 0))
  b16 : w.heap[q + 16]? = some (.cells (loopC q) 44 (0, 0))
theorem LoopAt.below {q : Nat} {w w' : World} (h : LoopAt q w) (hb : Below w.heap.size w w') : LoopAt q w' :=
  ⟨at_below h.b1 hb, at_below h.b8 hb, at_below h.b9 hb, at_below h.b10 hb, at_below h.b11 hb, at_below h.b12 hb, at_below h.b13 hb, at_below h.b14 hb, at_below h.b15 hb, at_below h.b16 hb⟩
theorem d64i (c : Int) (h : decide (-9223372036854775808 ≤ c ∧ c ≤ 9223372036854775807) = true) : In64 c := (of_decide_eq_true h : -9223372036854775808 ≤ c ∧ c ≤ 9223372036854775807)
theorem LoopAt.pg {q : Nat} {w : World} (h : LoopAt q w) : PgV w.heap.size w (.agg #[sl (q + 1) 1, sl (q + 10) 1]) (loopP 0) := by
  have dn : ∀ c ∈ ([] : List Int), In64 c := fun c h => by cases h
  refine ⟨_, _, rfl, lst_of (vs := [.string ⟨#[121]⟩]) h.b1 (by unfold Len; decide), ?_⟩
  refine rows_of (l := (loopP 0).protos) [#[.int .i64 0, .bool true, .int .i64 4, sl (q + 12) 4, nilS, sl (q + 16) 2, sl (q + 9) 5, .int .i64 0]] (by rw [h.b10]; rfl) (fun cs hc => by rw [List.mem_singleton.1 hc]; rfl) rfl (show 1 ≤ 9223372036854775807 by decide) (fun i hi _ => ?_)
  obtain rfl : i = 0 := by simpa using hi
  refine ⟨_, _, _, _, rfl, lst_of (vs := [.bool false, .bool false, .bool false, .bool false]) h.b12 (by unfold Len; decide), rows_nil, ?_, ?_, d64i _ rfl, d64i _ rfl, d64i _ rfl⟩
  · refine rows_of (l := ([⟨5, [0], [], [0, 1, 4], 1, 0, 1⟩, ⟨6, [0, 3], [], [], 1, -1, 1⟩] : List St)) [#[.int .u8 5, sl (q + 13) 1, nilS, sl (q + 14) 3, .int .i64 1, .int .i64 0, .int .i64 1], #[.int .u8 6, sl (q + 15) 2, nilS, nilS, .int .i64 1, .int .i64 (-1), .int .i64 1]] (by rw [h.b16]; rfl) (fun cs hc => by
      simp only [List.mem_cons, List.not_mem_nil, or_false] at hc
      rcases hc with rfl | rfl <;> rfl) rfl (show 2 ≤ 9223372036854775807 by decide) (fun i hi _ => ?_)
    match i, hi with
    | 0, _ => exact ⟨_, _, _, rfl, lst_of (vs := [.int .i64 0]) h.b13 (by unfold Len; decide), lst_nil, lst_of (vs := [.int .i64 0, .int .i64 1, .int .i64 4]) h.b14 (by unfold Len; decide), (show 5 < 256 by decide), fun c h => i64_in [0] (by decide) h, dn, fun c h => i64_in [0, 1, 4] (by decide) h, d64i _ rfl, d64i _ rfl, d64i _ rfl⟩
    | 1, _ => exact ⟨_, _, _, rfl, lst_of (vs := [.int .i64 0, .int .i64 3]) h.b15 (by unfold Len; decide), lst_nil, lst_nil, (show 6 < 256 by decide), fun c h => i64_in [0, 3] (by decide) h, dn, dn, d64i _ rfl, d64i _ rfl, d64i _ rfl⟩
  · refine rows_of (l := ([⟨4, 1, []⟩, ⟨8, 0, []⟩, ⟨8, 0, []⟩, ⟨10, 0, []⟩, ⟨14, 1, [2, 3]⟩] : List Ex)) [#[.int .u8 4, .int .i64 1, nilS], #[.int .u8 8, .int .i64 0, nilS], #[.int .u8 8, .int .i64 0, nilS], #[.int .u8 10, .int .i64 0, nilS], #[.int .u8 14, .int .i64 1, sl (q + 8) 2]] (by rw [h.b9]; rfl) (fun cs hc => by
      simp only [List.mem_cons, List.not_mem_nil, or_false] at hc
      rcases hc with rfl | rfl | rfl | rfl | rfl <;> rfl) rfl (show 5 ≤ 9223372036854775807 by decide) (fun i hi _ => ?_)
    match i, hi with
    | 0, _ => exact ⟨_, rfl, lst_nil, (show 4 < 256 by decide), d64i _ rfl, dn⟩
    | 1, _ => exact ⟨_, rfl, lst_nil, (show 8 < 256 by decide), d64i _ rfl, dn⟩
    | 2, _ => exact ⟨_, rfl, lst_nil, (show 8 < 256 by decide), d64i _ rfl, dn⟩
    | 3, _ => exact ⟨_, rfl, lst_nil, (show 10 < 256 by decide), d64i _ rfl, dn⟩
    | 4, _ => exact ⟨_, rfl, lst_of (vs := [.int .i64 2, .int .i64 3]) h.b8 (by unfold Len; decide), (show 14 < 256 by decide), d64i _ rfl, fun c h => i64_in [2, 3] (by decide) h⟩
theorem loop_bnd : Bnd (loopP 0) := by
  refine ⟨by decide, by decide, fun f hf => ?_⟩
  obtain rfl := List.mem_singleton.1 hf
  exact ⟨by decide, by decide, by decide, by decide, by unfold BndS; decide, by unfold BndE; decide⟩

structure PartAt (q : Nat) (w0 w : World) : Prop where
  b1 : w.heap[q + 1]? = some (.cells #[.string ⟨#[121]⟩] 9 (0, 0))
  b8 : w.heap[q + 8]? = some (.cells #[.int .i64 2, .int .i64 3] 3 (0, 0))
  b9 : w.heap[q + 9]? = some (.cells (exprsC q 0) 41 (0, 0))
  b10 : w.heap[q + 10]? = some (.cells #[.int .i64 0, .bool true, .int .i64 4, sl (q + 12) 4, nilS, sl (q + 7) 2, sl (q + 9) 5, .int .i64 0] 35 (0, 0))
  b11 : w.heap[q + 11]? = some (.cells #[sl (q + 1) 1, sl (q + 10) 1] 26 (0, 0))
  b12 : w.heap[q + 12]? = some (.cells #[.bool false, .bool false, .bool false, .bool false] 4 (0, 0))
  hs : w.heap.size = q + 13
  low : Below w0.heap.size w0 w
  hq : w0.heap.size ≤ q
theorem part_of {q : Nat} {w0 W : World} (h : TextAt q 1 1 (sl (q + 6) 1) 0 W) (hx : W.heap[q + 11]? = some (.cells #[.slice (some ⟨q + 1, 0, none⟩) 1 1, .slice (some ⟨q + 10, 0, none⟩) 1 1] 26 (0, 0))) (hs : W.heap.size = q + 12) (hb : Below w0.heap.size w0 W) (hq : w0.heap.size ≤ q) :
    PartAt q w0 ((((W.setCell ⟨q + 10, 2, none⟩ (.int .i64 4)).setCell ⟨q + 10, 3, none⟩ (.slice (some ⟨q + 12, 0, none⟩) 4 4)).alloc (.cells #[.bool false, .bool false, .bool false, .bool false] 4)).drew) :=
  ⟨grow_at _ (at_set (at_set h.b1 (by omega)) (by omega)), grow_at _ (at_set (at_set h.b8 (by omega)) (by omega)), grow_at _ (at_set (at_set h.b9 (by omega)) (by omega)),
    grow_at _ (heap_setCell_same _ _ 3 _ _ _ (heap_setCell_same W _ 2 _ _ _ h.b10)), grow_at _ (at_set (at_set hx (by omega)) (by omega)), new_at _ (size_set (size_set hs)), size_grow _ (size_set (size_set hs)),
    (((hb.setCell (by show _ ≤ q + 10; omega) _).setCell (by show _ ≤ q + 10; omega) _).alloc (by rw [size_set (size_set hs)]; omega) _).drew, hq⟩
def loopO (q : Nat) : Obj := .cells #[.int .u8 5, .slice (some ⟨q + 13, 0, none⟩) 1 1, .slice none 0 0, .slice (some ⟨q + 13 + 1, 0, none⟩) 3 3, .int .i64 1, .int .i64 0, .int .i64 1, .int .u8 6, .slice (some ⟨q + 13 + 1 + 1, 0, none⟩) 2 2, .slice none 0 0, .slice none 0 0, .int .i64 1, .int .i64 (-1), .int .i64 1] 44
theorem loop_of {q : Nat} {w0 W X : World} (h : PartAt q w0 W) (hX : X = ((((W.setCell ⟨q + 10, 5, none⟩ (.slice (some ⟨q + 13 + 1 + 1 + 1, 0, none⟩) 2 2)).alloc (.cells #[.int .i64 0] 3)).alloc (.cells #[.int .i64 0, .int .i64 1, .int .i64 4] 3)).alloc (.cells #[.int .i64 0, .int .i64 3] 3)).alloc (loopO q)) :
    LoopAt q X ∧ Below w0.heap.size w0 X ∧ X.heap.size = q + 17 := by
  subst hX
  have s0 := size_set (a := ⟨q + 10, 5, none⟩) (v := .slice (some ⟨q + 13 + 1 + 1 + 1, 0, none⟩) 2 2) h.hs
  have s1 := size_grow (.cells #[.int .i64 0] 3) s0
  have s2 := size_grow (.cells #[.int .i64 0, .int .i64 1, .int .i64 4] 3) s1
  have s3 := size_grow (.cells #[.int .i64 0, .int .i64 3] 3) s2
  have s4 := size_grow (loopO q) s3
  have hq := h.hq
  have g : ∀ {k : Nat} {x : Obj}, k ≠ q + 10 → W.heap[k]? = some x → (((((W.setCell ⟨q + 10, 5, none⟩ (.slice (some ⟨q + 13 + 1 + 1 + 1, 0, none⟩) 2 2)).alloc (.cells #[.int .i64 0] 3)).alloc (.cells #[.int .i64 0, .int .i64 1, .int .i64 4] 3)).alloc (.cells #[.int .i64 0, .int .i64 3] 3)).alloc (loopO q)).heap[k]? = some x := fun hk hx => grow_at _ (grow_at _ (grow_at _ (grow_at _ (at_set hx hk))))
  refine ⟨⟨g (by omega) h.b1, g (by omega) h.b8, g (by omega) h.b9, grow_at _ (grow_at _ (grow_at _ (grow_at _ (heap_setCell_same _ _ 5 _ _ _ h.b10)))), g (by omega) h.b11, g (by omega) h.b12, grow_at _ (grow_at _ (grow_at _ (new_at _ s0))), grow_at _ (grow_at _ (new_at _ s1)), grow_at _ (new_at _ s2), new_at _ s3⟩, ?_, s4⟩
  exact ((((h.low.setCell (by show _ ≤ q + 10; omega) _).alloc (by omega) _).alloc (by omega) _).alloc (by omega) _).alloc (by omega) _

theorem LoopAt.far {q : Nat} {w : World} (h : LoopAt q w) {t : Nat} (v : Value) (ht : q + 17 ≤ t) : LoopAt q (w.setCell ⟨t, 0, none⟩ v) :=
  ⟨at_set h.b1 (by omega), at_set h.b8 (by omega), at_set h.b9 (by omega), at_set h.b10 (by omega), at_set h.b11 (by omega), at_set h.b12 (by omega), at_set h.b13 (by omega), at_set h.b14 (by omega), at_set h.b15 (by omega), at_set h.b16 (by omega)⟩
theorem PgV.mono {B B' : Nat} {w : World} {v : Value} {p : Pg} (h : PgV B w v p) (hb : B ≤ B') : PgV B' w v p := by
  obtain ⟨vs, vp, rfl, h1, h2⟩ := h
  exact ⟨vs, vp, rfl, h1.mono hb, h2.mono hb (fun _ _ h => h.mono hb)⟩
def bareC : Array Value := #[.int .i64 0, .bool true, .int .i64 0, .slice none 0 0, .slice none 0 0, .slice none 0 0, .slice none 0 0, .int .i64 (-1)]
/-- What the last line asks. -/
structure Fin (w0 : World) (q b9 b10 bp : Nat) (vs vp : Value) (pl : Pg) (w : World) : Prop where
  loop : LoopAt q w
  box : w.heap[b9]? = some (.cells #[vs, vp] 26 (0, 0))
  late : PgV w.heap.size w (.agg #[vs, vp]) pl
  bare : w.heap[b10]? = some (.cells #[.slice none 0 0, .slice (some ⟨bp, 0, none⟩) 1 1] 26 (0, 0))
  row : w.heap[bp]? = some (.cells bareC 35 (0, 0))
  low : Below w0.heap.size w0 w
theorem Fin.below {w0 : World} {q b9 b10 bp : Nat} {vs vp : Value} {pl : Pg} {w w' : World} (h : Fin w0 q b9 b10 bp vs vp pl w) (hb : Below w.heap.size w w') : Fin w0 q b9 b10 bp vs vp pl w' :=
  ⟨h.loop.below hb, at_below h.box hb, (h.late.below hb).mono hb.size, at_below h.bare hb, at_below h.row hb, h.low.trans (hb.mono h.low.size)⟩
theorem Fin.bare_pg {w0 : World} {q b9 b10 bp : Nat} {vs vp : Value} {pl : Pg} {w : World} (h : Fin w0 q b9 b10 bp vs vp pl w) : PgV w.heap.size w (.agg #[.slice none 0 0, .slice (some ⟨bp, 0, none⟩) 1 1]) ⟨[], [⟨0, true, 0, [], [], [], [], -1⟩]⟩ := by
  refine ⟨_, _, rfl, lst_nil, ?_⟩
  refine rows_of (l := ([⟨0, true, 0, [], [], [], [], -1⟩] : List Pr)) [bareC] (by rw [h.row]; rfl) (fun cs hc => by rw [List.mem_singleton.1 hc]; rfl) rfl (show 1 ≤ 9223372036854775807 by decide) (fun i hi _ => ?_)
  obtain rfl : i = 0 := by simpa using hi
  exact ⟨_, _, _, _, rfl, lst_nil, rows_nil, rows_nil, rows_nil, d64i _ rfl, d64i _ rfl, d64i _ rfl⟩
theorem empty_pg {w : World} : PgV w.heap.size w (.agg #[.slice none 0 0, .slice none 0 0]) ⟨[], []⟩ := ⟨_, _, rfl, lst_nil, rows_nil⟩

set_option maxHeartbeats 16000000 in
set_option maxRecDepth 100000 in
theorem numbers_fn (w : World) (hR : RowsTab w) : Calls Tryd.prog 3 #[] w fun e w' => e = .returned (.bool true) ∧ Below w.heap.size w w' := by
  have HR := Lib.hid hR
  clear hR
  go_enter Tryd.func3, Tryd.ntmps3
  go_wp2_with fail
  refine (pair_fn w).mono ?_
  rintro e w1 ⟨rfl, hp, hb1, hs1⟩
  have hpg := pg_p hp
  have HB1 := Lib.hid hb1
  have c := right_fn (.agg #[nilS, sl (w.heap.size + 11) 2]) pairP w1 hpg (HR.out.below hb1)
  rw [pair_good] at c
  have C := Lib.hid c
  clear hp hb1 hs1 hpg c
  go_wp2_with fail
  refine C.out.mono ?_
  rintro e w2 ⟨rfl, hb2⟩
  have HB2 := Lib.hid (HB1.out.trans (hb2.mono HB1.out.size))
  clear hb2 C HB1
  go_upto_block 0 with fail
  have HS0 := Lib.hid (show SpAt w.heap.size (w2.alloc (.cells #[] 26)) (.slice (some ⟨w2.heap.size, 0, none⟩) 0 0) (spoiltsP 0) from SpAt.nil (new_block _ _) HB2.out.size)
  have HB3 := Lib.hid (show Below w.heap.size w (w2.alloc (.cells #[] 26)) from HB2.out.trans ((Below.refl _ _).alloc HB2.out.size _))
  refine loop1 (w := w) HS0.out HB3.out ?_
  clear HB2 HS0 HB3
  intros
  rename_i hs hb
  rename_i wx
  have HS := Lib.hid hs
  have HB := Lib.hid hb
  clear hs hb
  go_upto_block 3 with fail
  refine loop2 HS.out (HR.out.below HB.out) ?_
  intros
  rename_i hb4
  rename_i w4
  have HB4 := Lib.hid (HB.out.trans (hb4.mono HB.out.size))
  clear hb4 HS HB
  obtain ⟨q, hq⟩ : ∃ q, w4.heap.size = q := ⟨_, rfl⟩
  go_wp2_with fail
  refine (text_at _ q hq).mono ?_
  rintro e w5 ⟨rfl, ht, hb5, hs5⟩
  have hbx : Below w5.heap.size w5 (w5.alloc (.cells #[.slice (some ⟨q + 1, 0, none⟩) 1 1, .slice (some ⟨q + 10, 0, none⟩) 1 1] 26)) := (Below.refl _ _).alloc (Nat.le_refl _) _
  have ht6 := ht.below hbx
  have hx6 := new_at (.cells #[.slice (some ⟨q + 1, 0, none⟩) 1 1, .slice (some ⟨q + 10, 0, none⟩) 1 1] 26) hs5
  have hs6 := size_grow (.cells #[.slice (some ⟨q + 1, 0, none⟩) 1 1, .slice (some ⟨q + 10, 0, none⟩) 1 1] 26) hs5
  have hb6 : Below w.heap.size w (w5.alloc (.cells #[.slice (some ⟨q + 1, 0, none⟩) 1 1, .slice (some ⟨q + 10, 0, none⟩) 1 1] 26)) := HB4.out.trans ((hb5.trans (hbx.mono hb5.size)).mono HB4.out.size)
  obtain ⟨W, hW⟩ : ∃ W, W = w5.alloc (.cells #[.slice (some ⟨q + 1, 0, none⟩) 1 1, .slice (some ⟨q + 10, 0, none⟩) 1 1] 26) := ⟨_, rfl⟩
  have hqw : w.heap.size ≤ q := by rw [← hq]; exact HB4.out.size
  rw [← hW] at ht6 hx6 hs6 hb6
  have x0 := cell_of hx6 0 (.slice (some ⟨q + 1, 0, none⟩) 1 1) rfl
  have x1 := cell_of hx6 1 (.slice (some ⟨q + 10, 0, none⟩) 1 1) rfl
  have HT := Lib.hid (show TextAt q 1 1 (sl (q + 6) 1) 0 W ∧ W.heap[q + 11]? = some (.cells #[.slice (some ⟨q + 1, 0, none⟩) 1 1, .slice (some ⟨q + 10, 0, none⟩) 1 1] 26 (0, 0)) ∧ W.heap.size = q + 12 ∧ Below w.heap.size w W ∧ w.heap.size ≤ q from ⟨ht6, hx6, hs6, hb6, hqw⟩)
  clear ht hbx ht6 hx6 hs6 hb6 hb5 hq hqw
  go_upto_region 60 with fail
  rw [← hW]
  clear hW hs5
  go_upto_region 61 with fail
  have hmk : ∀ W : World, (Instr.makeSlice 30 (.int .i64 4) (.int .i64 4)).run Tryd.prog W = .ok (.slice (some ⟨W.heap.size, 0, none⟩) 4 4) (W.alloc (.cells #[.bool false, .bool false, .bool false, .bool false] 4)) := fun W => make_bools 4 (by decide) W
  obtain ⟨y1, y2, y3, y4, y5, y6, z7, z9, z10⟩ := HT.out.1.cells
  have y7 := cell_of HT.out.1.b10 3 (.slice (some ⟨q + 2, 0, none⟩) 1 1) rfl
  have hWs := HT.out.2.2.1
  clear y1 y2 y4 y5 y6 z7 z9 x0 x1
  have HPA := Lib.hid (part_of HT.out.1 HT.out.2.1 HT.out.2.2.1 HT.out.2.2.2.1 HT.out.2.2.2.2)
  clear HT
  go_cut [] (fun wx => PartAt q w wx)
  case first =>
    go_region_with fail
    all_goals
      go_wp2_with fail
      go_meet
      exact HPA.out
  case rest =>
    clear HPA hmk y3 y7 hWs
    obtain ⟨W7, hW7⟩ : ∃ X, X = ((((wc.setCell ⟨q + 10, 5, none⟩ (.slice (some ⟨q + 13 + 1 + 1 + 1, 0, none⟩) 2 2)).alloc (.cells #[.int .i64 0] 3)).alloc (.cells #[.int .i64 0, .int .i64 1, .int .i64 4] 3)).alloc (.cells #[.int .i64 0, .int .i64 3] 3)).alloc (loopO q) := ⟨_, rfl⟩
    have HL := Lib.hid (loop_of hcut hW7)
    have hWs := hcut.hs
    have f5 := frozen_of_row _ _ 5 _ _ hcut.b10
    have c5 := cell_of hcut.b10 5 (.slice (some ⟨q + 7, 0, none⟩) 2 2) rfl
    clear hcut
    go_upto_region 63 with fail
    unfold loopO at hW7
    rw [← hW7]
    clear hW7 hWs f5 c5
    have c := copy_program (.agg #[sl (q + 1) 1, sl (q + 10) 1]) (loopP 0) W7 HL.out.1.pg (Nat.le_refl _) loop_bnd
    have b0 := cell_of HL.out.1.b11 0 (.slice (some ⟨q + 1, 0, none⟩) 1 1) rfl
    have b1 := cell_of HL.out.1.b11 1 (.slice (some ⟨q + 10, 0, none⟩) 1 1) rfl
    have C := Lib.hid c
    clear c
    go_wp2_with fail
    refine C.out.mono ?_
    rintro e w8 ⟨vs, vp, rfl, ⟨rs, ho, hm⟩, ht, hb8⟩
    clear C b0 b1
    have hal := (Below.refl w8.heap.size w8).alloc (Nat.le_refl _) (.cells #[vs, vp] 26)
    have hx9 := new_block w8 (.cells #[vs, vp] 26)
    have HL9 := Lib.hid (show LoopAt q (w8.alloc (.cells #[vs, vp] 26)) ∧ Below w.heap.size w (w8.alloc (.cells #[vs, vp] 26)) ∧ W7.heap.size = q + 17 ∧ W7.heap.size ≤ w8.heap.size from ⟨(HL.out.1.below hb8).below hal, HL.out.2.1.trans ((hb8.trans (hal.mono hb8.size)).mono HL.out.2.1.size), HL.out.2.2, hb8.size⟩)
    obtain ⟨g, c, g2, c2, t, c3, hvp, r1, r2, r3, r4, hbt, pl, hpl, hbad⟩ := late_own (own_same ht (Same.of_below (T := 1000000) hal) (by decide)) (ho.below hal) hm
    subst hvp
    obtain ⟨avs, cvs, hvs⟩ : ∃ a c, vs = .slice a 1 c := own_slice ht
    subst hvs
    obtain ⟨b9, hb9⟩ : ∃ b, b = w8.heap.size := ⟨_, rfl⟩
    obtain ⟨W9, hW9⟩ : ∃ X, X = w8.alloc (.cells #[.slice avs 1 cvs, .slice (some ⟨g, 0, none⟩) 1 c] 26) := ⟨_, rfl⟩
    rw [← hW9] at hx9 HL9 r1 r2 r3 r4 hpl
    rw [← hb9] at hx9
    go_upto_region 64 with fail
    rw [← hW9, ← hb9]
    have hs9 : W9.heap.size = b9 + 1 := by rw [hW9, hb9]; simp
    clear hW9
    have htb : t ≠ b9 := fun e => by
      have h0 := cell_of hx9 0 (.slice avs 1 cvs) rfl
      rw [e, h0] at r3
      cases r3
    have htl : q + 17 ≤ t := by have := HL9.out.2.2.1; omega
    have y1 := cell_of hx9 1 (.slice (some ⟨g, 0, none⟩) 1 c) rfl
    have HF := Lib.hid (show LoopAt q (W9.setCell ⟨t, 0, none⟩ (.int .i64 2)) ∧ (W9.setCell ⟨t, 0, none⟩ (.int .i64 2)).heap[b9]? = some (.cells #[.slice avs 1 cvs, .slice (some ⟨g, 0, none⟩) 1 c] 26 (0, 0)) ∧ PgV (W9.setCell ⟨t, 0, none⟩ (.int .i64 2)).heap.size (W9.setCell ⟨t, 0, none⟩ (.int .i64 2)) (.agg #[.slice avs 1 cvs, .slice (some ⟨g, 0, none⟩) 1 c]) pl ∧ Below w.heap.size w (W9.setCell ⟨t, 0, none⟩ (.int .i64 2)) from
      ⟨HL9.out.1.far _ htl, at_set hx9 (Ne.symm htb), by rw [show (W9.setCell ⟨t, 0, none⟩ (.int .i64 2)).heap.size = W9.heap.size by simp]; exact hpl, HL9.out.2.1.setCell (by show w.heap.size ≤ t; have := HL.out.2.1.size; have := HL9.out.2.2.1; omega) _⟩)
    have HBD := Lib.hid hbad
    clear hb9 hs9 htb htl hpl hbad hx9 HL9 ho hm ht hb8 hal hbt HL
    go_upto_region 65 with fail
    obtain ⟨WA, hWA⟩ : ∃ X, X = W9.setCell ⟨t, 0, none⟩ (.int .i64 2) := ⟨_, rfl⟩
    rw [← hWA] at HF ⊢
    clear hWA r1 r2 r3 r4 y1
    obtain ⟨h1, h2, h3⟩ := grows WA [.cells bareC 35, .cells #[.slice none 0 0, .slice (some ⟨WA.heap.size, 0, none⟩) 1 1] 26] _ rfl
    have HFin := Lib.hid (show Fin w q b9 (WA.heap.size + 1) WA.heap.size (.slice avs 1 cvs) (.slice (some ⟨g, 0, none⟩) 1 c) pl ((WA.alloc (.cells bareC 35)).alloc (.cells #[.slice none 0 0, .slice (some ⟨WA.heap.size, 0, none⟩) 1 1] 26)) from
      ⟨HF.out.1.below h1, at_below HF.out.2.1 h1, (HF.out.2.2.1.below h1).mono h1.size, h3 1 (by simp), h3 0 (by simp), HF.out.2.2.2.trans (h1.mono HF.out.2.2.2.size)⟩)
    clear h1 h2 h3 HF
    go_upto_region 66 with fail
    unfold bareC at HFin
    obtain ⟨WB, hWB⟩ : ∃ X, X = (WA.alloc (.cells #[.int .i64 0, .bool true, .int .i64 0, .slice none 0 0, .slice none 0 0, .slice none 0 0, .slice none 0 0, .int .i64 (-1)] 35)).alloc (.cells #[.slice none 0 0, .slice (some ⟨WA.heap.size, 0, none⟩) 1 1] 26) := ⟨_, rfl⟩
    rw [← hWB] at HFin ⊢
    obtain ⟨bp, hbp⟩ : ∃ b, b = WA.heap.size := ⟨_, rfl⟩
    rw [← hbp] at HFin ⊢
    clear hWB hbp
    have z0 := cell_of HFin.out.loop.b11 0 (.slice (some ⟨q + 1, 0, none⟩) 1 1) rfl
    have z1 := cell_of HFin.out.loop.b11 1 (.slice (some ⟨q + 10, 0, none⟩) 1 1) rfl
    have k1 := right_fn (.agg #[.slice (some ⟨q + 1, 0, none⟩) 1 1, .slice (some ⟨q + 10, 0, none⟩) 1 1]) (loopP 0) WB HFin.out.loop.pg (HR.out.below HFin.out.low)
    rw [loop_good] at k1
    have K1 := Lib.hid k1
    clear k1
    go_wp2_with fail
    refine K1.out.mono ?_
    rintro e wC ⟨rfl, hbC⟩
    have HC := Lib.hid (HFin.out.below hbC)
    clear hbC z0 z1 K1 HFin
    have z0 := cell_of HC.out.box 0 (.slice avs 1 cvs) rfl
    have z1 := cell_of HC.out.box 1 (.slice (some ⟨g, 0, none⟩) 1 c) rfl
    have k1 := right_fn (.agg #[.slice avs 1 cvs, .slice (some ⟨g, 0, none⟩) 1 c]) pl wC HC.out.late (HR.out.below HC.out.low)
    rw [HBD.out] at k1
    have K1 := Lib.hid k1
    clear k1
    go_wp2_with fail
    refine K1.out.mono ?_
    rintro e wD ⟨rfl, hbD⟩
    have HD := Lib.hid (HC.out.below hbD)
    clear hbD z0 z1 K1 HC
    have z0 := cell_of HD.out.bare 0 (.slice none 0 0) rfl
    have z1 := cell_of HD.out.bare 1 (.slice (some ⟨bp, 0, none⟩) 1 1) rfl
    have k1 := right_fn (.agg #[.slice none 0 0, .slice (some ⟨bp, 0, none⟩) 1 1]) _ wD HD.out.bare_pg (HR.out.below HD.out.low)
    rw [bare_good] at k1
    have K1 := Lib.hid k1
    clear k1
    go_wp2_with fail
    refine K1.out.mono ?_
    rintro e wE ⟨rfl, hbE⟩
    have HE := Lib.hid (HD.out.below hbE)
    clear hbE z0 z1 K1 HD
    have k1 := right_fn (.agg #[.slice none 0 0, .slice none 0 0]) _ wE empty_pg (HR.out.below HE.out.low)
    rw [empty_bad] at k1
    have K1 := Lib.hid k1
    clear k1
    go_wp2_with fail
    refine K1.out.mono ?_
    rintro e wG ⟨rfl, hbG⟩
    have HG := Lib.hid (HE.out.below hbG)
    have ka := awake_fn wG (HR.out.below (HE.out.below hbG).low)
    have KA := Lib.hid ka
    clear hbG K1 HE ka
    go_wp2_with fail
    refine KA.out.mono ?_
    rintro e wH ⟨rfl, hbH⟩
    have HH := Lib.hid (HG.out.below hbH)
    clear hbH HG KA
    go_wp2_with fail
    go_ret
    exact ⟨rfl, HH.out.low⟩

end Go.Proofs.YtnnjkejejlhkdaaDoor.Rt

namespace Go.Proofs.YtnnjkejejlhkdaaDoor.rightNumbers
open Go.ChangeShapes Go.WideShapes Go.ChangeAt Go.RowKit
open Go.ChangeMaps (open_string shut_string)

set_option maxRecDepth 100000 in
theorem lifted (os : Os) (started : os.Started) (H : Type) (enc : TypeId × Value → H) :
    ReturnsInHanded {} Tryd.checked os 3 .any (fun w args => (Rows.rightNumbersSpec.pre enc Tryd.prog Tryd.f3 Rows.rightNumbersRow.domain false w args ∧ laidMetH Tryd.prog theLaid w) ∧ sizedMet enc Tryd.prog Tryd.f3 (OpenSpec.ofChange Rows.rightNumbersSpec) false w args)
      (Rows.rightNumbersSpec.post enc Tryd.prog Tryd.f3 false true false false) := by
  refine returnsInHanded_of_change_and (C := Tryd.checked) (X := fun w _ => laidMetH Tryd.prog theLaid w) (fun _ _ _ hh h => h.of_heap hh) own started (by kernel_rfl) Tryd.func3
    (ChangeSpec.witness_shaped (enc := enc) (C := Tryd.checked) (os := os) (X := fun w _ => laidMetH Tryd.prog theLaid w) false (World.laidAll Tryd.prog os theLaid) #[] 8 (World.laidAll_os _ _ _)
      (World.shaped_of_ZipB (by kernel_rfl) (by kernel_rfl)) (by kernel_rfl) (by kernel_rfl) (by kernel_rfl) (laid_met os _)) ?_
  intro W base args ds gs before hval0 hW _ _ hL _
  have hval : ∀ (j : Nat) t v, Tryd.f3.params[j]? = some t → args[j]? = some v → Value.okWide Tryd.prog W .any base t v := hval0
  have hW' := hW
  obtain ⟨p, q, hA0, hV, rfl, _, _⟩ := hW
  have hA : DataW.TrodAll enc Tryd.prog W 0 (fun _ => true) true Tryd.f3.params.toList args.toList ds p := hA0
  rw [Tryd.params3] at hA hval
  obtain ⟨rfl, rfl, rfl⟩ := trodAll_none hA
  obtain ⟨rfl, rfl⟩ := trodVars_none hV
  clear hA0 hval0
  simp only [List.append_nil] at hW'
  have hv := vars_of hL
  refine (Rt.numbers_fn W hv).mono fun e W' ⟨he, hg⟩ => ?_
  subst he
  exact ⟨_, rfl, _, _, _, [], _, [], hW', (trodAll_cons_mk (shut_bool Tryd.underlying4 _) trodAll_mk0), trodAll_mk0, rfl, hg.frame _, fun h => by cases h⟩

theorem over : Rows.RightNumbersSaid :=
  OpenClaim.holds_of_wide 3 Tryd.f3 rfl rfl rfl rfl rfl rfl rfl ⟨rfl, rfl, rfl, rfl, rfl⟩ rfl rfl rfl rfl rfl (by kernel_rfl) Tryd.func3 (by kernel_rfl)
    (of_decide_eq_true (by kernel_rfl)) (by unfold Func.isWrapper; first | (rw [if_pos (by decide +kernel)]; kernel_rfl) | (rw [if_neg (by decide +kernel)]; exact ⟨rfl, rfl⟩))
    (fun os started H enc _ => lifted os started H enc)

theorem plain (f : FuncId) (fn : Func) (hf : Tryd.pinned.checked.prog.funcNamed "twinstep/twinsteplaw09.RightNumbers" = some f) (hfn : Tryd.pinned.checked.prog.funcs[f]? = some fn) :
    false = Tryd.pinned.checked.prog.looks [] ∧ ∀ (j : Nat) t, fn.params[j]? = some t → Tryd.pinned.checked.prog.wantsStandIn t = false := by
  obtain rfl : f = 3 := Option.some.inj ((show Tryd.prog.funcNamed "twinstep/twinsteplaw09.RightNumbers" = some 3 by kernel_rfl).symm.trans hf) |>.symm
  obtain rfl : fn = Tryd.f3 := (Option.some.inj (Tryd.func3.symm.trans hfn)).symm
  exact ⟨by kernel_rfl, fun j t ht => by
    rw [Tryd.params3] at ht
    simp at ht⟩

theorem proved : Rows.RightNumbersCardSaid :=
  Claim7.holds_tied_plain_at .later [] _ _ _ _ over (fun _ h => by cases h) (by kernel_rfl) (fun _ h => by cases h) rightNumbers_row_tie rfl ⟨rfl, rfl⟩ (by kernel_rfl) rfl plain (by kernel_rfl)
#print axioms proved
end Go.Proofs.YtnnjkejejlhkdaaDoor.rightNumbers
