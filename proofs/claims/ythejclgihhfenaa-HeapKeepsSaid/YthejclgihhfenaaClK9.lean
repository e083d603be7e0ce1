import Derived.Test.YthejclgihhfenaaClK5
/-
  Layer 14, HeapKeeps: an object that is given back, and nothing.
-/
namespace Go.Proofs.Ythejclgihhfenaa.Hp
open Go Go.RowKit Go.Proofs.Ythejclgihhfenaa.Pl Go.Proofs.Ythejclgihhfenaa.Tb Go.Proofs.Ythejclgihhfenaa.Vm

set_option maxHeartbeats 8000000 in
set_option maxRecDepth 100000 in
theorem sw_free {HP : HeapP} (H : HeapSays HP) {Q : Exit → Act → World → Prop} {p0 p1 p2 p4 p8 p12 p14 p15 p16 p17 p18 p19 p20 p21 p22 p23 p24 p25 p26 p27 p28 p29 p30 p31 p32 p33 p34 p35 p36 p37 p38 p39 p40 p41 p42 p43 p44 p45 p46 p47 p48 p49 p50 p51 p52 p53 p54 p55 p56 p57 p58 p59 p60 p61 p62 p63 p64 p65 p66 p67 p68 p69 p70 p71 p72 p73 p74 p75 p76 p77 p78 p79 p80 p81 p82 p83 p84 p85 p86 p87 p88 p89 p90 p91 p92 p93 p94 p95 p96 p97 p98 p99 p100 p101 p102 p103 p104 p105 p106 p107 p108 p109 p110 p111 p112 p113 p114 p115 p116 p117 p118 p119 p120 p121 p122 p123 p124 p125 p126 p127 p128 p129 p130 p131 p132 p133 p134 p135 p136 p137 p138 p139 p140 p141 p142 p143 p144 p145 p146 p147 p148 p149 p150 p151 p152 p153 p154 p155 p156 p157 p158 p159 p160 p161 p162 p163 p164 p165 p166 p167 p168 p169 p170 p171 p172 p173 p174 p175 p176 p177 p178 p179 p180 p181 p182 p183 p184 p185 p186 p187 p188 p189 p190 p191 p192 p193 p194 p195 p196 p197 p198 p199 p200 p201 p202 p203 p204 p205 p206 p207 p208 p209 p210 p211 p212 p213 p214 p215 p216 p217 p218 p219 p220 p221 : Value} {b mb ob k β : Nat} {S : KS} {m : Int} {N : Nat} {L : List Vl} {la : Option Addr} {lc : Nat} {o0 o1 o2 o3 o4 : Int} {o5 : ByteArray} {uk : Nat} {un : Int} {th : Bool} {w wc : World}
    (hs : KpS HP w b mb (kpH S m) (wantS S) (cntS S) N (.slice la L.length lc) L [(β + 1 + 1, .cells #[.int .u8 (uk : Int), .int .i64 un] 31), (β + 1, .cells #[.int .u8 3, .int .i64 ((k : Int) + 1)] 31), (β, .cells #[.int .i64 o0, .int .i64 o1, .int .i64 o2, .int .i64 o3, .int .i64 o4, .string o5] 33), (ob, .cells #[.int .u8 3, .int .i64 1] 31)] wc) (hu : (⟨uk, un⟩ : Vl).In) (hth : (wantS S ⟨uk, un⟩).isSome = th) (hok : KOk S (4 * k)) (hll : L.length ≤ k ∧ (∀ u ∈ L, u.In) ∧ N ≤ k) (h150 : k < 150) (ho0 : In64 o0) (h4 : ¬ o0 < 4) (h9 : ¬ o0 < 9) (h13 : o0 = 13) (ht : th = true)
    (hQ : ∀ (n6 n14 n15 n16 n17 n18 n67 n68 n69 n70 n71 n72 n73 n74 n75 n76 n77 n78 n79 n80 n81 n82 n83 n84 n85 n86 n87 n88 n89 n90 n91 n92 n93 n94 n95 n96 n97 n98 n99 n100 n101 n102 n103 n104 n105 n106 n107 n108 n109 n110 n111 n112 n113 n114 n115 n116 n117 n118 n119 n120 n121 n122 n123 n124 n125 n126 n127 n128 n129 n130 n131 n132 n133 n134 n135 n136 n137 n138 n139 n140 n141 n142 n143 n144 n145 n146 n147 n148 n149 n150 n151 n152 n153 n154 n155 n156 n157 n158 n159 n160 n161 : Value) (wx : World), KpAt HP w b mb ob (k + 1) n6 wx → Q .normal ⟨(p0 :: p1 :: p2 :: .pointer (some ⟨b, 0, none⟩) :: p4 :: .map (some mb) :: n6 :: .pointer (some ⟨ob, 0, none⟩) :: p8 :: .pointer (some ⟨β, 0, none⟩) :: .pointer (some ⟨β + 1, 0, none⟩) :: .pointer (some ⟨β + 1 + 1, 0, none⟩) :: p12 :: .bool th :: n14 :: n15 :: n16 :: n17 :: n18 :: p19 :: p20 :: p21 :: p22 :: p23 :: p24 :: p25 :: p26 :: p27 :: p28 :: p29 :: p30 :: p31 :: p32 :: p33 :: p34 :: p35 :: p36 :: p37 :: p38 :: p39 :: p40 :: p41 :: p42 :: p43 :: p44 :: p45 :: p46 :: p47 :: p48 :: p49 :: p50 :: p51 :: p52 :: p53 :: p54 :: p55 :: p56 :: p57 :: p58 :: p59 :: p60 :: p61 :: p62 :: p63 :: p64 :: p65 :: p66 :: n67 :: n68 :: n69 :: n70 :: n71 :: n72 :: n73 :: n74 :: n75 :: n76 :: n77 :: n78 :: n79 :: n80 :: n81 :: n82 :: n83 :: n84 :: n85 :: n86 :: n87 :: n88 :: n89 :: n90 :: n91 :: n92 :: n93 :: n94 :: n95 :: n96 :: n97 :: n98 :: n99 :: n100 :: n101 :: n102 :: n103 :: n104 :: n105 :: n106 :: n107 :: n108 :: n109 :: n110 :: n111 :: n112 :: n113 :: n114 :: n115 :: n116 :: n117 :: n118 :: n119 :: n120 :: n121 :: n122 :: n123 :: n124 :: n125 :: n126 :: n127 :: n128 :: n129 :: n130 :: n131 :: n132 :: n133 :: n134 :: n135 :: n136 :: n137 :: n138 :: n139 :: n140 :: n141 :: n142 :: n143 :: n144 :: n145 :: n146 :: n147 :: n148 :: n149 :: n150 :: n151 :: n152 :: n153 :: n154 :: n155 :: n156 :: n157 :: n158 :: n159 :: n160 :: n161 :: p162 :: p163 :: p164 :: p165 :: p166 :: p167 :: p168 :: p169 :: p170 :: p171 :: p172 :: p173 :: p174 :: p175 :: p176 :: p177 :: p178 :: p179 :: p180 :: p181 :: p182 :: p183 :: p184 :: p185 :: p186 :: p187 :: p188 :: p189 :: p190 :: p191 :: p192 :: p193 :: p194 :: p195 :: p196 :: p197 :: p198 :: p199 :: p200 :: p201 :: p202 :: p203 :: p204 :: p205 :: p206 :: p207 :: p208 :: p209 :: p210 :: p211 :: p212 :: p213 :: p214 :: p215 :: p216 :: p217 :: p218 :: p219 :: p220 :: p221 :: []).toArray, []⟩ wx) :
    Code.wp Try.prog swCode Q ⟨(p0 :: p1 :: p2 :: .pointer (some ⟨b, 0, none⟩) :: p4 :: .map (some mb) :: .slice la L.length lc :: .pointer (some ⟨ob, 0, none⟩) :: p8 :: .pointer (some ⟨β, 0, none⟩) :: .pointer (some ⟨β + 1, 0, none⟩) :: .pointer (some ⟨β + 1 + 1, 0, none⟩) :: p12 :: .bool th :: p14 :: p15 :: p16 :: p17 :: p18 :: p19 :: p20 :: p21 :: p22 :: p23 :: p24 :: p25 :: p26 :: p27 :: p28 :: p29 :: p30 :: p31 :: p32 :: p33 :: p34 :: p35 :: p36 :: p37 :: p38 :: p39 :: p40 :: p41 :: p42 :: p43 :: p44 :: p45 :: p46 :: p47 :: p48 :: p49 :: p50 :: p51 :: p52 :: p53 :: p54 :: p55 :: p56 :: p57 :: p58 :: p59 :: p60 :: p61 :: p62 :: p63 :: p64 :: p65 :: p66 :: p67 :: p68 :: p69 :: p70 :: p71 :: p72 :: p73 :: p74 :: p75 :: p76 :: p77 :: p78 :: p79 :: p80 :: p81 :: p82 :: p83 :: p84 :: p85 :: p86 :: p87 :: p88 :: p89 :: p90 :: p91 :: p92 :: p93 :: p94 :: p95 :: p96 :: p97 :: p98 :: p99 :: p100 :: p101 :: p102 :: p103 :: p104 :: p105 :: p106 :: p107 :: p108 :: p109 :: p110 :: p111 :: p112 :: p113 :: p114 :: p115 :: p116 :: p117 :: p118 :: p119 :: p120 :: p121 :: p122 :: p123 :: p124 :: p125 :: p126 :: p127 :: p128 :: p129 :: p130 :: p131 :: p132 :: p133 :: p134 :: p135 :: p136 :: p137 :: p138 :: p139 :: p140 :: p141 :: p142 :: p143 :: p144 :: p145 :: p146 :: p147 :: p148 :: p149 :: p150 :: p151 :: p152 :: p153 :: p154 :: p155 :: p156 :: p157 :: p158 :: p159 :: p160 :: p161 :: p162 :: p163 :: p164 :: p165 :: p166 :: p167 :: p168 :: p169 :: p170 :: p171 :: p172 :: p173 :: p174 :: p175 :: p176 :: p177 :: p178 :: p179 :: p180 :: p181 :: p182 :: p183 :: p184 :: p185 :: p186 :: p187 :: p188 :: p189 :: p190 :: p191 :: p192 :: p193 :: p194 :: p195 :: p196 :: p197 :: p198 :: p199 :: p200 :: p201 :: p202 :: p203 :: p204 :: p205 :: p206 :: p207 :: p208 :: p209 :: p210 :: p211 :: p212 :: p213 :: p214 :: p215 :: p216 :: p217 :: p218 :: p219 :: p220 :: p221 :: []).toArray, []⟩ wc := by
  have HS4 := Lib.hid hs
  have HU := Lib.hid hu
  have HTH := Lib.hid hth
  have HOK := Lib.hid hok
  have HLL := Lib.hid hll
  have HQ := Lib.hid hQ
  obtain ⟨ho01, ho02⟩ := ho0
  have b0 := cell_of (HS4.out.own (.head _)) 0 _ rfl
  have b1 := cell_of (HS4.out.own (.head _)) 1 _ rfl
  have a0 := cell_of (HS4.out.own (.tail _ (.tail _ (.head _)))) 0 _ rfl
  have x0 := cell_of (HS4.out.own (.tail _ (.head _))) 0 _ rfl
  have x1 := cell_of (HS4.out.own (.tail _ (.head _))) 1 _ rfl
  clear hs hu hth hok hll hQ
  have _ : True := (fun _ => trivial) (And.intro H (And.intro h150 (And.intro (And.intro (And.intro h4 h9) h13) ht)))
  conv => arg 2; whnf
  subst ht
  obtain ⟨tv, htv⟩ := Option.isSome_iff_exists.1 HTH.out
  obtain ⟨i, p, hat, hpn⟩ := want_some htv
  obtain ⟨hgi, hvp⟩ := at_some hat
  have HAT := Lib.hid hat
  have HGI := Lib.hid hgi
  have HVP := Lib.hid hvp
  have HTV := Lib.hid htv
  clear hat hgi hvp htv hpn
  have c : Calls Try.prog 8 #[.pointer (some ⟨b, 0, none⟩), .agg #[.int .u8 (uk : Int), .int .i64 un]] wc (fun e w'' => e = .returned (.int .i64 0) ∧ KpS HP w b mb (kpH (putS S i none) m) (wantS S) (cntS S) N (.slice la L.length lc) L [(β + 1 + 1, .cells #[.int .u8 (uk : Int), .int .i64 un] 31), (β + 1, .cells #[.int .u8 3, .int .i64 ((k : Int) + 1)] 31), (β, .cells #[.int .i64 o0, .int .i64 o1, .int .i64 o2, .int .i64 o3, .int .i64 o4, .string o5] 33), (ob, .cells #[.int .u8 3, .int .i64 1] 31)] w'') := by
    have c := HS4.out.chg (fun hp => H.free ⟨uk, un⟩ hp HU.out)
    rw [free_kp HAT.out] at c
    exact c
  go_wp2_with fail
  refine c.mono ?_
  rintro e w5 ⟨rfl, hs5⟩
  clear c b0 b1 a0 x0 x1
  have HS5 := Lib.hid hs5
  clear hs5
  have b0 := cell_of (HS5.out.own (.head _)) 0 _ rfl
  have b1 := cell_of (HS5.out.own (.head _)) 1 _ rfl
  obtain ⟨w8, hst, hs8⟩ := HS5.out.drop H ⟨uk, un⟩ HU.out 0
  have hst : (Builtin.delete_ #[27, 31] 0 #[.map (some mb), .agg #[.int .u8 (uk : Int), .int .i64 un]]).run Try.prog w5 = .ok (.tuple #[]) w8 := hst
  have HS8 := Lib.hid (hs8.congr (g' := wantS (putS S i none)) (sz' := cntS (putS S i none)) (fun j => by rw [want_free HGI.out, ← HVP.out]) (by rw [HTV.out]; exact free_cnt HGI.out))
  clear hs8
  go_wp2_with fail
  exact HQ.out _ _ _ _ _ _ _ _ _ _ _ _ _ _ _ _ _ _ _ _ _ _ _ _ _ _ _ _ _ _ _ _ _ _ _ _ _ _ _ _ _ _ _ _ _ _ _ _ _ _ _ _ _ _ _ _ _ _ _ _ _ _ _ _ _ _ _ _ _ _ _ _ _ _ _ _ _ _ _ _ _ _ _ _ _ _ _ _ _ _ _ _ _ _ _ _ _ _ _ _ _ _ ⟨(putS S i none), m, N, L, (HOK.out.gone i (Nat.le_of_lt (List.getElem?_eq_some_iff.1 HGI.out).1)).mono (by omega), by have := HLL.out.1; omega, HLL.out.2.1, by have := HLL.out.2.2; omega, HS8.out.fewer (fun p hp => by rw [List.mem_singleton.1 hp]; simp)⟩

set_option maxHeartbeats 8000000 in
set_option maxRecDepth 100000 in
theorem sw_freen {HP : HeapP} (H : HeapSays HP) {Q : Exit → Act → World → Prop} {p0 p1 p2 p4 p8 p12 p14 p15 p16 p17 p18 p19 p20 p21 p22 p23 p24 p25 p26 p27 p28 p29 p30 p31 p32 p33 p34 p35 p36 p37 p38 p39 p40 p41 p42 p43 p44 p45 p46 p47 p48 p49 p50 p51 p52 p53 p54 p55 p56 p57 p58 p59 p60 p61 p62 p63 p64 p65 p66 p67 p68 p69 p70 p71 p72 p73 p74 p75 p76 p77 p78 p79 p80 p81 p82 p83 p84 p85 p86 p87 p88 p89 p90 p91 p92 p93 p94 p95 p96 p97 p98 p99 p100 p101 p102 p103 p104 p105 p106 p107 p108 p109 p110 p111 p112 p113 p114 p115 p116 p117 p118 p119 p120 p121 p122 p123 p124 p125 p126 p127 p128 p129 p130 p131 p132 p133 p134 p135 p136 p137 p138 p139 p140 p141 p142 p143 p144 p145 p146 p147 p148 p149 p150 p151 p152 p153 p154 p155 p156 p157 p158 p159 p160 p161 p162 p163 p164 p165 p166 p167 p168 p169 p170 p171 p172 p173 p174 p175 p176 p177 p178 p179 p180 p181 p182 p183 p184 p185 p186 p187 p188 p189 p190 p191 p192 p193 p194 p195 p196 p197 p198 p199 p200 p201 p202 p203 p204 p205 p206 p207 p208 p209 p210 p211 p212 p213 p214 p215 p216 p217 p218 p219 p220 p221 : Value} {b mb ob k β : Nat} {S : KS} {m : Int} {N : Nat} {L : List Vl} {la : Option Addr} {lc : Nat} {o0 o1 o2 o3 o4 : Int} {o5 : ByteArray} {uk : Nat} {un : Int} {th : Bool} {w wc : World}
    (hs : KpS HP w b mb (kpH S m) (wantS S) (cntS S) N (.slice la L.length lc) L [(β + 1 + 1, .cells #[.int .u8 (uk : Int), .int .i64 un] 31), (β + 1, .cells #[.int .u8 3, .int .i64 ((k : Int) + 1)] 31), (β, .cells #[.int .i64 o0, .int .i64 o1, .int .i64 o2, .int .i64 o3, .int .i64 o4, .string o5] 33), (ob, .cells #[.int .u8 3, .int .i64 1] 31)] wc) (hu : (⟨uk, un⟩ : Vl).In) (hth : (wantS S ⟨uk, un⟩).isSome = th) (hok : KOk S (4 * k)) (hll : L.length ≤ k ∧ (∀ u ∈ L, u.In) ∧ N ≤ k) (h150 : k < 150) (ho0 : In64 o0) (h4 : ¬ o0 < 4) (h9 : ¬ o0 < 9) (h13 : o0 = 13) (ht : th = false)
    (hQ : ∀ (n6 n14 n15 n16 n17 n18 n67 n68 n69 n70 n71 n72 n73 n74 n75 n76 n77 n78 n79 n80 n81 n82 n83 n84 n85 n86 n87 n88 n89 n90 n91 n92 n93 n94 n95 n96 n97 n98 n99 n100 n101 n102 n103 n104 n105 n106 n107 n108 n109 n110 n111 n112 n113 n114 n115 n116 n117 n118 n119 n120 n121 n122 n123 n124 n125 n126 n127 n128 n129 n130 n131 n132 n133 n134 n135 n136 n137 n138 n139 n140 n141 n142 n143 n144 n145 n146 n147 n148 n149 n150 n151 n152 n153 n154 n155 n156 n157 n158 n159 n160 n161 : Value) (wx : World), KpAt HP w b mb ob (k + 1) n6 wx → Q .normal ⟨(p0 :: p1 :: p2 :: .pointer (some ⟨b, 0, none⟩) :: p4 :: .map (some mb) :: n6 :: .pointer (some ⟨ob, 0, none⟩) :: p8 :: .pointer (some ⟨β, 0, none⟩) :: .pointer (some ⟨β + 1, 0, none⟩) :: .pointer (some ⟨β + 1 + 1, 0, none⟩) :: p12 :: .bool th :: n14 :: n15 :: n16 :: n17 :: n18 :: p19 :: p20 :: p21 :: p22 :: p23 :: p24 :: p25 :: p26 :: p27 :: p28 :: p29 :: p30 :: p31 :: p32 :: p33 :: p34 :: p35 :: p36 :: p37 :: p38 :: p39 :: p40 :: p41 :: p42 :: p43 :: p44 :: p45 :: p46 :: p47 :: p48 :: p49 :: p50 :: p51 :: p52 :: p53 :: p54 :: p55 :: p56 :: p57 :: p58 :: p59 :: p60 :: p61 :: p62 :: p63 :: p64 :: p65 :: p66 :: n67 :: n68 :: n69 :: n70 :: n71 :: n72 :: n73 :: n74 :: n75 :: n76 :: n77 :: n78 :: n79 :: n80 :: n81 :: n82 :: n83 :: n84 :: n85 :: n86 :: n87 :: n88 :: n89 :: n90 :: n91 :: n92 :: n93 :: n94 :: n95 :: n96 :: n97 :: n98 :: n99 :: n100 :: n101 :: n102 :: n103 :: n104 :: n105 :: n106 :: n107 :: n108 :: n109 :: n110 :: n111 :: n112 :: n113 :: n114 :: n115 :: n116 :: n117 :: n118 :: n119 :: n120 :: n121 :: n122 :: n123 :: n124 :: n125 :: n126 :: n127 :: n128 :: n129 :: n130 :: n131 :: n132 :: n133 :: n134 :: n135 :: n136 :: n137 :: n138 :: n139 :: n140 :: n141 :: n142 :: n143 :: n144 :: n145 :: n146 :: n147 :: n148 :: n149 :: n150 :: n151 :: n152 :: n153 :: n154 :: n155 :: n156 :: n157 :: n158 :: n159 :: n160 :: n161 :: p162 :: p163 :: p164 :: p165 :: p166 :: p167 :: p168 :: p169 :: p170 :: p171 :: p172 :: p173 :: p174 :: p175 :: p176 :: p177 :: p178 :: p179 :: p180 :: p181 :: p182 :: p183 :: p184 :: p185 :: p186 :: p187 :: p188 :: p189 :: p190 :: p191 :: p192 :: p193 :: p194 :: p195 :: p196 :: p197 :: p198 :: p199 :: p200 :: p201 :: p202 :: p203 :: p204 :: p205 :: p206 :: p207 :: p208 :: p209 :: p210 :: p211 :: p212 :: p213 :: p214 :: p215 :: p216 :: p217 :: p218 :: p219 :: p220 :: p221 :: []).toArray, []⟩ wx) :
    Code.wp Try.prog swCode Q ⟨(p0 :: p1 :: p2 :: .pointer (some ⟨b, 0, none⟩) :: p4 :: .map (some mb) :: .slice la L.length lc :: .pointer (some ⟨ob, 0, none⟩) :: p8 :: .pointer (some ⟨β, 0, none⟩) :: .pointer (some ⟨β + 1, 0, none⟩) :: .pointer (some ⟨β + 1 + 1, 0, none⟩) :: p12 :: .bool th :: p14 :: p15 :: p16 :: p17 :: p18 :: p19 :: p20 :: p21 :: p22 :: p23 :: p24 :: p25 :: p26 :: p27 :: p28 :: p29 :: p30 :: p31 :: p32 :: p33 :: p34 :: p35 :: p36 :: p37 :: p38 :: p39 :: p40 :: p41 :: p42 :: p43 :: p44 :: p45 :: p46 :: p47 :: p48 :: p49 :: p50 :: p51 :: p52 :: p53 :: p54 :: p55 :: p56 :: p57 :: p58 :: p59 :: p60 :: p61 :: p62 :: p63 :: p64 :: p65 :: p66 :: p67 :: p68 :: p69 :: p70 :: p71 :: p72 :: p73 :: p74 :: p75 :: p76 :: p77 :: p78 :: p79 :: p80 :: p81 :: p82 :: p83 :: p84 :: p85 :: p86 :: p87 :: p88 :: p89 :: p90 :: p91 :: p92 :: p93 :: p94 :: p95 :: p96 :: p97 :: p98 :: p99 :: p100 :: p101 :: p102 :: p103 :: p104 :: p105 :: p106 :: p107 :: p108 :: p109 :: p110 :: p111 :: p112 :: p113 :: p114 :: p115 :: p116 :: p117 :: p118 :: p119 :: p120 :: p121 :: p122 :: p123 :: p124 :: p125 :: p126 :: p127 :: p128 :: p129 :: p130 :: p131 :: p132 :: p133 :: p134 :: p135 :: p136 :: p137 :: p138 :: p139 :: p140 :: p141 :: p142 :: p143 :: p144 :: p145 :: p146 :: p147 :: p148 :: p149 :: p150 :: p151 :: p152 :: p153 :: p154 :: p155 :: p156 :: p157 :: p158 :: p159 :: p160 :: p161 :: p162 :: p163 :: p164 :: p165 :: p166 :: p167 :: p168 :: p169 :: p170 :: p171 :: p172 :: p173 :: p174 :: p175 :: p176 :: p177 :: p178 :: p179 :: p180 :: p181 :: p182 :: p183 :: p184 :: p185 :: p186 :: p187 :: p188 :: p189 :: p190 :: p191 :: p192 :: p193 :: p194 :: p195 :: p196 :: p197 :: p198 :: p199 :: p200 :: p201 :: p202 :: p203 :: p204 :: p205 :: p206 :: p207 :: p208 :: p209 :: p210 :: p211 :: p212 :: p213 :: p214 :: p215 :: p216 :: p217 :: p218 :: p219 :: p220 :: p221 :: []).toArray, []⟩ wc := by
  have HS4 := Lib.hid hs
  have HU := Lib.hid hu
  have HTH := Lib.hid hth
  have HOK := Lib.hid hok
  have HLL := Lib.hid hll
  have HQ := Lib.hid hQ
  obtain ⟨ho01, ho02⟩ := ho0
  have b0 := cell_of (HS4.out.own (.head _)) 0 _ rfl
  have b1 := cell_of (HS4.out.own (.head _)) 1 _ rfl
  have a0 := cell_of (HS4.out.own (.tail _ (.tail _ (.head _)))) 0 _ rfl
  have x0 := cell_of (HS4.out.own (.tail _ (.head _))) 0 _ rfl
  have x1 := cell_of (HS4.out.own (.tail _ (.head _))) 1 _ rfl
  clear hs hu hth hok hll hQ
  have _ : True := (fun _ => trivial) (And.intro H (And.intro h150 (And.intro (And.intro (And.intro h4 h9) h13) ht)))
  conv => arg 2; whnf
  subst ht
  have htv : wantS S ⟨uk, un⟩ = none := by
    cases hx : wantS S ⟨uk, un⟩ with
    | none => rfl
    | some x => have := HTH.out; rw [hx] at this; cases this
  have HAT := Lib.hid (want_none htv)
  have HTV := Lib.hid htv
  clear htv
  have c : Calls Try.prog 8 #[.pointer (some ⟨b, 0, none⟩), .agg #[.int .u8 (uk : Int), .int .i64 un]] wc (fun e w'' => e = .returned (.int .i64 151) ∧ KpS HP w b mb (kpH S m) (wantS S) (cntS S) N (.slice la L.length lc) L [(β + 1 + 1, .cells #[.int .u8 (uk : Int), .int .i64 un] 31), (β + 1, .cells #[.int .u8 3, .int .i64 ((k : Int) + 1)] 31), (β, .cells #[.int .i64 o0, .int .i64 o1, .int .i64 o2, .int .i64 o3, .int .i64 o4, .string o5] 33), (ob, .cells #[.int .u8 3, .int .i64 1] 31)] w'') := by
    have c := HS4.out.chg (fun hp => H.free ⟨uk, un⟩ hp HU.out)
    rw [free_no HAT.out] at c
    exact c
  go_wp2_with fail
  refine c.mono ?_
  rintro e w5 ⟨rfl, hs5⟩
  clear c b0 b1 a0 x0 x1
  have HS5 := Lib.hid hs5
  clear hs5
  have b0 := cell_of (HS5.out.own (.head _)) 0 _ rfl
  have b1 := cell_of (HS5.out.own (.head _)) 1 _ rfl
  obtain ⟨w8, hst, hs8⟩ := HS5.out.drop H ⟨uk, un⟩ HU.out 0
  have hst : (Builtin.delete_ #[27, 31] 0 #[.map (some mb), .agg #[.int .u8 (uk : Int), .int .i64 un]]).run Try.prog w5 = .ok (.tuple #[]) w8 := hst
  have HS8 := Lib.hid (hs8.congr (g' := wantS S) (sz' := cntS S) (fun j => by by_cases e : j = ⟨uk, un⟩ <;> simp [e, HTV.out]) (by rw [HTV.out]; rfl))
  clear hs8
  go_wp2_with fail
  exact HQ.out _ _ _ _ _ _ _ _ _ _ _ _ _ _ _ _ _ _ _ _ _ _ _ _ _ _ _ _ _ _ _ _ _ _ _ _ _ _ _ _ _ _ _ _ _ _ _ _ _ _ _ _ _ _ _ _ _ _ _ _ _ _ _ _ _ _ _ _ _ _ _ _ _ _ _ _ _ _ _ _ _ _ _ _ _ _ _ _ _ _ _ _ _ _ _ _ _ _ _ _ _ _ ⟨S, m, N, L, HOK.out.mono (by omega), by have := HLL.out.1; omega, HLL.out.2.1, by have := HLL.out.2.2; omega, HS8.out.fewer (fun p hp => by rw [List.mem_singleton.1 hp]; simp)⟩

set_option maxHeartbeats 8000000 in
set_option maxRecDepth 100000 in
theorem sw_other {HP : HeapP} (H : HeapSays HP) {Q : Exit → Act → World → Prop} {p0 p1 p2 p4 p8 p12 p14 p15 p16 p17 p18 p19 p20 p21 p22 p23 p24 p25 p26 p27 p28 p29 p30 p31 p32 p33 p34 p35 p36 p37 p38 p39 p40 p41 p42 p43 p44 p45 p46 p47 p48 p49 p50 p51 p52 p53 p54 p55 p56 p57 p58 p59 p60 p61 p62 p63 p64 p65 p66 p67 p68 p69 p70 p71 p72 p73 p74 p75 p76 p77 p78 p79 p80 p81 p82 p83 p84 p85 p86 p87 p88 p89 p90 p91 p92 p93 p94 p95 p96 p97 p98 p99 p100 p101 p102 p103 p104 p105 p106 p107 p108 p109 p110 p111 p112 p113 p114 p115 p116 p117 p118 p119 p120 p121 p122 p123 p124 p125 p126 p127 p128 p129 p130 p131 p132 p133 p134 p135 p136 p137 p138 p139 p140 p141 p142 p143 p144 p145 p146 p147 p148 p149 p150 p151 p152 p153 p154 p155 p156 p157 p158 p159 p160 p161 p162 p163 p164 p165 p166 p167 p168 p169 p170 p171 p172 p173 p174 p175 p176 p177 p178 p179 p180 p181 p182 p183 p184 p185 p186 p187 p188 p189 p190 p191 p192 p193 p194 p195 p196 p197 p198 p199 p200 p201 p202 p203 p204 p205 p206 p207 p208 p209 p210 p211 p212 p213 p214 p215 p216 p217 p218 p219 p220 p221 : Value} {b mb ob k β : Nat} {S : KS} {m : Int} {N : Nat} {L : List Vl} {la : Option Addr} {lc : Nat} {o0 o1 o2 o3 o4 : Int} {o5 : ByteArray} {uk : Nat} {un : Int} {th : Bool} {w wc : World}
    (hs : KpS HP w b mb (kpH S m) (wantS S) (cntS S) N (.slice la L.length lc) L [(β + 1 + 1, .cells #[.int .u8 (uk : Int), .int .i64 un] 31), (β + 1, .cells #[.int .u8 3, .int .i64 ((k : Int) + 1)] 31), (β, .cells #[.int .i64 o0, .int .i64 o1, .int .i64 o2, .int .i64 o3, .int .i64 o4, .string o5] 33), (ob, .cells #[.int .u8 3, .int .i64 1] 31)] wc) (hu : (⟨uk, un⟩ : Vl).In) (hth : (wantS S ⟨uk, un⟩).isSome = th) (hok : KOk S (4 * k)) (hll : L.length ≤ k ∧ (∀ u ∈ L, u.In) ∧ N ≤ k) (h150 : k < 150) (ho0 : In64 o0) (h4 : ¬ o0 < 4) (h9 : ¬ o0 < 9) (h13 : ¬ o0 = 13)
    (hQ : ∀ (n6 n14 n15 n16 n17 n18 n67 n68 n69 n70 n71 n72 n73 n74 n75 n76 n77 n78 n79 n80 n81 n82 n83 n84 n85 n86 n87 n88 n89 n90 n91 n92 n93 n94 n95 n96 n97 n98 n99 n100 n101 n102 n103 n104 n105 n106 n107 n108 n109 n110 n111 n112 n113 n114 n115 n116 n117 n118 n119 n120 n121 n122 n123 n124 n125 n126 n127 n128 n129 n130 n131 n132 n133 n134 n135 n136 n137 n138 n139 n140 n141 n142 n143 n144 n145 n146 n147 n148 n149 n150 n151 n152 n153 n154 n155 n156 n157 n158 n159 n160 n161 : Value) (wx : World), KpAt HP w b mb ob (k + 1) n6 wx → Q .normal ⟨(p0 :: p1 :: p2 :: .pointer (some ⟨b, 0, none⟩) :: p4 :: .map (some mb) :: n6 :: .pointer (some ⟨ob, 0, none⟩) :: p8 :: .pointer (some ⟨β, 0, none⟩) :: .pointer (some ⟨β + 1, 0, none⟩) :: .pointer (some ⟨β + 1 + 1, 0, none⟩) :: p12 :: .bool th :: n14 :: n15 :: n16 :: n17 :: n18 :: p19 :: p20 :: p21 :: p22 :: p23 :: p24 :: p25 :: p26 :: p27 :: p28 :: p29 :: p30 :: p31 :: p32 :: p33 :: p34 :: p35 :: p36 :: p37 :: p38 :: p39 :: p40 :: p41 :: p42 :: p43 :: p44 :: p45 :: p46 :: p47 :: p48 :: p49 :: p50 :: p51 :: p52 :: p53 :: p54 :: p55 :: p56 :: p57 :: p58 :: p59 :: p60 :: p61 :: p62 :: p63 :: p64 :: p65 :: p66 :: n67 :: n68 :: n69 :: n70 :: n71 :: n72 :: n73 :: n74 :: n75 :: n76 :: n77 :: n78 :: n79 :: n80 :: n81 :: n82 :: n83 :: n84 :: n85 :: n86 :: n87 :: n88 :: n89 :: n90 :: n91 :: n92 :: n93 :: n94 :: n95 :: n96 :: n97 :: n98 :: n99 :: n100 :: n101 :: n102 :: n103 :: n104 :: n105 :: n106 :: n107 :: n108 :: n109 :: n110 :: n111 :: n112 :: n113 :: n114 :: n115 :: n116 :: n117 :: n118 :: n119 :: n120 :: n121 :: n122 :: n123 :: n124 :: n125 :: n126 :: n127 :: n128 :: n129 :: n130 :: n131 :: n132 :: n133 :: n134 :: n135 :: n136 :: n137 :: n138 :: n139 :: n140 :: n141 :: n142 :: n143 :: n144 :: n145 :: n146 :: n147 :: n148 :: n149 :: n150 :: n151 :: n152 :: n153 :: n154 :: n155 :: n156 :: n157 :: n158 :: n159 :: n160 :: n161 :: p162 :: p163 :: p164 :: p165 :: p166 :: p167 :: p168 :: p169 :: p170 :: p171 :: p172 :: p173 :: p174 :: p175 :: p176 :: p177 :: p178 :: p179 :: p180 :: p181 :: p182 :: p183 :: p184 :: p185 :: p186 :: p187 :: p188 :: p189 :: p190 :: p191 :: p192 :: p193 :: p194 :: p195 :: p196 :: p197 :: p198 :: p199 :: p200 :: p201 :: p202 :: p203 :: p204 :: p205 :: p206 :: p207 :: p208 :: p209 :: p210 :: p211 :: p212 :: p213 :: p214 :: p215 :: p216 :: p217 :: p218 :: p219 :: p220 :: p221 :: []).toArray, []⟩ wx) :
    Code.wp Try.prog swCode Q ⟨(p0 :: p1 :: p2 :: .pointer (some ⟨b, 0, none⟩) :: p4 :: .map (some mb) :: .slice la L.length lc :: .pointer (some ⟨ob, 0, none⟩) :: p8 :: .pointer (some ⟨β, 0, none⟩) :: .pointer (some ⟨β + 1, 0, none⟩) :: .pointer (some ⟨β + 1 + 1, 0, none⟩) :: p12 :: .bool th :: p14 :: p15 :: p16 :: p17 :: p18 :: p19 :: p20 :: p21 :: p22 :: p23 :: p24 :: p25 :: p26 :: p27 :: p28 :: p29 :: p30 :: p31 :: p32 :: p33 :: p34 :: p35 :: p36 :: p37 :: p38 :: p39 :: p40 :: p41 :: p42 :: p43 :: p44 :: p45 :: p46 :: p47 :: p48 :: p49 :: p50 :: p51 :: p52 :: p53 :: p54 :: p55 :: p56 :: p57 :: p58 :: p59 :: p60 :: p61 :: p62 :: p63 :: p64 :: p65 :: p66 :: p67 :: p68 :: p69 :: p70 :: p71 :: p72 :: p73 :: p74 :: p75 :: p76 :: p77 :: p78 :: p79 :: p80 :: p81 :: p82 :: p83 :: p84 :: p85 :: p86 :: p87 :: p88 :: p89 :: p90 :: p91 :: p92 :: p93 :: p94 :: p95 :: p96 :: p97 :: p98 :: p99 :: p100 :: p101 :: p102 :: p103 :: p104 :: p105 :: p106 :: p107 :: p108 :: p109 :: p110 :: p111 :: p112 :: p113 :: p114 :: p115 :: p116 :: p117 :: p118 :: p119 :: p120 :: p121 :: p122 :: p123 :: p124 :: p125 :: p126 :: p127 :: p128 :: p129 :: p130 :: p131 :: p132 :: p133 :: p134 :: p135 :: p136 :: p137 :: p138 :: p139 :: p140 :: p141 :: p142 :: p143 :: p144 :: p145 :: p146 :: p147 :: p148 :: p149 :: p150 :: p151 :: p152 :: p153 :: p154 :: p155 :: p156 :: p157 :: p158 :: p159 :: p160 :: p161 :: p162 :: p163 :: p164 :: p165 :: p166 :: p167 :: p168 :: p169 :: p170 :: p171 :: p172 :: p173 :: p174 :: p175 :: p176 :: p177 :: p178 :: p179 :: p180 :: p181 :: p182 :: p183 :: p184 :: p185 :: p186 :: p187 :: p188 :: p189 :: p190 :: p191 :: p192 :: p193 :: p194 :: p195 :: p196 :: p197 :: p198 :: p199 :: p200 :: p201 :: p202 :: p203 :: p204 :: p205 :: p206 :: p207 :: p208 :: p209 :: p210 :: p211 :: p212 :: p213 :: p214 :: p215 :: p216 :: p217 :: p218 :: p219 :: p220 :: p221 :: []).toArray, []⟩ wc := by
  have HS4 := Lib.hid hs
  have HU := Lib.hid hu
  have HTH := Lib.hid hth
  have HOK := Lib.hid hok
  have HLL := Lib.hid hll
  have HQ := Lib.hid hQ
  obtain ⟨ho01, ho02⟩ := ho0
  have b0 := cell_of (HS4.out.own (.head _)) 0 _ rfl
  have b1 := cell_of (HS4.out.own (.head _)) 1 _ rfl
  have a0 := cell_of (HS4.out.own (.tail _ (.tail _ (.head _)))) 0 _ rfl
  have x0 := cell_of (HS4.out.own (.tail _ (.head _))) 0 _ rfl
  have x1 := cell_of (HS4.out.own (.tail _ (.head _))) 1 _ rfl
  clear hs hu hth hok hll hQ
  have _ : True := (fun _ => trivial) (And.intro H (And.intro h150 (And.intro (And.intro h4 h9) h13)))
  conv => arg 2; whnf
  go_wp2_with fail
  exact HQ.out _ _ _ _ _ _ _ _ _ _ _ _ _ _ _ _ _ _ _ _ _ _ _ _ _ _ _ _ _ _ _ _ _ _ _ _ _ _ _ _ _ _ _ _ _ _ _ _ _ _ _ _ _ _ _ _ _ _ _ _ _ _ _ _ _ _ _ _ _ _ _ _ _ _ _ _ _ _ _ _ _ _ _ _ _ _ _ _ _ _ _ _ _ _ _ _ _ _ _ _ _ _ ⟨S, m, N, L, HOK.out.mono (by omega), by have := HLL.out.1; omega, HLL.out.2.1, by have := HLL.out.2.2; omega, HS4.out.fewer (fun p hp => by rw [List.mem_singleton.1 hp]; simp)⟩

end Go.Proofs.Ythejclgihhfenaa.Hp
