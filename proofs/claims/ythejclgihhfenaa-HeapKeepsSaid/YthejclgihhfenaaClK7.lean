import Derived.Test.YthejclgihhfenaaClK5
/-
  Layer 14, HeapKeeps: a new object, odd: taken back, and a table.
-/
namespace Go.Proofs.Ythejclgihhfenaa.Hp
open Go Go.RowKit Go.Proofs.Ythejclgihhfenaa.Pl Go.Proofs.Ythejclgihhfenaa.Tb Go.Proofs.Ythejclgihhfenaa.Vm

set_option maxHeartbeats 8000000 in
set_option maxRecDepth 100000 in
theorem sw_odd {HP : HeapP} (H : HeapSays HP) {Q : Exit → Act → World → Prop} {p0 p1 p2 p4 p8 p12 p14 p15 p16 p17 p18 p19 p20 p21 p22 p23 p24 p25 p26 p27 p28 p29 p30 p31 p32 p33 p34 p35 p36 p37 p38 p39 p40 p41 p42 p43 p44 p45 p46 p47 p48 p49 p50 p51 p52 p53 p54 p55 p56 p57 p58 p59 p60 p61 p62 p63 p64 p65 p66 p67 p68 p69 p70 p71 p72 p73 p74 p75 p76 p77 p78 p79 p80 p81 p82 p83 p84 p85 p86 p87 p88 p89 p90 p91 p92 p93 p94 p95 p96 p97 p98 p99 p100 p101 p102 p103 p104 p105 p106 p107 p108 p109 p110 p111 p112 p113 p114 p115 p116 p117 p118 p119 p120 p121 p122 p123 p124 p125 p126 p127 p128 p129 p130 p131 p132 p133 p134 p135 p136 p137 p138 p139 p140 p141 p142 p143 p144 p145 p146 p147 p148 p149 p150 p151 p152 p153 p154 p155 p156 p157 p158 p159 p160 p161 p162 p163 p164 p165 p166 p167 p168 p169 p170 p171 p172 p173 p174 p175 p176 p177 p178 p179 p180 p181 p182 p183 p184 p185 p186 p187 p188 p189 p190 p191 p192 p193 p194 p195 p196 p197 p198 p199 p200 p201 p202 p203 p204 p205 p206 p207 p208 p209 p210 p211 p212 p213 p214 p215 p216 p217 p218 p219 p220 p221 : Value} {b mb ob k β : Nat} {S : KS} {m : Int} {N : Nat} {L : List Vl} {la : Option Addr} {lc : Nat} {o0 o1 o2 o3 o4 : Int} {o5 : ByteArray} {uk : Nat} {un : Int} {th : Bool} {w wc : World}
    (hs : KpS HP w b mb (kpH S m) (wantS S) (cntS S) N (.slice la L.length lc) L [(β + 1 + 1, .cells #[.int .u8 (uk : Int), .int .i64 un] 31), (β + 1, .cells #[.int .u8 3, .int .i64 ((k : Int) + 1)] 31), (β, .cells #[.int .i64 o0, .int .i64 o1, .int .i64 o2, .int .i64 o3, .int .i64 o4, .string o5] 33), (ob, .cells #[.int .u8 3, .int .i64 1] 31)] wc) (hu : (⟨uk, un⟩ : Vl).In) (hth : (wantS S ⟨uk, un⟩).isSome = th) (hok : KOk S (4 * k)) (hll : L.length ≤ k ∧ (∀ u ∈ L, u.In) ∧ N ≤ k) (h150 : k < 150) (ho0 : In64 o0) (h4 : o0 < 4) (hfull : ¬ 400 < usedS S + 1) (hodd : o0.tmod 2 = 1)
    (hQ : ∀ (n6 n14 n15 n16 n17 n18 n67 n68 n69 n70 n71 n72 n73 n74 n75 n76 n77 n78 n79 n80 n81 n82 n83 n84 n85 n86 n87 n88 n89 n90 n91 n92 n93 n94 n95 n96 n97 n98 n99 n100 n101 n102 n103 n104 n105 n106 n107 n108 n109 n110 n111 n112 n113 n114 n115 n116 n117 n118 n119 n120 n121 n122 n123 n124 n125 n126 n127 n128 n129 n130 n131 n132 n133 n134 n135 n136 n137 n138 n139 n140 n141 n142 n143 n144 n145 n146 n147 n148 n149 n150 n151 n152 n153 n154 n155 n156 n157 n158 n159 n160 n161 : Value) (wx : World), KpAt HP w b mb ob (k + 1) n6 wx → Q .normal ⟨(p0 :: p1 :: p2 :: .pointer (some ⟨b, 0, none⟩) :: p4 :: .map (some mb) :: n6 :: .pointer (some ⟨ob, 0, none⟩) :: p8 :: .pointer (some ⟨β, 0, none⟩) :: .pointer (some ⟨β + 1, 0, none⟩) :: .pointer (some ⟨β + 1 + 1, 0, none⟩) :: p12 :: .bool th :: n14 :: n15 :: n16 :: n17 :: n18 :: p19 :: p20 :: p21 :: p22 :: p23 :: p24 :: p25 :: p26 :: p27 :: p28 :: p29 :: p30 :: p31 :: p32 :: p33 :: p34 :: p35 :: p36 :: p37 :: p38 :: p39 :: p40 :: p41 :: p42 :: p43 :: p44 :: p45 :: p46 :: p47 :: p48 :: p49 :: p50 :: p51 :: p52 :: p53 :: p54 :: p55 :: p56 :: p57 :: p58 :: p59 :: p60 :: p61 :: p62 :: p63 :: p64 :: p65 :: p66 :: n67 :: n68 :: n69 :: n70 :: n71 :: n72 :: n73 :: n74 :: n75 :: n76 :: n77 :: n78 :: n79 :: n80 :: n81 :: n82 :: n83 :: n84 :: n85 :: n86 :: n87 :: n88 :: n89 :: n90 :: n91 :: n92 :: n93 :: n94 :: n95 :: n96 :: n97 :: n98 :: n99 :: n100 :: n101 :: n102 :: n103 :: n104 :: n105 :: n106 :: n107 :: n108 :: n109 :: n110 :: n111 :: n112 :: n113 :: n114 :: n115 :: n116 :: n117 :: n118 :: n119 :: n120 :: n121 :: n122 :: n123 :: n124 :: n125 :: n126 :: n127 :: n128 :: n129 :: n130 :: n131 :: n132 :: n133 :: n134 :: n135 :: n136 :: n137 :: n138 :: n139 :: n140 :: n141 :: n142 :: n143 :: n144 :: n145 :: n146 :: n147 :: n148 :: n149 :: n150 :: n151 :: n152 :: n153 :: n154 :: n155 :: n156 :: n157 :: n158 :: n159 :: n160 :: n161 :: p162 :: p163 :: p164 :: p165 :: p166 :: p167 :: p168 :: p169 :: p170 :: p171 :: p172 :: p173 :: p174 :: p175 :: p176 :: p177 :: p178 :: p179 :: p180 :: p181 :: p182 :: p183 :: p184 :: p185 :: p186 :: p187 :: p188 :: p189 :: p190 :: p191 :: p192 :: p193 :: p194 :: p195 :: p196 :: p197 :: p198 :: p199 :: p200 :: p201 :: p202 :: p203 :: p204 :: p205 :: p206 :: p207 :: p208 :: p209 :: p210 :: p211 :: p212 :: p213 :: p214 :: p215 :: p216 :: p217 :: p218 :: p219 :: p220 :: p221 :: []).toArray, []⟩ wx) :
    Code.wp Try.prog swCode Q ⟨(p0 :: p1 :: p2 :: .pointer (some ⟨b, 0, none⟩) :: p4 :: .map (some mb) :: .slice la L.length lc :: .pointer (some ⟨ob, 0, none⟩) :: p8 :: .pointer (some ⟨β, 0, none⟩) :: .pointer (some ⟨β + 1, 0, none⟩) :: .pointer (some ⟨β + 1 + 1, 0, none⟩) :: p12 :: .bool th :: p14 :: p15 :: p16 :: p17 :: p18 :: p19 :: p20 :: p21 :: p22 :: p23 :: p24 :: p25 :: p26 :: p27 :: p28 :: p29 :: p30 :: p31 :: p32 :: p33 :: p34 :: p35 :: p36 :: p37 :: p38 :: p39 :: p40 :: p41 :: p42 :: p43 :: p44 :: p45 :: p46 :: p47 :: p48 :: p49 :: p50 :: p51 :: p52 :: p53 :: p54 :: p55 :: p56 :: p57 :: p58 :: p59 :: p60 :: p61 :: p62 :: p63 :: p64 :: p65 :: p66 :: p67 :: p68 :: p69 :: p70 :: p71 :: p72 :: p73 :: p74 :: p75 :: p76 :: p77 :: p78 :: p79 :: p80 :: p81 :: p82 :: p83 :: p84 :: p85 :: p86 :: p87 :: p88 :: p89 :: p90 :: p91 :: p92 :: p93 :: p94 :: p95 :: p96 :: p97 :: p98 :: p99 :: p100 :: p101 :: p102 :: p103 :: p104 :: p105 :: p106 :: p107 :: p108 :: p109 :: p110 :: p111 :: p112 :: p113 :: p114 :: p115 :: p116 :: p117 :: p118 :: p119 :: p120 :: p121 :: p122 :: p123 :: p124 :: p125 :: p126 :: p127 :: p128 :: p129 :: p130 :: p131 :: p132 :: p133 :: p134 :: p135 :: p136 :: p137 :: p138 :: p139 :: p140 :: p141 :: p142 :: p143 :: p144 :: p145 :: p146 :: p147 :: p148 :: p149 :: p150 :: p151 :: p152 :: p153 :: p154 :: p155 :: p156 :: p157 :: p158 :: p159 :: p160 :: p161 :: p162 :: p163 :: p164 :: p165 :: p166 :: p167 :: p168 :: p169 :: p170 :: p171 :: p172 :: p173 :: p174 :: p175 :: p176 :: p177 :: p178 :: p179 :: p180 :: p181 :: p182 :: p183 :: p184 :: p185 :: p186 :: p187 :: p188 :: p189 :: p190 :: p191 :: p192 :: p193 :: p194 :: p195 :: p196 :: p197 :: p198 :: p199 :: p200 :: p201 :: p202 :: p203 :: p204 :: p205 :: p206 :: p207 :: p208 :: p209 :: p210 :: p211 :: p212 :: p213 :: p214 :: p215 :: p216 :: p217 :: p218 :: p219 :: p220 :: p221 :: []).toArray, []⟩ wc := by
  have HS4 := Lib.hid hs
  have HU := Lib.hid hu
  have HTH := Lib.hid hth
  have HOK := Lib.hid hok
  have HLL := Lib.hid hll
  have HQ := Lib.hid hQ
  obtain ⟨ho01, ho02⟩ := ho0
  have b0 := cell_of (HS4.out.own (.head _)) 0 _ rfl
  have b1 := cell_of (HS4.out.own (.head _)) 1 _ rfl
  have a0 := cell_of (HS4.out.own (.tail _ (.tail _ (.head _)))) 0 _ rfl
  have x0 := cell_of (HS4.out.own (.tail _ (.head _))) 0 _ rfl
  have x1 := cell_of (HS4.out.own (.tail _ (.head _))) 1 _ rfl
  clear hs hu hth hok hll hQ
  have _ : True := (fun _ => trivial) (And.intro H (And.intro h150 (And.intro (And.intro h4 hfull) hodd)))
  conv => arg 2; whnf
  have hin : (numV ((k : Int) + 1)).In := ⟨by show 3 < 256; decide, by show -9223372036854775808 ≤ (k : Int) + 1; omega, by show (k : Int) + 1 ≤ 9223372036854775807; omega⟩
  have c := HS4.out.chg (fun hp => H.cell (numV ((k : Int) + 1)) hp hin)
  have HIN := Lib.hid hin
  clear hin
  have e2 : IntKind.i64.wrap (o0.tmod 2) = o0.tmod 2 := IntWalk.i64_in _ (by have := Int.tmod_eq_emod (a := o0) (b := 2); split at this <;> omega)
  obtain ⟨r, hr⟩ : ∃ r, o0.tmod 2 = r := ⟨_, rfl⟩
  rw [hr] at e2
  rw [cell_kp, if_neg hfull] at c
  have hat := add_at S ⟨false, (k : Int) + 1, 0⟩
  have hvi := (HOK.out.put ⟨false, (k : Int) + 1, 0⟩ HIN.out.2 (by show usedS S + 1 ≤ 400; omega)).valIn (by omega) hat
  have hat2 := at_val hat
  have hwn := want_fresh (least_spec S).2 ⟨false, (k : Int) + 1, 0⟩
  have haw := add_want S ⟨false, (k : Int) + 1, 0⟩
  obtain ⟨⟨kv, nv⟩, huv⟩ : ∃ u, valK (leastS S) ⟨false, (k : Int) + 1, 0⟩ = u := ⟨_, rfl⟩
  rw [huv] at c hvi hat2 hwn haw
  have c : Calls Try.prog 7 #[.pointer (some ⟨b, 0, none⟩), .agg #[.int .u8 3, .int .i64 ((k : Int) + 1)]] wc (fun e w' => e = .returned (.tuple #[.agg #[.int .u8 (kv : Int), .int .i64 nv], .int .i64 0]) ∧ KpS HP w b mb (kpH (addS S ⟨false, (k : Int) + 1, 0⟩) m) (wantS S) (cntS S) N (.slice la L.length lc) L [(β + 1 + 1, .cells #[.int .u8 (uk : Int), .int .i64 un] 31), (β + 1, .cells #[.int .u8 3, .int .i64 ((k : Int) + 1)] 31), (β, .cells #[.int .i64 o0, .int .i64 o1, .int .i64 o2, .int .i64 o3, .int .i64 o4, .string o5] 33), (ob, .cells #[.int .u8 3, .int .i64 1] 31)] w') := c
  have HVI := Lib.hid hvi
  have HAT := Lib.hid hat2
  have HWN := Lib.hid hwn
  have HAW := Lib.hid haw
  have HRM := Lib.hid (show usedS S + 1 ≤ 400 by omega)
  clear hvi hat hat2 hwn haw huv hfull
  have hodd : r = 1 := hr.symm.trans hodd
  have cf := fun (γ : Nat) w' (hs : KpS HP w b mb (kpH (addS S ⟨false, (k : Int) + 1, 0⟩) m) (wantS S) (cntS S) N (.slice la L.length lc) L ((γ, .cells #[.int .u8 (kv : Int), .int .i64 nv] 31) :: [(β + 1 + 1, .cells #[.int .u8 (uk : Int), .int .i64 un] 31), (β + 1, .cells #[.int .u8 3, .int .i64 ((k : Int) + 1)] 31), (β, .cells #[.int .i64 o0, .int .i64 o1, .int .i64 o2, .int .i64 o3, .int .i64 o4, .string o5] 33), (ob, .cells #[.int .u8 3, .int .i64 1] 31)]) w') => hs.chg (fun hp => H.free ⟨kv, nv⟩ hp HVI.out)
  rw [free_kp HAT.out] at cf
  have cf : ∀ (γ : Nat) w', KpS HP w b mb (kpH (addS S ⟨false, (k : Int) + 1, 0⟩) m) (wantS S) (cntS S) N (.slice la L.length lc) L ((γ, .cells #[.int .u8 (kv : Int), .int .i64 nv] 31) :: [(β + 1 + 1, .cells #[.int .u8 (uk : Int), .int .i64 un] 31), (β + 1, .cells #[.int .u8 3, .int .i64 ((k : Int) + 1)] 31), (β, .cells #[.int .i64 o0, .int .i64 o1, .int .i64 o2, .int .i64 o3, .int .i64 o4, .string o5] 33), (ob, .cells #[.int .u8 3, .int .i64 1] 31)]) w' → Calls Try.prog 8 #[.pointer (some ⟨b, 0, none⟩), .agg #[.int .u8 (kv : Int), .int .i64 nv]] w' (fun e w'' => e = .returned (.int .i64 0) ∧ KpS HP w b mb (kpH (offS S ⟨false, (k : Int) + 1, 0⟩) m) (wantS S) (cntS S) N (.slice la L.length lc) L ((γ, .cells #[.int .u8 (kv : Int), .int .i64 nv] 31) :: [(β + 1 + 1, .cells #[.int .u8 (uk : Int), .int .i64 un] 31), (β + 1, .cells #[.int .u8 3, .int .i64 ((k : Int) + 1)] 31), (β, .cells #[.int .i64 o0, .int .i64 o1, .int .i64 o2, .int .i64 o3, .int .i64 o4, .string o5] 33), (ob, .cells #[.int .u8 3, .int .i64 1] 31)]) w'') := cf
  go_wp2_with fail
  refine c.mono ?_
  rintro e w5 ⟨rfl, hs5⟩
  have hgx := fun (q : Nat × Obj) (hq : q ∈ [(β + 1 + 1, .cells #[.int .u8 (uk : Int), .int .i64 un] 31), (β + 1, .cells #[.int .u8 3, .int .i64 ((k : Int) + 1)] 31), (β, .cells #[.int .i64 o0, .int .i64 o1, .int .i64 o2, .int .i64 o3, .int .i64 o4, .string o5] 33), (ob, .cells #[.int .u8 3, .int .i64 1] 31)]) => Nat.ne_of_lt (lt_of_get (hs5.own (k := q.1) (o := q.2) hq))
  have HS5 := Lib.hid (hs5.alloc H (.cells #[.int .u8 (kv : Int), .int .i64 nv] 31))
  have HG := Lib.hid hgx
  clear hgx
  have q0 := cell_of (HS5.out.own (.tail _ (.tail _ (.tail _ (.head _))))) 0 _ rfl
  have y0 := cell_of (HS5.out.own (.head _)) 0 _ rfl
  have y1 := cell_of (HS5.out.own (.head _)) 1 _ rfl
  clear hs5 c
  go_wp2_with fail
  refine (cf _ _ HS5.out).mono ?_
  rintro e w6 ⟨rfl, hs6⟩
  clear cf y0 y1 q0
  have HS6 := Lib.hid (hs6.congr (g' := wantS (offS S ⟨false, (k : Int) + 1, 0⟩)) (sz' := cntS (offS S ⟨false, (k : Int) + 1, 0⟩)) (off_want S ⟨false, (k : Int) + 1, 0⟩) (off_cnt S ⟨false, (k : Int) + 1, 0⟩))
  have HO2 := Lib.hid (off_ok HOK.out ⟨false, (k : Int) + 1, 0⟩ HIN.out.2 HRM.out)
  clear hs6 HAT HWN HAW
  generalize (offS S ⟨false, (k : Int) + 1, 0⟩) = S2 at *
  have y0 := cell_of (HS6.out.own (.head _)) 0 _ rfl
  have y1 := cell_of (HS6.out.own (.head _)) 1 _ rfl
  have q0 := cell_of (HS6.out.own (.tail _ (.tail _ (.tail _ (.head _))))) 0 _ rfl
  have ct := HS6.out.chg (fun hp => H.table hp)
  by_cases hf2 : 400 < usedS S2 + 2
  · rw [table_kp, if_pos hf2] at ct
    have ct : Calls Try.prog 9 #[.pointer (some ⟨b, 0, none⟩)] w6 (fun e w'' => e = .returned (.tuple #[.agg #[.int .u8 0, .int .i64 0], .int .i64 152]) ∧ KpS HP w b mb (kpH S2 m) (wantS S2) (cntS S2) N (.slice la L.length lc) L ((w5.heap.size, .cells #[.int .u8 (kv : Int), .int .i64 nv] 31) :: [(β + 1 + 1, .cells #[.int .u8 (uk : Int), .int .i64 un] 31), (β + 1, .cells #[.int .u8 3, .int .i64 ((k : Int) + 1)] 31), (β, .cells #[.int .i64 o0, .int .i64 o1, .int .i64 o2, .int .i64 o3, .int .i64 o4, .string o5] 33), (ob, .cells #[.int .u8 3, .int .i64 1] 31)]) w'') := ct
    go_wp2_with fail
    refine ct.mono ?_
    rintro e w7 ⟨rfl, hs7⟩
    clear ct y0 y1 q0
    have y0 := cell_of (hs7.own (.head _)) 0 _ rfl
    have y1 := cell_of (hs7.own (.head _)) 1 _ rfl
    have z0 := free_of (hs7.own (.head _)) 0
    have z1 := free_of (hs7.own (.head _)) 1
    have HS7 := Lib.hid (hs7.put2 (a' := .int .u8 0) (c' := .int .i64 0) H HG.out)
    clear hs7
    go_wp2_with fail
    exact HQ.out _ _ _ _ _ _ _ _ _ _ _ _ _ _ _ _ _ _ _ _ _ _ _ _ _ _ _ _ _ _ _ _ _ _ _ _ _ _ _ _ _ _ _ _ _ _ _ _ _ _ _ _ _ _ _ _ _ _ _ _ _ _ _ _ _ _ _ _ _ _ _ _ _ _ _ _ _ _ _ _ _ _ _ _ _ _ _ _ _ _ _ _ _ _ _ _ _ _ _ _ _ _ ⟨S2, m, N, L, HO2.out.mono (by omega), by have := HLL.out.1; omega, HLL.out.2.1, by have := HLL.out.2.2; omega, HS7.out.fewer (fun p hp => by rw [List.mem_singleton.1 hp]; simp)⟩
  · rw [table_kp, if_neg hf2] at ct
    obtain ⟨⟨kt, nt⟩, huv⟩ : ∃ u, (⟨5, (leastS S2 : Int) + 1⟩ : Vl) = u := ⟨_, rfl⟩
    have hst2 := setHalf_kp (S := S2) (m := m) ((k : Int) + 1)
    have hfr2 := freeHalf_kp (S := S2) (m := m)
    have hval : valK (leastS S2) ⟨true, (k : Int) + 1, upM m⟩ = ⟨kt, nt⟩ := huv
    rw [huv] at ct hst2 hfr2
    have hvt : (⟨kt, nt⟩ : Vl).In := by
      rw [← huv]
      have h1 := (least_spec S2).1
      have h2 := HO2.out.len
      exact ⟨by show 5 < 256; decide, by show -9223372036854775808 ≤ (leastS S2 : Int) + 1; omega, by show (leastS S2 : Int) + 1 ≤ 9223372036854775807; omega⟩
    have ct : Calls Try.prog 9 #[.pointer (some ⟨b, 0, none⟩)] w6 (fun e w'' => e = .returned (.tuple #[.agg #[.int .u8 (kt : Int), .int .i64 nt], .int .i64 0]) ∧ KpS HP w b mb (halfH S2 m) (wantS S2) (cntS S2) N (.slice la L.length lc) L ((w5.heap.size, .cells #[.int .u8 (kv : Int), .int .i64 nv] 31) :: [(β + 1 + 1, .cells #[.int .u8 (uk : Int), .int .i64 un] 31), (β + 1, .cells #[.int .u8 3, .int .i64 ((k : Int) + 1)] 31), (β, .cells #[.int .i64 o0, .int .i64 o1, .int .i64 o2, .int .i64 o3, .int .i64 o4, .string o5] 33), (ob, .cells #[.int .u8 3, .int .i64 1] 31)]) w'') := ct
    have HVT := Lib.hid hvt
    have HST := Lib.hid hst2
    have HFR := Lib.hid hfr2
    have HVAL := Lib.hid hval
    clear hvt hst2 hfr2 huv hval
    go_wp2_with fail
    refine ct.mono ?_
    rintro e w7 ⟨rfl, hs7⟩
    clear ct y0 y1 q0
    have y0 := cell_of (hs7.own (.head _)) 0 _ rfl
    have y1 := cell_of (hs7.own (.head _)) 1 _ rfl
    have z0 := free_of (hs7.own (.head _)) 0
    have z1 := free_of (hs7.own (.head _)) 1
    have HS7 := Lib.hid (hs7.put2 (a' := .int .u8 (kt : Int)) (c' := .int .i64 nt) H HG.out)
    clear hs7
    go_upto_region 22 with fail
    clear y0 y1 z0 z1
    generalize hW : (w7.setCell ⟨w5.heap.size, 0, none⟩ (.int .u8 (kt : Int))).setCell ⟨w5.heap.size, 1, none⟩ (.int .i64 nt) = w8 at *
    clear hW
    have y0 := cell_of (HS7.out.own (.head _)) 0 _ rfl
    have y1 := cell_of (HS7.out.own (.head _)) 1 _ rfl
    have x0 := cell_of (HS7.out.own (.tail _ (.tail _ (.head _)))) 0 _ rfl
    have x1 := cell_of (HS7.out.own (.tail _ (.tail _ (.head _)))) 1 _ rfl
    have i0 := cell_of (HS7.out.own (.tail _ (.tail _ (.tail _ (.tail _ (.head _)))))) 0 _ rfl
    have i1 := cell_of (HS7.out.own (.tail _ (.tail _ (.tail _ (.tail _ (.head _)))))) 1 _ rfl
    have cs := HS7.out.chg (fun hp => H.set ⟨kt, nt⟩ oneV (numV ((k : Int) + 1)) hp HVT.out one_In HIN.out)
    rw [HST.out] at cs
    by_cases hf4 : 400 < usedS S2 + 4
    · rw [if_pos hf4] at cs
      have cs : Calls Try.prog 10 #[.pointer (some ⟨b, 0, none⟩), .agg #[.int .u8 (kt : Int), .int .i64 nt], .agg #[.int .u8 3, .int .i64 1], .agg #[.int .u8 3, .int .i64 ((k : Int) + 1)]] w8 (fun e w'' => e = .returned (.int .i64 152) ∧ KpS HP w b mb (halfH S2 m) (wantS S2) (cntS S2) N (.slice la L.length lc) L ((w5.heap.size, .cells #[.int .u8 (kt : Int), .int .i64 nt] 31) :: [(β + 1 + 1, .cells #[.int .u8 (uk : Int), .int .i64 un] 31), (β + 1, .cells #[.int .u8 3, .int .i64 ((k : Int) + 1)] 31), (β, .cells #[.int .i64 o0, .int .i64 o1, .int .i64 o2, .int .i64 o3, .int .i64 o4, .string o5] 33), (ob, .cells #[.int .u8 3, .int .i64 1] 31)]) w'') := cs
      go_wp2_with fail
      refine cs.mono ?_
      rintro e w9 ⟨rfl, hs9⟩
      clear cs y0 y1 x0 x1 i0 i1
      have y0 := cell_of (hs9.own (.head _)) 0 _ rfl
      have y1 := cell_of (hs9.own (.head _)) 1 _ rfl
      have cf := hs9.chg (fun hp => H.free ⟨kt, nt⟩ hp HVT.out)
      rw [HFR.out] at cf
      have cf : Calls Try.prog 8 #[.pointer (some ⟨b, 0, none⟩), .agg #[.int .u8 (kt : Int), .int .i64 nt]] w9 (fun e w'' => e = .returned (.int .i64 0) ∧ KpS HP w b mb (kpH (putS S2 (leastS S2) none) (upM m)) (wantS S2) (cntS S2) N (.slice la L.length lc) L ((w5.heap.size, .cells #[.int .u8 (kt : Int), .int .i64 nt] 31) :: [(β + 1 + 1, .cells #[.int .u8 (uk : Int), .int .i64 un] 31), (β + 1, .cells #[.int .u8 3, .int .i64 ((k : Int) + 1)] 31), (β, .cells #[.int .i64 o0, .int .i64 o1, .int .i64 o2, .int .i64 o3, .int .i64 o4, .string o5] 33), (ob, .cells #[.int .u8 3, .int .i64 1] 31)]) w'') := cf
      clear hs9
      go_wp2_with fail
      refine cf.mono ?_
      rintro e w10 ⟨rfl, hs10⟩
      clear cf y0 y1
      have HS10 := Lib.hid (hs10.congr (g' := wantS (putS S2 (leastS S2) none)) (sz' := cntS (putS S2 (leastS S2) none)) (gone_want S2) (gone_cnt S2))
      clear hs10
      go_wp2_with fail
      exact HQ.out _ _ _ _ _ _ _ _ _ _ _ _ _ _ _ _ _ _ _ _ _ _ _ _ _ _ _ _ _ _ _ _ _ _ _ _ _ _ _ _ _ _ _ _ _ _ _ _ _ _ _ _ _ _ _ _ _ _ _ _ _ _ _ _ _ _ _ _ _ _ _ _ _ _ _ _ _ _ _ _ _ _ _ _ _ _ _ _ _ _ _ _ _ _ _ _ _ _ _ _ _ _ ⟨putS S2 (leastS S2) none, upM m, N, L, (HO2.out.gone (leastS S2) (least_spec S2).1).mono (by omega), by have := HLL.out.1; omega, HLL.out.2.1, by have := HLL.out.2.2; omega, HS10.out.fewer (fun p hp => by rw [List.mem_singleton.1 hp]; simp)⟩
    · rw [if_neg hf4] at cs
      have cs : Calls Try.prog 10 #[.pointer (some ⟨b, 0, none⟩), .agg #[.int .u8 (kt : Int), .int .i64 nt], .agg #[.int .u8 3, .int .i64 1], .agg #[.int .u8 3, .int .i64 ((k : Int) + 1)]] w8 (fun e w'' => e = .returned (.int .i64 0) ∧ KpS HP w b mb (kpH (addS S2 ⟨true, (k : Int) + 1, upM m⟩) (upM m)) (wantS S2) (cntS S2) N (.slice la L.length lc) L ((w5.heap.size, .cells #[.int .u8 (kt : Int), .int .i64 nt] 31) :: [(β + 1 + 1, .cells #[.int .u8 (uk : Int), .int .i64 un] 31), (β + 1, .cells #[.int .u8 3, .int .i64 ((k : Int) + 1)] 31), (β, .cells #[.int .i64 o0, .int .i64 o1, .int .i64 o2, .int .i64 o3, .int .i64 o4, .string o5] 33), (ob, .cells #[.int .u8 3, .int .i64 1] 31)]) w'') := cs
      have HR4 := Lib.hid (show usedS S2 + sizeK ⟨true, (k : Int) + 1, upM m⟩ ≤ 400 by show usedS S2 + 4 ≤ 400; omega)
      have hwn := want_fresh (least_spec S2).2 ⟨true, (k : Int) + 1, upM m⟩
      have haw := add_want S2 ⟨true, (k : Int) + 1, upM m⟩
      rw [HVAL.out] at hwn haw
      have HWN := Lib.hid hwn
      have HAW := Lib.hid haw
      clear hf4 hwn haw
      go_wp2_with fail
      refine cs.mono ?_
      rintro e w9 ⟨rfl, hs9⟩
      clear cs y0 y1 x0 x1 i0 i1
      have HS9a := Lib.hid hs9
      clear hs9
      have hlk6 := HS9a.out.look_ok ⟨kt, nt⟩ HVT.out
      rw [HWN.out] at hlk6
      have hlk6 : (Instr.lookup 27 (.map (some mb)) (.agg #[.int .u8 (kt : Int), .int .i64 nt]) true).run Try.prog w9 = .ok (.tuple #[.int .i64 0, .bool false]) w9 := hlk6
      obtain ⟨w8, hst, hs8⟩ := HS9a.out.store H (by have := HLL.out.2.2; omega) ⟨kt, nt⟩ ((k : Int) + 1) HVT.out HIN.out.2
      have hst : (Instr.mapUpdate 27 (.map (some mb)) (.agg #[.int .u8 (kt : Int), .int .i64 nt]) (.int .i64 ((k : Int) + 1))).run Try.prog w9 = .ok () w8 := hst
      have HS8 := Lib.hid (hs8.congr (g' := wantS (addS S2 ⟨true, (k : Int) + 1, upM m⟩)) (sz' := cntS (addS S2 ⟨true, (k : Int) + 1, upM m⟩)) (fun j => HAW.out j) (by rw [HWN.out]; exact add_cnt S2 ⟨true, (k : Int) + 1, upM m⟩))
      have r0 := cell_of (HS8.out.own (.head _)) 0 _ rfl
      have r1 := cell_of (HS8.out.own (.head _)) 1 _ rfl
      have s0 := cell_of (HS9a.out.own (.head _)) 0 _ rfl
      have s1 := cell_of (HS9a.out.own (.head _)) 1 _ rfl
      have t0 := cell_of (HS9a.out.own (.tail _ (.tail _ (.head _)))) 0 _ rfl
      have t1 := cell_of (HS9a.out.own (.tail _ (.tail _ (.head _)))) 1 _ rfl
      clear hs8
      go_wp2_with (at_builtin; refine wpList_append_v H HS8.out rfl (.tmp 121) (.tmp 123) rfl rfl ⟨kt, nt⟩ rfl (by have := HLL.out.1; omega) ?_)
      intro v9 w9 hs9
      have HS9 := Lib.hid hs9
      clear hs9
      go_wp2_with fail
      exact HQ.out _ _ _ _ _ _ _ _ _ _ _ _ _ _ _ _ _ _ _ _ _ _ _ _ _ _ _ _ _ _ _ _ _ _ _ _ _ _ _ _ _ _ _ _ _ _ _ _ _ _ _ _ _ _ _ _ _ _ _ _ _ _ _ _ _ _ _ _ _ _ _ _ _ _ _ _ _ _ _ _ _ _ _ _ _ _ _ _ _ _ _ _ _ _ _ _ _ _ _ _ _ _ ⟨(addS S2 ⟨true, (k : Int) + 1, upM m⟩), upM m, N + 1, L ++ [⟨kt, nt⟩], (HO2.out.put ⟨true, (k : Int) + 1, upM m⟩ HIN.out.2 HR4.out).mono (by omega), by have := HLL.out.1; rw [List.length_append, List.length_singleton]; omega, fun x hx => (List.mem_append.1 hx).elim (HLL.out.2.1 x) (fun h => by rw [List.mem_singleton.1 h]; exact HVT.out), by have := HLL.out.2.2; omega, HS9.out.fewer (fun p hp => by rw [List.mem_singleton.1 hp]; simp)⟩

end Go.Proofs.Ythejclgihhfenaa.Hp
