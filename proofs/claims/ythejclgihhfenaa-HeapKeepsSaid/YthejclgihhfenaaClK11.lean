import Derived.Test.YthejclgihhfenaaClK5
/-
  Layer 14, HeapKeeps: the second half of a round, the going through the map.
-/
namespace Go.Proofs.Ythejclgihhfenaa.Hp
open Go Go.RowKit Go.Proofs.Ythejclgihhfenaa.Pl Go.Proofs.Ythejclgihhfenaa.Tb Go.Proofs.Ythejclgihhfenaa.Vm

def aftBlk (n : Nat) : Code → Option Code
  | .seq (.block k c) b => if k = n then some b else match aftBlk n c with
    | some r => some r
    | none => aftBlk n b
  | .seq a b => match aftBlk n a with
    | some r => some r
    | none => aftBlk n b
  | .block _ c => aftBlk n c
  | .loop c => aftBlk n c
  | .scope c => aftBlk n c
  | .cond _ a b => match aftBlk n a with
    | some r => some r
    | none => aftBlk n b
  | _ => none
noncomputable def rdCode : Code := ((Try.f3.body).bind (aftBlk 2)).getD .skip
theorem cnt_le : ∀ l : Ob, cntL l ≤ l.length
  | [] => Nat.le_refl _
  | a :: l => by
    have h := cnt_le l
    rw [cnt_cons, List.length_cons]
    split <;> omega
theorem cntS_le (S : KS) : cntS S ≤ S.length := by
  have h := cnt_le (obS S)
  unfold obS at h
  rwa [List.length_map] at h
theorem KpN.put2 {HP : HeapP} {w0 w : World} {b mb nb r N Nn cnt : Nat} {S : KS} {m : Int} {fn : Int → Bool} {left : Vl → Bool} {v : Value} {L : List Vl} {K : Own} {x : Nat} {T : TypeId} {a c a' c' : Value} (H : HeapSays HP) (hs : KpN HP w0 b mb nb r S m N Nn fn left cnt v L ((x, .cells #[a, c] T) :: K) w) (hx : ∀ q ∈ K, q.1 ≠ x) : KpN HP w0 b mb nb r S m N Nn fn left cnt v L ((x, .cells #[a', c'] T) :: K) ((w.setCell ⟨x, 0, none⟩ a').setCell ⟨x, 1, none⟩ c') := by
  have hb := hs.own (.head _)
  have ht : Turns [x] w ((w.setCell ⟨x, 0, none⟩ a').setCell ⟨x, 1, none⟩ c') := ⟨rfl, rfl, rfl, by simp, fun k _ hn => by
    rw [heap_setCell_other _ _ _ _ (fun e => hn (List.mem_singleton.2 (show k = x from e))), heap_setCell_other _ _ _ _ (fun e => hn (List.mem_singleton.2 (show k = x from e)))]⟩
  exact hs.box H hx ht _ (heap_setCell_same _ x 1 _ T c' (heap_setCell_same w x 0 _ T a' hb))
set_option maxHeartbeats 2000000 in
set_option maxRecDepth 100000 in
theorem round_all {HP : HeapP} (H : HeapSays HP) {Q : Exit → Act → World → Prop} {p0 p1 p2 p4 p8 p9 p10 p11 p12 p13 p14 p15 p16 p17 p18 p19 p20 p21 p22 p23 p24 p25 p26 p27 p28 p29 p30 p31 p32 p33 p34 p35 p36 p37 p38 p39 p40 p41 p42 p43 p44 p45 p46 p47 p48 p49 p50 p51 p52 p53 p54 p55 p56 p57 p58 p59 p60 p61 p62 p63 p64 p65 p66 p67 p68 p69 p70 p71 p72 p73 p74 p75 p76 p77 p78 p79 p80 p81 p82 p83 p84 p85 p86 p87 p88 p89 p90 p91 p92 p93 p94 p95 p96 p97 p98 p99 p100 p101 p102 p103 p104 p105 p106 p107 p108 p109 p110 p111 p112 p113 p114 p115 p116 p117 p118 p119 p120 p121 p122 p123 p124 p125 p126 p127 p128 p129 p130 p131 p132 p133 p134 p135 p136 p137 p138 p139 p140 p141 p142 p143 p144 p145 p146 p147 p148 p149 p150 p151 p152 p153 p154 p155 p156 p157 p158 p159 p160 p161 p162 p163 p164 p165 p166 p167 p168 p169 p170 p171 p172 p173 p174 p175 p176 p177 p178 p179 p180 p181 p182 p183 p184 p185 p186 p187 p188 p189 p190 p191 p192 p193 p194 p195 p196 p197 p198 p199 p200 p201 p202 p203 p204 p205 p206 p207 p208 p209 p210 p211 p212 p213 p214 p215 p216 p217 p218 p219 p220 p221 : Value} {b mb ob k : Nat} {v : Value} {w wc : World} (hat : KpAt HP w b mb ob k v wc) (hk : k ≤ 150)
    (hQ : ∀ (n2 n19 n20 n21 n22 n23 n162 n163 n164 n165 n166 n167 n168 n169 n170 n171 n172 n173 n174 n175 n176 n177 n178 n179 n180 n181 n182 n183 n184 n185 n186 n187 n188 n189 n190 n191 n192 n193 n194 n195 n196 n197 n198 n199 n200 n201 n202 n203 n204 n205 n206 n207 n208 n209 n210 n211 n212 n213 n214 n215 n216 n217 n218 n219 n220 : Value) (wx : World), KpAt HP w b mb ob k v wx → Q .normal ⟨(p0 :: p1 :: n2 :: .pointer (some ⟨b, 0, none⟩) :: p4 :: .map (some mb) :: v :: .pointer (some ⟨ob, 0, none⟩) :: p8 :: p9 :: p10 :: p11 :: p12 :: p13 :: p14 :: p15 :: p16 :: p17 :: p18 :: n19 :: n20 :: n21 :: n22 :: n23 :: p24 :: p25 :: p26 :: p27 :: p28 :: p29 :: p30 :: p31 :: p32 :: p33 :: p34 :: p35 :: p36 :: p37 :: p38 :: p39 :: p40 :: p41 :: p42 :: p43 :: p44 :: p45 :: p46 :: p47 :: p48 :: p49 :: p50 :: p51 :: p52 :: p53 :: p54 :: p55 :: p56 :: p57 :: p58 :: p59 :: p60 :: p61 :: p62 :: p63 :: p64 :: p65 :: p66 :: p67 :: p68 :: p69 :: p70 :: p71 :: p72 :: p73 :: p74 :: p75 :: p76 :: p77 :: p78 :: p79 :: p80 :: p81 :: p82 :: p83 :: p84 :: p85 :: p86 :: p87 :: p88 :: p89 :: p90 :: p91 :: p92 :: p93 :: p94 :: p95 :: p96 :: p97 :: p98 :: p99 :: p100 :: p101 :: p102 :: p103 :: p104 :: p105 :: p106 :: p107 :: p108 :: p109 :: p110 :: p111 :: p112 :: p113 :: p114 :: p115 :: p116 :: p117 :: p118 :: p119 :: p120 :: p121 :: p122 :: p123 :: p124 :: p125 :: p126 :: p127 :: p128 :: p129 :: p130 :: p131 :: p132 :: p133 :: p134 :: p135 :: p136 :: p137 :: p138 :: p139 :: p140 :: p141 :: p142 :: p143 :: p144 :: p145 :: p146 :: p147 :: p148 :: p149 :: p150 :: p151 :: p152 :: p153 :: p154 :: p155 :: p156 :: p157 :: p158 :: p159 :: p160 :: p161 :: n162 :: n163 :: n164 :: n165 :: n166 :: n167 :: n168 :: n169 :: n170 :: n171 :: n172 :: n173 :: n174 :: n175 :: n176 :: n177 :: n178 :: n179 :: n180 :: n181 :: n182 :: n183 :: n184 :: n185 :: n186 :: n187 :: n188 :: n189 :: n190 :: n191 :: n192 :: n193 :: n194 :: n195 :: n196 :: n197 :: n198 :: n199 :: n200 :: n201 :: n202 :: n203 :: n204 :: n205 :: n206 :: n207 :: n208 :: n209 :: n210 :: n211 :: n212 :: n213 :: n214 :: n215 :: n216 :: n217 :: n218 :: n219 :: n220 :: p221 :: []).toArray, []⟩ wx) :
    Code.wp Try.prog rdCode Q ⟨(p0 :: p1 :: p2 :: .pointer (some ⟨b, 0, none⟩) :: p4 :: .map (some mb) :: v :: .pointer (some ⟨ob, 0, none⟩) :: p8 :: p9 :: p10 :: p11 :: p12 :: p13 :: p14 :: p15 :: p16 :: p17 :: p18 :: p19 :: p20 :: p21 :: p22 :: p23 :: p24 :: p25 :: p26 :: p27 :: p28 :: p29 :: p30 :: p31 :: p32 :: p33 :: p34 :: p35 :: p36 :: p37 :: p38 :: p39 :: p40 :: p41 :: p42 :: p43 :: p44 :: p45 :: p46 :: p47 :: p48 :: p49 :: p50 :: p51 :: p52 :: p53 :: p54 :: p55 :: p56 :: p57 :: p58 :: p59 :: p60 :: p61 :: p62 :: p63 :: p64 :: p65 :: p66 :: p67 :: p68 :: p69 :: p70 :: p71 :: p72 :: p73 :: p74 :: p75 :: p76 :: p77 :: p78 :: p79 :: p80 :: p81 :: p82 :: p83 :: p84 :: p85 :: p86 :: p87 :: p88 :: p89 :: p90 :: p91 :: p92 :: p93 :: p94 :: p95 :: p96 :: p97 :: p98 :: p99 :: p100 :: p101 :: p102 :: p103 :: p104 :: p105 :: p106 :: p107 :: p108 :: p109 :: p110 :: p111 :: p112 :: p113 :: p114 :: p115 :: p116 :: p117 :: p118 :: p119 :: p120 :: p121 :: p122 :: p123 :: p124 :: p125 :: p126 :: p127 :: p128 :: p129 :: p130 :: p131 :: p132 :: p133 :: p134 :: p135 :: p136 :: p137 :: p138 :: p139 :: p140 :: p141 :: p142 :: p143 :: p144 :: p145 :: p146 :: p147 :: p148 :: p149 :: p150 :: p151 :: p152 :: p153 :: p154 :: p155 :: p156 :: p157 :: p158 :: p159 :: p160 :: p161 :: p162 :: p163 :: p164 :: p165 :: p166 :: p167 :: p168 :: p169 :: p170 :: p171 :: p172 :: p173 :: p174 :: p175 :: p176 :: p177 :: p178 :: p179 :: p180 :: p181 :: p182 :: p183 :: p184 :: p185 :: p186 :: p187 :: p188 :: p189 :: p190 :: p191 :: p192 :: p193 :: p194 :: p195 :: p196 :: p197 :: p198 :: p199 :: p200 :: p201 :: p202 :: p203 :: p204 :: p205 :: p206 :: p207 :: p208 :: p209 :: p210 :: p211 :: p212 :: p213 :: p214 :: p215 :: p216 :: p217 :: p218 :: p219 :: p220 :: p221 :: []).toArray, []⟩ wc := by
  obtain ⟨S, m, N, L, hok, hL, hLi, hN, hs⟩ := hat
  have HOK := Lib.hid hok
  have HLL := Lib.hid (And.intro hL (And.intro hLi hN))
  have HQ := Lib.hid hQ
  have HK4 := Lib.hid (show 4 * k ≤ 1000 by omega)
  have hcl : cntS S ≤ 1000 := Nat.le_trans (cntS_le S) (Nat.le_trans hok.len HK4.out)
  have hus4 := hok.used
  have HSA := Lib.hid (hs.alloc H (.map #[] 0))
  have HMN := Lib.hid (nmap_new 2)
  have HNB := Lib.hid (show ∀ p ∈ [(ob, Obj.cells #[.int .u8 3, .int .i64 1] 31)], p.1 ≠ wc.heap.size from fun p hp => by rw [List.mem_singleton.1 hp]; exact Nat.ne_of_lt (lt_of_get (hs.own (.head _))))
  have hr1 : (wc.alloc (.map #[] 0)).heap.size = wc.heap.size + 1 := by simp
  have hmm := @run_makeMap Try.prog
  clear hs hok hL hLi hN hQ hk
  conv => arg 2; whnf
  go_wp2_with (first | (at_range; refine wpList_range_kp H HSA.out HMN.out HNB.out rfl _ rfl rfl ?_; intro w3 hn3 hs3) | fail)
  rw [hr1] at hn3
  rw [hr1]
  have HN3 := Lib.hid hn3
  clear hn3 hs3 hr1 HSA HMN HNB hmm
  generalize wc.heap.size = nb at *
  change Code.wp _ _ _ ⟨(p0 :: p1 :: p2 :: .pointer (some ⟨b, 0, none⟩) :: p4 :: .map (some mb) :: v :: .pointer (some ⟨ob, 0, none⟩) :: p8 :: p9 :: p10 :: p11 :: p12 :: p13 :: p14 :: p15 :: p16 :: p17 :: p18 :: .int .i64 0 :: .map (some nb) :: p21 :: p22 :: p23 :: p24 :: p25 :: p26 :: p27 :: p28 :: p29 :: p30 :: p31 :: p32 :: p33 :: p34 :: p35 :: p36 :: p37 :: p38 :: p39 :: p40 :: p41 :: p42 :: p43 :: p44 :: p45 :: p46 :: p47 :: p48 :: p49 :: p50 :: p51 :: p52 :: p53 :: p54 :: p55 :: p56 :: p57 :: p58 :: p59 :: p60 :: p61 :: p62 :: p63 :: p64 :: p65 :: p66 :: p67 :: p68 :: p69 :: p70 :: p71 :: p72 :: p73 :: p74 :: p75 :: p76 :: p77 :: p78 :: p79 :: p80 :: p81 :: p82 :: p83 :: p84 :: p85 :: p86 :: p87 :: p88 :: p89 :: p90 :: p91 :: p92 :: p93 :: p94 :: p95 :: p96 :: p97 :: p98 :: p99 :: p100 :: p101 :: p102 :: p103 :: p104 :: p105 :: p106 :: p107 :: p108 :: p109 :: p110 :: p111 :: p112 :: p113 :: p114 :: p115 :: p116 :: p117 :: p118 :: p119 :: p120 :: p121 :: p122 :: p123 :: p124 :: p125 :: p126 :: p127 :: p128 :: p129 :: p130 :: p131 :: p132 :: p133 :: p134 :: p135 :: p136 :: p137 :: p138 :: p139 :: p140 :: p141 :: p142 :: p143 :: p144 :: p145 :: p146 :: p147 :: p148 :: p149 :: p150 :: p151 :: p152 :: p153 :: p154 :: p155 :: p156 :: p157 :: p158 :: p159 :: p160 :: p161 :: .map (some nb) :: .map (some mb) :: .pointer (some ⟨nb + 1, 0, none⟩) :: p165 :: p166 :: p167 :: p168 :: p169 :: p170 :: p171 :: p172 :: p173 :: p174 :: p175 :: p176 :: p177 :: p178 :: p179 :: p180 :: p181 :: p182 :: p183 :: p184 :: p185 :: p186 :: p187 :: p188 :: p189 :: p190 :: p191 :: p192 :: p193 :: p194 :: p195 :: p196 :: p197 :: p198 :: p199 :: p200 :: p201 :: p202 :: p203 :: p204 :: p205 :: p206 :: p207 :: p208 :: p209 :: p210 :: p211 :: p212 :: p213 :: p214 :: p215 :: p216 :: p217 :: p218 :: p219 :: p220 :: p221 :: []).toArray, []⟩ _
  go_loopg [19] (cntS S) (fun r us wr => ∃ (cnt Nn : Nat) (ui : Int) (fn : Int → Bool) (left : Vl → Bool), r = cnt ∧ us = .int .i64 ui ∧ 0 ≤ ui ∧ ui + restL left 0 S = usedS S ∧ Nn + cnt ≤ cntS S ∧ KpN HP w b mb nb (nb + 1) S m N Nn fn left cnt v L [(ob, .cells #[.int .u8 3, .int .i64 1] 31)] wr)
  case atStart => exact ⟨_, 0, 0, _, _, rfl, rfl, Int.le_refl _, by rw [rest_all 0 S (fun j o h => by rw [Nat.zero_add, want_at h]; rfl)]; omega, by omega, HN3.out⟩
  case round =>
    obtain ⟨cnt, Nn, ui, fn, left, rfl, rfl, hu0, hus, hN2, hS2⟩ := hrel
    have HS2 := Lib.hid hS2
    have HUS := Lib.hid hus
    have hpos := rest_pos left 0 S
    have hu4 : ui ≤ 400 := by omega
    clear hS2 hus hpos
    go_wp2_with (first | (at_next; refine wpList_next_kp H HS2.out rfl _ rfl rfl ?_ ?_) | fail)
    · intro hd
      have hui : usedS S = ui := by
        have h0 := rest_none (left := left) 0 S (fun j o h => hd _ (by rw [Nat.zero_add]; exact HOK.out.valIn HK4.out h))
        have := HUS.out
        omega
      have HD := Lib.hid HS2.out.done
      have cu := HD.out.tell H (fun hp => H.used hp)
      rw [used_kp, hui] at cu
      have cu : Calls Try.prog 15 #[.pointer (some ⟨b, 0, none⟩)] wr (fun e w' => e = .returned (.int .i64 ui) ∧ KpS HP w b mb (kpH S m) (wantS S) (cntS S) N v L [(ob, .cells #[.int .u8 3, .int .i64 1] 31)] w') := cu
      clear hd
      go_wp2_with fail
      refine cu.mono ?_
      rintro e w5 ⟨rfl, h5⟩
      have cm : Calls Try.prog 16 #[.pointer (some ⟨b, 0, none⟩)] w5 (fun e w' => e = .returned (.int .i64 400) ∧ KpS HP w b mb (kpH S m) (wantS S) (cntS S) N v L [(ob, .cells #[.int .u8 3, .int .i64 1] 31)] w') := h5.tell H (fun hp => H.max hp)
      clear cu h5
      go_wp2_with fail
      refine cm.mono ?_
      rintro e w6 ⟨rfl, h6⟩
      have H6 := Lib.hid h6
      clear h6 cm
      have h44 : ¬ (400 : Int) < ui := by omega
      go_wp2_with fail
      refine (H6.out.objects H).mono ?_
      rintro e w7 ⟨ao, cap, he, h7⟩
      rw [objects_kp] at he
      subst he
      have hln := h7.len 3
      have H7 := Lib.hid h7
      clear h7
      go_wp2_with fail
      exact HQ.out _ _ _ _ _ _ _ _ _ _ _ _ _ _ _ _ _ _ _ _ _ _ _ _ _ _ _ _ _ _ _ _ _ _ _ _ _ _ _ _ _ _ _ _ _ _ _ _ _ _ _ _ _ _ _ _ _ _ _ _ _ _ _ _ _  _ ⟨S, m, N, L, HOK.out, HLL.out.1, HLL.out.2.1, HLL.out.2.2, H7.out⟩
    · intro j p w4 cnt' hak hui hleft hfn hn4 hlt hsz hen
      have htk := rest_take (left := left) 0 S j p hak (by rw [Nat.zero_add]; exact hleft)
      have hat := at_val hak
      rw [Nat.zero_add] at htk
      obtain ⟨u, hu⟩ : ∃ u, valK j p = u := ⟨_, rfl⟩
      rw [hu] at hui hfn hn4 hen htk hat
      simp only [hu, Vl.val, Vl.cells]
      unfold Vl.val Vl.cells at hen
      have HUI := Lib.hid hui
      have HFN := Lib.hid hfn
      have HAT := Lib.hid hat
      have HTK := Lib.hid htk
      have HUK := Lib.hid hu
      have HAK := Lib.hid hak
      have HN5 := Lib.hid (hn4.alloc H (.cells #[.int .u8 (u.kind : Int), .int .i64 u.n] 31))
      have eu1 : IntKind.i64.wrap (ui + 1) = ui + 1 := IntWalk.i64_in _ (by omega)
      have cl := HN5.out.tell H (fun hp => H.load u hp HUI.out)
      rw [load_kp HAT.out] at cl
      have y0 := cell_of (HN5.out.own (.head _)) 0 _ rfl
      have y1 := cell_of (HN5.out.own (.head _)) 1 _ rfl
      clear hui hfn hat htk hak hleft hn4 hsz
      obtain ⟨t, a, s⟩ := p
      cases t
      · have hkd : u.kind = 9 := by rw [← hu]; rfl
        have h5n : ¬ (u.kind : Int) = 5 := by omega
        rw [if_pos hkd] at cl
        have cl : Calls Try.prog 12 #[.pointer (some ⟨b, 0, none⟩), .agg #[.int .u8 (u.kind : Int), .int .i64 u.n]] (w4.alloc (.cells #[.int .u8 (u.kind : Int), .int .i64 u.n] 31)) (fun e w' => e = .returned (.agg #[.int .u8 3, .int .i64 a]) ∧ KpN HP w b mb nb (nb + 1) S m N Nn fn (fun s => left s && !decide (s = u)) cnt' v L ((w4.heap.size, .cells #[.int .u8 (u.kind : Int), .int .i64 u.n] 31) :: [(ob, .cells #[.int .u8 3, .int .i64 1] 31)]) w') := cl
        clear hkd hu
        dsimp only
        go_wp2_with fail
        refine cl.mono ?_
        rintro e w5 ⟨rfl, h5⟩
        have HN6 := Lib.hid (h5.alloc H (.cells #[.int .u8 3, .int .i64 a] 31))
        clear cl h5 y0 y1
        have y0 := cell_of (HN6.out.own (.tail _ (.head _))) 0 _ rfl
        have y1 := cell_of (HN6.out.own (.tail _ (.head _))) 1 _ rfl
        have x1 := cell_of (HN6.out.own (.head _)) 1 _ rfl
        have hlk := HN6.out.look u.n HUI.out.2
        rw [HFN.out] at hlk
        have c2 : Calls Try.prog 14 #[.pointer (some ⟨b, 0, none⟩), .agg #[.int .u8 (u.kind : Int), .int .i64 u.n]] (w5.alloc (.cells #[.int .u8 3, .int .i64 a] 31)) (fun e w' => e = .returned (.bool true) ∧ KpN HP w b mb nb (nb + 1) S m N Nn fn (fun s => left s && !decide (s = u)) cnt' v L ((w5.heap.size, .cells #[.int .u8 3, .int .i64 a] 31) :: ((w4.heap.size, .cells #[.int .u8 (u.kind : Int), .int .i64 u.n] 31) :: [(ob, .cells #[.int .u8 3, .int .i64 1] 31)])) w') := by
          have c := HN6.out.tell H (fun hp => H.has u hp HUI.out)
          rw [has_kp HAT.out] at c
          exact c
        go_wp2_with fail
        refine c2.mono ?_
        rintro e w7 ⟨rfl, h7⟩
        clear y0 y1 x1 hlk c2
        have y1 := cell_of (h7.own (.tail _ (.head _))) 1 _ rfl
        obtain ⟨w8, hst, h8⟩ := h7.store H (by omega) HAK.out (by rw [HUK.out]; exact HUI.out) (by rw [HUK.out]; simp)
        rw [HUK.out] at hst
        have HS8 := Lib.hid h8
        clear h8 h7
        go_wp2_with fail
        go_roundg cnt'
        case measure => omega
        case rel =>
          have ht := HTK.out
          have hus := HUS.out
          have hz : sizeK (KO.mk false a s) = 1 := rfl
          exact ⟨cnt', Nn + 1, ui + 1, _, _, rfl, by first | rfl | go_num, by omega, by rw [← hus, ← ht]; omega, by omega, HS8.out.fewer (fun p hp => by rw [List.mem_singleton.1 hp]; simp)⟩
      · have hkd : u.kind = 5 := by rw [← hu]; rfl
        have eu4 : IntKind.i64.wrap (ui + 1 + 3) = ui + 4 := by rw [IntWalk.i64_in _ (by omega)]; omega
        rw [if_neg (by omega)] at cl
        have cl : Calls Try.prog 12 #[.pointer (some ⟨b, 0, none⟩), .agg #[.int .u8 (u.kind : Int), .int .i64 u.n]] (w4.alloc (.cells #[.int .u8 (u.kind : Int), .int .i64 u.n] 31)) (fun e w' => e = .returned (.agg #[.int .u8 0, .int .i64 0]) ∧ KpN HP w b mb nb (nb + 1) S m N Nn fn (fun s => left s && !decide (s = u)) cnt' v L ((w4.heap.size, .cells #[.int .u8 (u.kind : Int), .int .i64 u.n] 31) :: [(ob, .cells #[.int .u8 3, .int .i64 1] 31)]) w') := cl
        have HKD := Lib.hid hkd
        clear hkd hu
        dsimp only
        go_wp2_with fail
        refine cl.mono ?_
        rintro e w5 ⟨rfl, h5⟩
        have HXX := Lib.hid (fun (q : Nat × Obj) (hq : q ∈ ((w4.heap.size, .cells #[.int .u8 (u.kind : Int), .int .i64 u.n] 31) :: [(ob, .cells #[.int .u8 3, .int .i64 1] 31)])) => h5.own (k := q.1) (o := q.2) hq)
        have HN6 := Lib.hid (h5.alloc H (.cells #[.int .u8 0, .int .i64 0] 31))
        clear cl h5 y0 y1
        have y0 := cell_of (HN6.out.own (.tail _ (.head _))) 0 _ rfl
        have y1 := cell_of (HN6.out.own (.tail _ (.head _))) 1 _ rfl
        have o0 := cell_of (HN6.out.own (.tail _ (.tail _ (.head _)))) 0 _ rfl
        have o1 := cell_of (HN6.out.own (.tail _ (.tail _ (.head _)))) 1 _ rfl
        have h5k : (u.kind : Int) = 5 := by have := HKD.out; omega
        go_upto_region 53 with fail
        clear h5k
        have cg : Calls Try.prog 13 #[.pointer (some ⟨b, 0, none⟩), .agg #[.int .u8 (u.kind : Int), .int .i64 u.n], .agg #[.int .u8 3, .int .i64 1]] (w5.alloc (.cells #[.int .u8 0, .int .i64 0] 31)) (fun e w' => e = .returned (.agg #[.int .u8 3, .int .i64 a]) ∧ KpN HP w b mb nb (nb + 1) S m N Nn fn (fun s => left s && !decide (s = u)) cnt' v L ((w5.heap.size, .cells #[.int .u8 0, .int .i64 0] 31) :: ((w4.heap.size, .cells #[.int .u8 (u.kind : Int), .int .i64 u.n] 31) :: [(ob, .cells #[.int .u8 3, .int .i64 1] 31)])) w') := by
          have c := HN6.out.tell H (fun hp => H.get u oneV hp HUI.out one_In)
          rw [get_kp HAT.out HKD.out] at c
          exact c
        have hgx := fun (q : Nat × Obj) (hq : q ∈ ((w4.heap.size, .cells #[.int .u8 (u.kind : Int), .int .i64 u.n] 31) :: [(ob, .cells #[.int .u8 3, .int .i64 1] 31)])) => Nat.ne_of_lt (lt_of_get (show w5.heap[q.1]? = some q.2 from HXX.out q hq))
        go_wp2_with fail
        refine cg.mono ?_
        rintro e w6 ⟨rfl, h6⟩
        clear cg y0 y1 o0 o1
        have y0 := cell_of (h6.own (.head _)) 0 _ rfl
        have y1 := cell_of (h6.own (.head _)) 1 _ rfl
        have z0 := free_of (h6.own (.head _)) 0
        have z1 := free_of (h6.own (.head _)) 1
        have HN7 := Lib.hid (h6.put2 (a' := .int .u8 3) (c' := .int .i64 a) H hgx)
        clear h6 hgx
        go_upto_region 54 with fail
        clear y0 y1 z0 z1
        generalize hW : (w6.setCell ⟨w5.heap.size, 0, none⟩ (.int .u8 3)).setCell ⟨w5.heap.size, 1, none⟩ (.int .i64 a) = w9 at *
        clear hW
        have y0 := cell_of (HN7.out.own (.tail _ (.head _))) 0 _ rfl
        have y1 := cell_of (HN7.out.own (.tail _ (.head _))) 1 _ rfl
        have x1 := cell_of (HN7.out.own (.head _)) 1 _ rfl
        have hlk := HN7.out.look u.n HUI.out.2
        rw [HFN.out] at hlk
        have c2 : Calls Try.prog 14 #[.pointer (some ⟨b, 0, none⟩), .agg #[.int .u8 (u.kind : Int), .int .i64 u.n]] w9 (fun e w' => e = .returned (.bool true) ∧ KpN HP w b mb nb (nb + 1) S m N Nn fn (fun s => left s && !decide (s = u)) cnt' v L ((w5.heap.size, .cells #[.int .u8 3, .int .i64 a] 31) :: ((w4.heap.size, .cells #[.int .u8 (u.kind : Int), .int .i64 u.n] 31) :: [(ob, .cells #[.int .u8 3, .int .i64 1] 31)])) w') := by
          have c := HN7.out.tell H (fun hp => H.has u hp HUI.out)
          rw [has_kp HAT.out] at c
          exact c
        go_wp2_with fail
        refine c2.mono ?_
        rintro e w7 ⟨rfl, h7⟩
        clear y0 y1 x1 hlk c2
        have y1 := cell_of (h7.own (.tail _ (.head _))) 1 _ rfl
        obtain ⟨w8, hst, h8⟩ := h7.store H (by omega) HAK.out (by rw [HUK.out]; exact HUI.out) (by rw [HUK.out]; simp)
        rw [HUK.out] at hst
        have HS8 := Lib.hid h8
        clear h8 h7
        go_wp2_with fail
        go_roundg cnt'
        case measure => omega
        case rel =>
          have ht := HTK.out
          have hus := HUS.out
          have hz : sizeK (KO.mk true a s) = 4 := rfl
          exact ⟨cnt', Nn + 1, ui + 4, _, _, rfl, by first | rfl | go_num, by omega, by rw [← hus, ← ht]; omega, by omega, HS8.out.fewer (fun p hp => by rw [List.mem_singleton.1 hp]; simp)⟩

end Go.Proofs.Ythejclgihhfenaa.Hp
