/-
  Layer 5: CopySyntax.
-/
import Derived.Test.YtmddffacjkkeiaaNdOwn
import Derived.Deep.LoopGhost
import Derived.Deep.DeepCutAuto
namespace Go.Proofs.Ytmddffacjkkeiaa.Nd
open Go Go.RowKit Go.ChangeShapes Go.WideShapes

theorem new_block (w : World) (o : Obj) : (w.alloc o).heap[w.heap.size]? = some o := by
  show (w.heap.push o)[w.heap.size]? = some o
  simp
theorem cell_of {w : World} {b : Nat} {cs : Array Value} {T : TypeId} (h : w.heap[b]? = some (.cells cs T (0, 0))) (j : Nat) (v : Value) (hv : cs[j]? = some v) : w.cell? ⟨b, j, none⟩ = some v := by
  rw [Lib.cell_of_heap h]; exact hv
theorem free_of {w : World} {b : Nat} {cs : Array Value} {T : TypeId} (h : w.heap[b]? = some (.cells cs T (0, 0))) (j : Nat) : w.frozen? ⟨b, j, none⟩ = false := Lib.frozen_of_heap h j

theorem own_other {w : World} {b base n size j : Nat} {e T : TypeId} {v u : Value} {xs : List Value} {cs : Array Value} {fr : Nat × Nat} (h : w.ownsRow base e size v n xs) (hb : w.heap[b]? = some (.cells cs T fr)) (hT : e ≠ T) : (w.setCell ⟨b, j, none⟩ u).ownsRow base e size v n xs := by
  refine ownsRow_setCell_other h (fun hv => ?_) u
  rcases h.2 with ⟨rfl, _⟩ | ⟨g, cap, cur, rfl, _, hh, _⟩
  · cases hv
  · cases hv
    rw [hb] at hh
    cases hh
    exact hT rfl
theorem Sub.set {w : World} {r : R3} {b j : Nat} {T : TypeId} {u : Value} {cs : Array Value} {fr : Nat × Nat} (h : Sub w r) (hb : w.heap[b]? = some (.cells cs T fr)) (h1 : 9 ≠ T) (h2 : 3 ≠ T) : Sub (w.setCell ⟨b, j, none⟩ u) r :=
  ⟨own_other h.1 hb h1, own_other h.2 hb h2⟩
theorem trans5 {a b c : World} (h : Below a.heap.size a b) (k : Below b.heap.size b c) : Below a.heap.size a c := h.trans (k.mono h.size)

theorem three (w : World) (A B C : Obj) : (((w.alloc A).alloc B).alloc C).heap[w.heap.size + 1 + 1]? = some C ∧ (((w.alloc A).alloc B).alloc C).heap[w.heap.size]? = some A ∧ (((w.alloc A).alloc B).alloc C).heap[w.heap.size + 1]? = some B ∧ Below w.heap.size w (((w.alloc A).alloc B).alloc C) := by
  have s1 : (w.alloc A).heap.size = w.heap.size + 1 := by simp
  have s2 : ((w.alloc A).alloc B).heap.size = w.heap.size + 1 + 1 := by simp
  have bC : Below ((w.alloc A).alloc B).heap.size ((w.alloc A).alloc B) (((w.alloc A).alloc B).alloc C) := (Below.refl _ _).alloc (Nat.le_refl _) C
  have bB : Below (w.alloc A).heap.size (w.alloc A) ((w.alloc A).alloc B) := (Below.refl _ _).alloc (Nat.le_refl _) B
  have bA : Below w.heap.size w (w.alloc A) := (Below.refl _ _).alloc (Nat.le_refl _) A
  refine ⟨?_, ?_, ?_, trans5 (trans5 bA bB) bC⟩
  · rw [← s2]; exact new_block _ C
  · exact (bC.block _ (by omega)).trans ((bB.block _ (by omega)).trans (new_block w A))
  · rw [← s1]; exact (bC.block _ (by omega)).trans (new_block _ B)

set_option maxHeartbeats 2000000 in
theorem copy_syntax (v : Value) (l : List Nd) (root : Int) (w : World) (hS : SynAt w v l root) (hl : l.length ≤ 1500) :
    Calls Try.prog 28 #[v] w fun e w' => ∃ u, e = .returned (.agg #[u, .int .i64 root]) ∧ ∃ rs, OwnNd w' w.heap.size u rs ∧ rs.map (·.1) = l ∧ (∀ n ∈ l, Fine n) ∧ Below w.heap.size w w' := by
  obtain ⟨v0, rfl, ⟨ao, cap, rfl, _, hc⟩, hr⟩ := hS
  have HC := Lib.hid hc
  obtain ⟨n, hn⟩ : ∃ n, n = l.length := ⟨_, rfl⟩
  rw [← hn] at hl
  rw [← hn]
  have HN := Lib.hid hn
  clear hc hn
  obtain ⟨hr1, hr2⟩ := hr
  go_enter Try.func28, Try.ntmps28
  go_wp2_with fail
  go_loopg [4] n (fun r i wr => ∃ (k : Nat) (u : Value) (rs : List R3), r = n - k ∧ i = .int .i64 (k : Int) ∧ k ≤ n ∧ rs.map (·.1) = l.take k ∧ (∀ q ∈ l.take k, Fine q) ∧ OwnNd wr (w.heap.size + 3) u rs ∧ wr.heap[w.heap.size + 1 + 1]? = some (.cells #[u, .int .i64 root] 24 (0, 0)) ∧ wr.heap[w.heap.size]? = some (.cells #[.slice ao n cap, .int .i64 root] 24 (0, 0)) ∧ wr.heap[w.heap.size + 1]? = some (.cells #[.slice none 0 0, .int .i64 0] 24 (0, 0)) ∧ Below w.heap.size w wr)
  case atStart =>
    obtain ⟨t2, t0, t1, tb⟩ := three w (.cells #[.slice ao n cap, .int .i64 root] 24) (.cells #[.slice none 0 0, .int .i64 0] 24) (.cells #[.slice none 0 0, .int .i64 root] 24)
    exact ⟨0, .slice none 0 0, [], rfl, rfl, Nat.zero_le _, rfl, fun q h => by simp at h, ⟨World.ownsRow_nil _ _ _ _, fun r h => by cases h⟩, t2, t0, t1, tb⟩
  case round =>
    obtain ⟨k, u, rs, rfl, rfl, hk, hmap, hfine, hown, h2, h0, h1, hb⟩ := hrel
    have HO := Lib.hid hown
    have HM := Lib.hid hmap
    have HF := Lib.hid hfine
    have HB := Lib.hid hb
    have H2 := Lib.hid h2
    have H1 := Lib.hid h1
    have H0 := Lib.hid h0
    have hsz : w.heap.size + 1 + 1 < wr.heap.size := by
      rcases Nat.lt_or_ge (w.heap.size + 1 + 1) wr.heap.size with h | h
      · exact h
      · rw [Array.getElem?_eq_none h] at h2; cases h2
    have c00 := cell_of h0 0 (.slice ao n cap) rfl
    have c20 := cell_of h2 0 u rfl
    have c21 := cell_of h2 1 (.int .i64 root) rfl
    clear hown hmap hfine hb h0 h1 h2
    by_cases hlt : k < n
    · have hlt' : (k : Int) < n := by omega
      have hkl : k < l.length := by have := HN.out; omega
      obtain ⟨g, off, hg, rfl, hnd⟩ := HC.out (fun h => by rw [h] at hkl; cases hkl)
      have hnk := hnd k hkl
      obtain ⟨q, hq⟩ : ∃ q, l[k]'hkl = q := ⟨_, rfl⟩
      rw [hq] at hnk
      have HQ := Lib.hid hq
      clear hq
      obtain ⟨vn, vk, d0, d1, d2, d3, d4, d5, hln, hlk, hpure⟩ := hnk
      have HLN := Lib.hid hln
      have HLK := Lib.hid hlk
      have hpn : ∃ a c, vn = .slice a q.names.length c := by obtain ⟨a, c, h, _⟩ := hln; exact ⟨a, c, by rw [h, List.length_map]⟩
      have hpk : ∃ a c, vk = .slice a q.kids.length c := by obtain ⟨a, c, h, _⟩ := hlk; exact ⟨a, c, by rw [h, List.length_map]⟩
      have HP := Lib.hid hpure
      clear hln hlk hpure hnd
      have hgw := HB.out
      rw [← hgw.cell (p := ⟨g, _, none⟩) hg] at d0 d1 d2 d3 d4 d5
      clear hgw
      obtain ⟨an, cn, rfl⟩ := hpn
      obtain ⟨ak, ck, rfl⟩ := hpk
      go_wp2_with fail
      have hal : Below wr.heap.size wr (wr.alloc (.cells #[.int .u8 q.k, .int .i64 q.n, .string q.name, (.slice an q.names.length cn), (.slice ak q.kids.length ck), .int .i64 q.line] 30)) := (Below.refl _ _).alloc (Nat.le_refl _) _
      have hX := new_block wr (.cells #[.int .u8 q.k, .int .i64 q.n, .string q.name, (.slice an q.names.length cn), (.slice ak q.kids.length ck), .int .i64 q.line] 30)
      have hXs : wr.heap.size < (wr.alloc (.cells #[.int .u8 q.k, .int .i64 q.n, .string q.name, (.slice an q.names.length cn), (.slice ak q.kids.length ck), .int .i64 q.line] 30)).heap.size := by simp
      have ct := copy_texts (.slice an q.names.length cn) q.names _ ((HLN.out.below HB.out).below hal) (by have := HP.out.2.2.2.2.2.1; omega)
      generalize (wr.alloc (.cells #[.int .u8 q.k, .int .i64 q.n, .string q.name, (.slice an q.names.length cn), (.slice ak q.kids.length ck), .int .i64 q.line] 30)) = w3 at *
      clear d0 d1 d2 d3 d4 d5
      refine ct.mono ?_
      rintro e w4 ⟨vn', rfl, hon, hb4⟩
      obtain ⟨an2, cn2, rfl⟩ := own_slice hon
      have hX4 : w4.heap[wr.heap.size]? = some (.cells #[.int .u8 q.k, .int .i64 q.n, .string q.name, (.slice an q.names.length cn), (.slice ak q.kids.length ck), .int .i64 q.line] 30 (0, 0)) := (hb4.block _ hXs).trans hX
      have d4 := cell_of hX4 4 (.slice ak q.kids.length ck) rfl
      have f3 := free_of hX4 3
      have d3 := cell_of hX4 3 (.slice an q.names.length cn) rfl
      have hX5 := Joins.block_setCell (i := 3) hX4 (.slice an2 q.names.length cn2)
      have hb5 : Below wr.heap.size wr (w4.setCell ⟨wr.heap.size, 3, none⟩ (.slice an2 q.names.length cn2)) := (trans5 hal hb4).setCell (Nat.le_refl _) _
      have HXS := Lib.hid hXs
      have hon5 := ownsRow_setCell_below hon (a := ⟨wr.heap.size, 3, none⟩) hXs (.slice an2 q.names.length cn2)
      have hs5 : wr.heap.size < (w4.setCell ⟨wr.heap.size, 3, none⟩ (.slice an2 q.names.length cn2)).heap.size := by rcases Nat.lt_or_ge wr.heap.size (w4.setCell ⟨wr.heap.size, 3, none⟩ (.slice an2 q.names.length cn2)).heap.size with h | h; exact h; rw [Array.getElem?_eq_none h] at hX5; cases hX5
      have HON5 := Lib.hid hon5
      have HB5 := Lib.hid hb5
      have HX5 := Lib.hid hX5
      have ck2 := fun w' hL => copy_ints (.slice ak q.kids.length ck) q.kids w' hL (by have := HP.out.2.2.2.2.2.2.1; omega)
      clear hon hb4 hX4 hX hXs hal ct hX5 hb5 hon5
      go_wp2_with fail
      have HLK5 := (HLK.out.below HB.out).below HB5.out
      clear d3 d4 f3
      generalize (w4.setCell ⟨wr.heap.size, 3, none⟩ (.slice an2 q.names.length cn2)) = w5 at *
      refine (ck2 _ HLK5).mono ?_
      rintro e w6 ⟨vk', rfl, hok, hb6⟩
      obtain ⟨ak2, ck3, rfl⟩ := own_slice hok
      have hX6 := (hb6.block _ hs5).trans HX5.out
      have f4 := free_of hX6 4
      have d4 := cell_of hX6 4 (.slice ak q.kids.length ck) rfl
      have hX7 := Joins.block_setCell (i := 4) hX6 (.slice ak2 q.kids.length ck3)
      have hb7 : Below wr.heap.size wr (w6.setCell ⟨wr.heap.size, 4, none⟩ (.slice ak2 q.kids.length ck3)) := (trans5 HB5.out hb6).setCell (Nat.le_refl _) _
      have hon7 := ownsRow_setCell_below (own_below5 HON5.out hb6) (a := ⟨wr.heap.size, 4, none⟩) HXS.out (.slice ak2 q.kids.length ck3)
      have hok7 := ownsRow_setCell_below hok (a := ⟨wr.heap.size, 4, none⟩) hs5 (.slice ak2 q.kids.length ck3)
      have e0 := cell_of hX7 0 (.int .u8 q.k) rfl
      have e1 := cell_of hX7 1 (.int .i64 q.n) rfl
      have e2 := cell_of hX7 2 (.string q.name) rfl
      have e3 := cell_of hX7 3 (.slice an2 q.names.length cn2) rfl
      have e4 := cell_of hX7 4 (.slice ak2 q.kids.length ck3) rfl
      have e5 := cell_of hX7 5 (.int .i64 q.line) rfl
      have H27 := Lib.hid ((hb7.block _ hsz).trans H2.out)
      have g20 := cell_of H27.out 0 u rfl
      have HB7 := Lib.hid hb7
      have HSUB := Lib.hid (show Sub (w6.setCell ⟨wr.heap.size, 4, none⟩ (.slice ak2 q.kids.length ck3)) (q, (.slice an2 q.names.length cn2), (.slice ak2 q.kids.length ck3)) from ⟨ownsRow_base hon7 (Nat.zero_le _), ownsRow_base hok7 (Nat.zero_le _)⟩)
      have HO7 := Lib.hid (HO.out.below hb7)
      clear hb7 hon7 hok7 hX7 hX6 hok hb6 HX5 HON5 HLK5 ck2 HB5 HLK HLN c00 c20 c21
      obtain ⟨au, cu, rfl⟩ := own_slice HO.out.1
      have HRL := Lib.hid (show rs.length = k from by have := congrArg List.length HM.out; rw [List.length_map, List.length_take] at this; have := HN.out; omega)
      have HGW := Lib.hid (show w6.heap.size = (w6.setCell ⟨wr.heap.size, 4, none⟩ (.slice ak2 q.kids.length ck3)).heap.size from by simp [World.setCell])
      have HZ7 := Lib.hid (show w.heap.size + 3 ≤ (w6.setCell ⟨wr.heap.size, 4, none⟩ (.slice ak2 q.kids.length ck3)).heap.size from by have := HB7.out.size; omega)
      go_wp2_with (at_builtin; go_loud (refine wpList_append_node rfl (.tmp 30) (.tmp 32) rfl (w.heap.size + 3) (.slice au rs.length cu) rs (q, (.slice an2 q.names.length cn2), (.slice ak2 q.kids.length ck3)) rfl HO7.out HSUB.out _ rfl HGW.out ?h1 HZ7.out ?_))
      case h1 => have := HRL.out; omega
      intro v8 w8 ho8 hb8
      obtain ⟨rs2, hrs2⟩ : ∃ rs2, rs2 = rs ++ [((q, (Value.slice an2 q.names.length cn2), (Value.slice ak2 q.kids.length ck3)) : R3)] := ⟨_, rfl⟩
      rw [← hrs2] at ho8
      have HM2 := Lib.hid (show rs2.map (·.1) = l.take (k + 1) from by rw [hrs2, List.map_append, HM.out, List.take_succ_eq_append_getElem hkl, HQ.out]; rfl)
      have HF2 := Lib.hid (show ∀ x ∈ l.take (k + 1), Fine x from fun x hx => by
        rw [List.take_succ_eq_append_getElem hkl] at hx
        rcases List.mem_append.1 hx with hx | hx
        · exact HF.out x hx
        · rw [List.mem_singleton.1 hx, HQ.out]; exact HP.out)
      have hrl2 : rs2.length = k + 1 := by rw [hrs2, List.length_append, List.length_singleton, HRL.out]
      clear hrs2
      obtain ⟨au8, cu8, rfl⟩ := own_slice ho8.1
      rw [hrl2] at ho8
      have h28 := (hb8.block (w.heap.size + 1 + 1) (by omega)).trans H27.out
      have f20 := free_of h28 0
      have c20 := cell_of h28 0 (.slice au rs.length cu) rfl
      have H29 := Lib.hid (Joins.block_setCell (i := 0) h28 (.slice au8 (k + 1) cu8))
      have HO9 := Lib.hid (show OwnNd (w8.setCell ⟨w.heap.size + 1 + 1, 0, none⟩ (.slice au8 (k + 1) cu8)) (w.heap.size + 3) (.slice au8 (k + 1) cu8) rs2 from ⟨ownsRow_setCell_below (a := ⟨w.heap.size + 1 + 1, 0, none⟩) ho8.1 (by show w.heap.size + 1 + 1 < _; omega) _, fun r hr => (ho8.2 r hr).set h28 (by decide) (by decide)⟩)
      have HB9 := Lib.hid (((HB.out.trans (HB7.out.mono HB.out.size)).trans (hb8.mono (by omega))).setCell (p := ⟨w.heap.size + 1 + 1, 0, none⟩) (by show w.heap.size ≤ w.heap.size + 1 + 1; omega) (.slice au8 (k + 1) cu8))
      have H10 := Lib.hid (show (w8.setCell ⟨w.heap.size + 1 + 1, 0, none⟩ (.slice au8 (k + 1) cu8)).heap[w.heap.size]? = _ from (Below.heap_setCell _ _ _ _ (by show w.heap.size ≠ w.heap.size + 1 + 1; omega)).trans ((hb8.block _ (by omega)).trans ((HB7.out.block _ (by omega)).trans H0.out)))
      have H11 := Lib.hid (show (w8.setCell ⟨w.heap.size + 1 + 1, 0, none⟩ (.slice au8 (k + 1) cu8)).heap[w.heap.size + 1]? = _ from (Below.heap_setCell _ _ _ _ (by show w.heap.size + 1 ≠ w.heap.size + 1 + 1; omega)).trans ((hb8.block _ (by omega)).trans ((HB7.out.block _ (by omega)).trans H1.out)))
      clear ho8 hb8 h28 e0 e1 e2 e3 e4 e5 g20 f4
      go_wp2_with fail
      go_roundg (n - (k + 1))
      case measure => omega
      case rel => exact ⟨k + 1, _, _, rfl, by go_num, by omega, HM2.out, HF2.out, HO9.out, H29.out, H10.out, H11.out, HB9.out⟩
    · obtain rfl : k = n := by omega
      have hlt' : ¬ (k : Int) < k := by omega
      have f10 := free_of H1.out 0
      have f11 := free_of H1.out 1
      have c10 := cell_of H1.out 0 (.slice none 0 0) rfl
      have c11 := cell_of H1.out 1 (.int .i64 0) rfl
      obtain ⟨au, cu, rfl⟩ := own_slice HO.out.1
      go_wp2_with fail
      have i1 := Joins.block_setCell (i := 0) H1.out (.slice au rs.length cu)
      have i2 := Joins.block_setCell (i := 1) i1 (.int .i64 root)
      have x0 := cell_of i2 0 (.slice au rs.length cu) rfl
      have x1 := cell_of i2 1 (.int .i64 root) rfl
      refine bodyPost_ret (v := .agg #[.slice au rs.length cu, .int .i64 root]) (by simp [results, Try.results28, go_sem, x0, x1]) rfl ?_
      have htk : l.take k = l := List.take_of_length_le (by rw [HN.out]; exact Nat.le_refl _)
      refine ⟨_, rfl, rs, ⟨ownsRow_base (ownsRow_setCell_below (a := ⟨w.heap.size + 1, 1, none⟩) (ownsRow_setCell_below (a := ⟨w.heap.size + 1, 0, none⟩) HO.out.1 (by show w.heap.size + 1 < _; omega) _) (by show w.heap.size + 1 < _; omega) _) (by omega), fun r hr => ((HO.out.2 r hr).set H1.out (by decide) (by decide)).set i1 (by decide) (by decide)⟩, by rw [HM.out, htk], by have := HF.out; rwa [htk] at this, (HB.out.setCell (p := ⟨w.heap.size + 1, 0, none⟩) (by show w.heap.size ≤ w.heap.size + 1; omega) _).setCell (p := ⟨w.heap.size + 1, 1, none⟩) (by show w.heap.size ≤ w.heap.size + 1; omega) _⟩

end Go.Proofs.Ytmddffacjkkeiaa.Nd
