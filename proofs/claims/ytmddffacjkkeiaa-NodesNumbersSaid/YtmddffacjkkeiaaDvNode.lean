/-
  Layer 5: a node as a value; kindsOf, ownFits.
-/
import Derived.Test.YtmddffacjkkeiaaDvOwn
import Derived.Test.YtmddffacjkkeiaaDvMath
namespace Go.Proofs.Ytmddffacjkkeiaa.Nd
open Go Go.RowKit Go.ChangeShapes Go.WideShapes Go.Shelf

/-- A node as a value. -/
def NdV (w : World) (v : Value) (n : Nd) : Prop :=
  ∃ an cn ak ck, v = .agg #[.int .u8 (n.k : Int), .int .i64 n.n, .string n.name, .slice an n.names.length cn, .slice ak n.kids.length ck, .int .i64 n.line] ∧ Lst w (.slice an n.names.length cn) (n.names.map .string) ∧ Lst w (.slice ak n.kids.length ck) (n.kids.map (.int .i64)) ∧ Fine n
theorem NdV.below {w w' : World} {v : Value} {n : Nd} (h : NdV w v n) (hb : Below w.heap.size w w') : NdV w' v n := by
  obtain ⟨an, cn, ak, ck, e, h1, h2, h3⟩ := h
  exact ⟨an, cn, ak, ck, e, h1.below hb, h2.below hb, h3⟩
theorem Lst.slice {w : World} {v : Value} {vs : List Value} {n : Nat} (h : Lst w v vs) (hn : vs.length = n) : ∃ ao c, v = .slice ao n c := by
  obtain ⟨ao, c, e, _⟩ := h
  exact ⟨ao, c, by rw [e, hn]⟩
theorem Lst.at {w : World} {ao : Option Addr} {n c : Nat} {vs : List Value} (h : Lst w (.slice ao n c) vs) {j : Nat} (hj : j < vs.length) : ∃ g off, ao = some ⟨g, off, none⟩ ∧ w.cell? ⟨g, off + j, none⟩ = some vs[j] := by
  obtain ⟨ao', c', e, _, hc⟩ := h
  cases e
  obtain ⟨g, off, _, rfl, hx⟩ := hc (fun h => by rw [h] at hj; cases hj)
  exact ⟨g, off, rfl, hx j hj⟩
theorem Lst.int {w : World} {ao : Option Addr} {n c : Nat} {zs : List Int} (h : Lst w (.slice ao n c) (zs.map (.int .i64))) {j : Nat} (hj : j < zs.length) : ∃ g off, ao = some ⟨g, off, none⟩ ∧ w.cell? ⟨g, off + j, none⟩ = some (.int .i64 zs[j]) := by
  obtain ⟨g, off, e, hc⟩ := h.at (j := j) (by rw [List.length_map]; exact hj)
  exact ⟨g, off, e, by rw [hc, List.getElem_map]⟩
theorem Lst.text {w : World} {ao : Option Addr} {n c : Nat} {zs : List ByteArray} (h : Lst w (.slice ao n c) (zs.map .string)) {j : Nat} (hj : j < zs.length) : ∃ g off, ao = some ⟨g, off, none⟩ ∧ w.cell? ⟨g, off + j, none⟩ = some (.string zs[j]) := by
  obtain ⟨g, off, e, hc⟩ := h.at (j := j) (by rw [List.length_map]; exact hj)
  exact ⟨g, off, e, by rw [hc, List.getElem_map]⟩
/-- A node's cells, the slices' shapes with them. -/
theorem NdAt.open {w : World} {g o : Nat} {n : Nd} (h : NdAt w g o n) : ∃ an cn ak ck, w.cell? ⟨g, o, none⟩ = some (.int .u8 (n.k : Int)) ∧ w.cell? ⟨g, o + 1, none⟩ = some (.int .i64 n.n) ∧ w.cell? ⟨g, o + 2, none⟩ = some (.string n.name) ∧ w.cell? ⟨g, o + 3, none⟩ = some (.slice an n.names.length cn) ∧ w.cell? ⟨g, o + 4, none⟩ = some (.slice ak n.kids.length ck) ∧ w.cell? ⟨g, o + 5, none⟩ = some (.int .i64 n.line) ∧
    NdV w (.agg #[.int .u8 (n.k : Int), .int .i64 n.n, .string n.name, .slice an n.names.length cn, .slice ak n.kids.length ck, .int .i64 n.line]) n := by
  obtain ⟨vn, vk, c0, c1, c2, c3, c4, c5, hn, hk, hrest⟩ := h
  obtain ⟨an, cn, rfl⟩ := hn.slice (n := n.names.length) (by rw [List.length_map])
  obtain ⟨ak, ck, rfl⟩ := hk.slice (n := n.kids.length) (by rw [List.length_map])
  exact ⟨an, cn, ak, ck, c0, c1, c2, c3, c4, c5, an, cn, ak, ck, rfl, hn, hk, hrest⟩
theorem NodesAt.at {w : World} {ao : Option Addr} {n c : Nat} {l : List Nd} (h : NodesAt w (.slice ao n c) l) {j : Nat} (hj : j < l.length) : ∃ g off, g < w.heap.size ∧ ao = some ⟨g, off, none⟩ ∧ NdAt w g (off + j * 6) (at' l (j : Int)) := by
  obtain ⟨ao', c', e, _, hc⟩ := h
  cases e
  obtain ⟨g, off, hg, rfl, hx⟩ := hc (fun h => by rw [h] at hj; cases hj)
  exact ⟨g, off, hg, rfl, by rw [at_nat hj]; exact hx j hj⟩
theorem SynAt.open {w : World} {v : Value} {l : List Nd} {root : Int} (h : SynAt w v l root) : ∃ ao c, v = .agg #[.slice ao l.length c, .int .i64 root] ∧ NodesAt w (.slice ao l.length c) l ∧ In64 root := by
  obtain ⟨v0, rfl, ⟨ao, c, rfl, h1, h2⟩, h3⟩ := h
  exact ⟨ao, c, rfl, ⟨ao, c, rfl, h1, h2⟩, h3⟩

theorem infoKind : (Try.prog.info? 26).map (fun i => (i.zero, i.size, i.bytes)) = some (some (.int .u8 0), 1, 1) := by kernel_rfl
theorem kl_own {w : World} {b : Nat} {v : Value} {ks : List Nat} (h : w.ownsRow b 26 1 v ks.length (ks.map fun (k : Nat) => Value.int .u8 (k : Int))) (hl : ks.length ≤ 1000000000) (h256 : ∀ k ∈ ks, k < 256) : Kl w v ks := by
  rcases h.2 with ⟨rfl, h0⟩ | ⟨g, cap, cur, rfl, _, hh, hcap, _, hsz, htk⟩
  · have : ks = [] := List.eq_nil_of_length_eq_zero h0
    subst this
    exact ⟨none, 0, rfl, Nat.le_refl _, by decide, (fun k hk => by cases hk), fun h => absurd rfl h⟩
  · refine ⟨_, cap, rfl, hcap, hl, h256, fun _ => ⟨g, 0, ?_, rfl, fun j hj => ?_⟩⟩
    · exact (Array.getElem?_eq_some_iff.1 hh).1
    · rw [Nat.zero_add, cell_of hh j (.int .u8 (ks[j] : Int))]
      have := congrArg (fun (l : List Value) => l[j]?) htk
      rw [Nat.mul_one] at this
      have this : (cur.toList.take ks.length)[j]? = (ks.map fun (k : Nat) => Value.int .u8 (k : Int))[j]? := this
      rw [List.getElem?_take, if_pos hj, Array.getElem?_toList, List.getElem?_map, List.getElem?_eq_getElem hj] at this
      exact this

set_option maxHeartbeats 2000000 in
theorem own_kindsOf (v vn : Value) (l : List Nd) (root : Int) (n : Nd) (w : World) (hS : SynAt w v l root) (hN : NdV w vn n) (hin : ∀ c ∈ n.kids, inR l c) (hl : n.kids.length ≤ 1000000) :
    Calls Try.prog 17 #[v, vn] w fun e w' => ∃ u, e = .returned u ∧ Kl w' u ((kinds l n).map (·.1)) ∧ Below w.heap.size w w' := by
  have HS0 := Lib.hid hS
  obtain ⟨ao, c, rfl, hNd, hr⟩ := hS.open
  obtain ⟨an, cn, ak, ck, rfl, hLn, hLk, hF⟩ := hN
  have HND := Lib.hid hNd
  have HLK := Lib.hid hLk
  have HIN := Lib.hid hin
  clear hS hNd hLn hLk hF hin hr HS0
  obtain ⟨m, hm⟩ : ∃ m, m = n.kids.length := ⟨_, rfl⟩
  obtain ⟨N, hN⟩ : ∃ N, N = l.length := ⟨_, rfl⟩
  rw [← hm] at hl
  rw [← hm] at HLK ⊢
  rw [← hN] at HND ⊢
  have HM := Lib.hid hm
  have HN := Lib.hid hN
  clear hm hN
  obtain ⟨S, hS⟩ : ∃ S : List Value, S = [] := ⟨_, rfl⟩
  go_enter Try.func17, Try.ntmps17
  go_wp2_with fail
  obtain ⟨w2, hw2⟩ : ∃ w2, w2 = (w.alloc (.cells #[.slice ao N c, .int .i64 root] 24)).alloc (.cells #[.int .u8 (n.k : Int), .int .i64 n.n, .string n.name, .slice an n.names.length cn, .slice ak m ck, .int .i64 n.line] 30) := ⟨_, rfl⟩
  rw [← hw2]
  have hB : Below w.heap.size w w2 := by rw [hw2]; exact ((Below.refl _ _).alloc (Nat.le_refl _) _).alloc (by simp) _
  have hbox : w2.heap[w.heap.size]? = some (.cells #[.slice ao N c, .int .i64 root] 24 (0, 0)) := by
    rw [hw2]; exact (Below.heap_alloc _ _ _ (by simp)).trans (new_block w _)
  have HB := Lib.hid hB
  have HBOX := Lib.hid hbox
  clear hw2 hB hbox hS S
  go_loopg [5, 11] m (fun r out i wr => ∃ k : Nat, r = m - k ∧ i = .int .i64 (k : Int) ∧ k ≤ m ∧ Below w2.heap.size w2 wr ∧ wr.ownsRow w2.heap.size 26 1 out k (((kinds l n).take k).map fun x => Value.int .u8 (x.1 : Int)))
  case atStart => exact ⟨0, rfl, rfl, Nat.zero_le _, Below.refl _ _, World.ownsRow_nil _ _ _ _⟩
  case round =>
    obtain ⟨k, rfl, rfl, hk, hb, hown⟩ := hrel
    have HO := Lib.hid hown
    have HBr := Lib.hid hb
    have hB2 := HB.out.trans (hb.mono HB.out.size)
    have HB2 := Lib.hid hB2
    have hbox := (hb.block _ (lt_of_get HBOX.out)).trans HBOX.out
    have c00 := cell_of hbox 0 (.slice ao N c) rfl
    obtain ⟨au, cu, rfl⟩ := own_slice hown
    clear hb hown hbox hB2
    by_cases hlt : k < m
    · have hlt' : (k : Int) < m := by omega
      have hkk : k < n.kids.length := by have := HM.out; omega
      obtain ⟨gk, offk, rfl, hck⟩ := (HLK.out.below HB2.out).int hkk
      obtain ⟨z, hz⟩ : ∃ z, n.kids[k] = z := ⟨_, rfl⟩
      rw [hz] at hck
      have hzin := HIN.out z (by rw [← hz]; exact List.getElem_mem hkk)
      obtain ⟨d, rfl, hd⟩ := of_inR hzin
      obtain ⟨g, off, hg, rfl, hnd⟩ := (HND.out.below HB2.out).at hd
      obtain ⟨_, _, _, _, e0, _⟩ := hnd.open
      have hdN : (d : Int) < N := by have := HN.out; omega
      have hd0 : (0 : Int) ≤ d := Int.natCast_nonneg d
      have hkind : (kinds l n).take (k + 1) = (kinds l n).take k ++ [((at' l (d : Int)).k, (at' l (d : Int)).n)] := by
        rw [List.take_add_one]
        unfold kinds
        rw [List.getElem?_map, List.getElem?_eq_getElem hkk, hz]
        rfl
      have HK := Lib.hid hkind
      clear hkind hzin hz hnd hd
      generalize (at' l (d : Int)).k = q at *
      go_wp2_with (at_builtin; refine wpList_append_one rfl (.tmp 15) (.tmp 22) 43 rfl w2.heap.size 26 (.int .u8 0) 1 Try.underlying43 infoKind rfl (.slice au k cu) k _ rfl HO.out (.int .u8 (q : Int)) rfl rfl ?_ ?_ HBr.out.size ?_)
      · unfold maxLen; omega
      · omega
      intro v' w' ho hgr
      have HO2 := Lib.hid ho
      have HB3 := Lib.hid (HBr.out.trans (below_appended HO.out hgr HBr.out.size))
      clear ho hgr
      go_wp2_with fail
      go_roundg (m - (k + 1))
      case measure => omega
      case rel => exact ⟨k + 1, rfl, by go_num, by omega, HB3.out, by rw [HK.out, List.map_append, List.map_take]; exact HO2.out⟩
    · obtain rfl : k = m := by omega
      have hlt' : ¬ (k : Int) < k := by omega
      go_wp2_with fail
      go_ret
      have hlen : ((kinds l n).map (·.1)).length = k := by unfold kinds; rw [List.length_map, List.length_map]; exact HM.out.symm
      have ho := HO.out
      rw [List.take_of_length_le (by rw [List.length_map] at hlen; omega)] at ho
      refine ⟨_, rfl, kl_own (b := w2.heap.size) (ks := (kinds l n).map (·.1)) (by rw [hlen, List.map_map]; exact ho) (by omega) ?_, HB2.out⟩
      intro q hq
      obtain ⟨x, hx, rfl⟩ := List.mem_map.1 hq
      unfold kinds at hx
      obtain ⟨z, hz, rfl⟩ := List.mem_map.1 hx
      obtain ⟨d, rfl, hd⟩ := of_inR (HIN.out z hz)
      obtain ⟨g, off, hg, _, hnd⟩ := HND.out.at hd
      obtain ⟨_, _, _, _, _, _, _, _, _, _, _, _, _, _, _, _, _, hfine⟩ := hnd.open
      exact hfine.1

end Go.Proofs.Ytmddffacjkkeiaa.Nd
