/-
  Layer 13: a place untied, a place tied in at the end.
-/
import Derived.Test.YtlpbciclkagnbaaTdAt
namespace Go.Proofs.Ytlpbciclkagnbaa.Td
open Go Go.RowKit Go.Proofs.Ytlpbciclkagnbaa.Pl Go.Proofs.Ytlpbciclkagnbaa.Tb

/-- What stands ahead of what is behind these; what stands behind what is ahead of these. -/
def prevA (b : Nat) (l : List Plc) : Addr := match l.getLast? with | none => endA b | some q => adr q
def nextA (b : Nat) : List Plc → Addr | [] => endA b | q :: _ => adr q
theorem prev_split (b : Nat) (l : List Plc) : ∃ P, endA b :: l.map adr = P ++ [prevA b l] := by
  unfold prevA
  rcases List.eq_nil_or_concat l with rfl | ⟨L, a, rfl⟩
  · exact ⟨[], rfl⟩
  · refine ⟨endA b :: L.map adr, ?_⟩
    rw [List.concat_eq_append, List.getLast?_append]
    simp
theorem next_split (b : Nat) : ∀ (l : List Plc), ∃ S, l.map adr ++ [endA b] = nextA b l :: S
  | [] => ⟨[], rfl⟩
  | _ :: l => ⟨l.map adr ++ [endA b], rfl⟩
theorem prev_mem (b : Nat) (l : List Plc) : prevA b l ∈ endA b :: l.map adr := by
  obtain ⟨P, h⟩ := prev_split b l
  rw [h]
  exact List.mem_append_right _ (List.mem_singleton.2 rfl)
theorem next_mem (b : Nat) (l : List Plc) : nextA b l ∈ l.map adr ++ [endA b] := by
  obtain ⟨S, h⟩ := next_split b l
  rw [h]
  exact List.mem_cons_self ..
theorem prev_is (b : Nat) (l : List Plc) : prevA b l = endA b ∨ ∃ q ∈ l, prevA b l = adr q := by
  rcases List.mem_cons.1 (prev_mem b l) with h | h
  · exact .inl h
  · obtain ⟨q, hq, e⟩ := List.mem_map.1 h
    exact .inr ⟨q, hq, e.symm⟩
theorem next_is (b : Nat) (l : List Plc) : nextA b l = endA b ∨ ∃ q ∈ l, nextA b l = adr q := by
  cases l with
  | nil => exact .inl rfl
  | cons q l => exact .inr ⟨q, List.mem_cons_self .., rfl⟩
theorem last_ne : ∀ (P : List Addr) (x : Addr), ((P ++ [x]).map (·.block)).Nodup → ∀ z ∈ P, z.block ≠ x.block := by
  intro P x h z hz e
  rw [List.map_append, List.nodup_append] at h
  exact h.2.2 z.block (List.mem_map.2 ⟨z, hz, rfl⟩) x.block (by simp) e
theorem head_ne : ∀ (S : List Addr) (y : Addr), ((y :: S).map (·.block)).Nodup → ∀ z ∈ S, z.block ≠ y.block := by
  intro S y h z hz e
  rw [List.map_cons, List.nodup_cons] at h
  exact h.1 (by rw [← e]; exact List.mem_map.2 ⟨z, hz, rfl⟩)
theorem map_adr_b (l : List Plc) : (l.map adr).map (·.block) = l.map (·.b) := by rw [List.map_map]; rfl
theorem tail_last {α : Type} (P : List α) (x : α) (a : α) (U : List α) (h : a :: U = P ++ [x]) : (P ++ [x]).tail = U ∧ (P ++ [x]).dropLast = P := by
  rw [← h, List.tail_cons, h, List.dropLast_concat]
  exact ⟨rfl, rfl⟩
theorem nd_prev {b : Nat} {l : List Plc} (hnd : (l.map (·.b)).Nodup) (hb : ∀ q ∈ l, q.b ≠ b) : ((endA b :: l.map adr).map (·.block)).Nodup := by
  rw [List.map_cons, map_adr_b, List.nodup_cons]
  refine ⟨fun h => ?_, hnd⟩
  obtain ⟨q, hq, e⟩ := List.mem_map.1 h
  exact hb q hq e
theorem nd_next {b : Nat} {l : List Plc} (hnd : (l.map (·.b)).Nodup) (hb : ∀ q ∈ l, q.b ≠ b) : ((l.map adr ++ [endA b]).map (·.block)).Nodup := by
  rw [List.map_append, map_adr_b, List.nodup_append]
  refine ⟨hnd, by simp, fun x hx y hy e => ?_⟩
  obtain ⟨q, hq, e2⟩ := List.mem_map.1 hx
  have hy : y = b := by simpa [endA] using hy
  exact hb q hq (by rw [e2, e, hy])
/-- Of these all have one place in a block. -/
theorem one_off {b : Nat} {l : List Plc} (hb : ∀ q ∈ l, q.b ≠ b) {z x : Addr} (hz : z = endA b ∨ ∃ p ∈ l, z = adr p) (hx : x = endA b ∨ ∃ p ∈ l, x = adr p) : z.block = x.block → z.off = x.off := by
  intro e
  rcases hz with rfl | ⟨p, hp, rfl⟩
  · rcases hx with rfl | ⟨q, hq, rfl⟩
    · rfl
    · exact absurd e.symm (hb q hq)
  · rcases hx with rfl | ⟨q, hq, rfl⟩
    · exact absurd e (hb p hp)
    · rfl
theorem mem_prev {b : Nat} {l : List Plc} {z : Addr} (hz : z ∈ endA b :: l.map adr) : z = endA b ∨ ∃ p ∈ l, z = adr p := ends_mem (List.mem_append_left _ hz)
theorem mem_next {b : Nat} {l : List Plc} {z : Addr} (hz : z ∈ l.map adr ++ [endA b]) : z = endA b ∨ ∃ p ∈ l, z = adr p := ends_mem (b := b) (by rw [List.cons_append]; exact List.mem_cons_of_mem _ hz)
theorem spot_end {b : Nat} {l : List Plc} {z : Addr} (hz : z = endA b ∨ ∃ p ∈ l, z = adr p) : z = ⟨z.block, z.off, none⟩ := by
  rcases hz with rfl | ⟨p, hp, rfl⟩ <;> rfl
section
variable {w w' : World} {b mb g : Nat} {l l1 l2 : List Plc} {lv ln : Int} {p : Plc}
theorem TM.split (h : TM w b mb (l1 ++ p :: l2) lv ln) : Links w (endA b :: l1.map adr) ∧ Link w (prevA b l1) (adr p) ∧ Link w (adr p) (nextA b l2) ∧ Links w (l2.map adr ++ [endA b]) := by
  obtain ⟨P, hP⟩ := prev_split b l1
  obtain ⟨S, hS⟩ := next_split b l2
  have h0 := h.links
  rw [List.map_append, List.map_cons, show endA b :: (l1.map adr ++ adr p :: l2.map adr) ++ [endA b] = (endA b :: l1.map adr) ++ (adr p :: (l2.map adr ++ [endA b])) from by simp, hP, hS] at h0
  rw [show P ++ [prevA b l1] ++ adr p :: nextA b l2 :: S = P ++ prevA b l1 :: (adr p :: nextA b l2 :: S) from by simp, links_app, links_cons, links_cons] at h0
  rw [hP, hS]
  exact ⟨h0.1, h0.2.1, h0.2.2.1, h0.2.2.2⟩
/-- The world behind both stores that untie a place. -/
def untied (w : World) (x y : Addr) : World := (w.setCell ⟨x.block, x.off + 5, none⟩ (.pointer (some y))).setCell ⟨y.block, y.off + 4, none⟩ (.pointer (some x))
theorem HeadAt.untie {x y : Addr} (h : HeadAt w b mb lv ln) (hb : ∀ q ∈ l, q.b ≠ b) (hx : x = endA b ∨ ∃ q ∈ l, x = adr q) (hy : y = endA b ∨ ∃ q ∈ l, y = adr q) (u v : Value) : HeadAt ((w.setCell ⟨x.block, x.off + 5, none⟩ u).setCell ⟨y.block, y.off + 4, none⟩ v) b mb lv ln := by
  have h1 : HeadAt (w.setCell ⟨x.block, x.off + 5, none⟩ u) b mb lv ln := by
    rcases hx with rfl | ⟨q, hq, rfl⟩
    · exact h.tie (by simp [endA]) (by simp [endA])
    · exact h.off (hb q hq)
  rcases hy with rfl | ⟨q, hq, rfl⟩
  · exact h1.tie (by simp [endA]) (by simp [endA])
  · exact h1.off (hb q hq)
theorem NodeAt.untie {x y : Addr} {q : Plc} (h : NodeAt w q) (hq : q.b ≠ b) (hx : x = endA b ∨ ∃ q ∈ l, x = adr q) (hy : y = endA b ∨ ∃ q ∈ l, y = adr q) (u v : Value) : NodeAt ((w.setCell ⟨x.block, x.off + 5, none⟩ u).setCell ⟨y.block, y.off + 4, none⟩ v) q := by
  have h1 : NodeAt (w.setCell ⟨x.block, x.off + 5, none⟩ u) q := by
    rcases hx with rfl | ⟨r, hr, rfl⟩
    · exact h.off (Ne.symm hq)
    · exact h.tie (.inr rfl)
  rcases hy with rfl | ⟨r, hr, rfl⟩
  · exact h1.off (Ne.symm hq)
  · exact h1.tie (.inl rfl)
theorem split_nd (h : TM w b mb (l1 ++ p :: l2) lv ln) : (l1.map (·.b)).Nodup ∧ (l2.map (·.b)).Nodup ∧ (∀ q ∈ l1, ∀ r ∈ l2, q.b ≠ r.b) ∧ (∀ q ∈ l1, q.b ≠ p.b) ∧ (∀ q ∈ l2, q.b ≠ p.b) := by
  have h0 := h.nd
  rw [List.map_append, List.map_cons, List.nodup_append, List.nodup_cons] at h0
  obtain ⟨h1, ⟨h2, h3⟩, h4⟩ := h0
  refine ⟨h1, h3, fun q hq r hr e => ?_, fun q hq e => ?_, fun q hq e => ?_⟩
  · exact h4 q.b (List.mem_map.2 ⟨q, hq, rfl⟩) r.b (List.mem_cons_of_mem _ (List.mem_map.2 ⟨r, hr, rfl⟩)) e
  · exact h4 q.b (List.mem_map.2 ⟨q, hq, rfl⟩) p.b (List.mem_cons_self ..) e
  · exact h2 (by rw [← e]; exact List.mem_map.2 ⟨q, hq, rfl⟩)
theorem TM.untie (h : TM w b mb (l1 ++ p :: l2) lv ln) : Links (untied w (prevA b l1) (nextA b l2)) (endA b :: (l1 ++ l2).map adr ++ [endA b]) := by
  obtain ⟨i1, i2, i3, i4⟩ := h.split
  obtain ⟨P, hP⟩ := prev_split b l1
  obtain ⟨S, hS⟩ := next_split b l2
  obtain ⟨n1, n2, n3, _, _⟩ := split_nd h
  have hb : ∀ q ∈ l1 ++ p :: l2, q.b ≠ b := fun q hq => h.apart hq
  have hb1 : ∀ q ∈ l1, q.b ≠ b := fun q hq => hb q (List.mem_append_left _ hq)
  have hb2 : ∀ q ∈ l2, q.b ≠ b := fun q hq => hb q (List.mem_append_right _ (List.mem_cons_of_mem _ hq))
  have wide1 : ∀ {z : Addr}, (z = endA b ∨ ∃ q ∈ l1, z = adr q) → (z = endA b ∨ ∃ q ∈ l1 ++ p :: l2, z = adr q) := fun hz => hz.imp id (fun ⟨q, hq, e⟩ => ⟨q, List.mem_append_left _ hq, e⟩)
  have wide2 : ∀ {z : Addr}, (z = endA b ∨ ∃ q ∈ l2, z = adr q) → (z = endA b ∨ ∃ q ∈ l1 ++ p :: l2, z = adr q) := fun hz => hz.imp id (fun ⟨q, hq, e⟩ => ⟨q, List.mem_append_right _ (List.mem_cons_of_mem _ hq), e⟩)
  have hx := wide1 (prev_is b l1)
  have hy := wide2 (next_is b l2)
  obtain ⟨t1, t2⟩ := tail_last _ _ _ _ hP
  rw [show endA b :: (l1 ++ l2).map adr ++ [endA b] = (endA b :: l1.map adr) ++ (l2.map adr ++ [endA b]) from by simp, hP, hS, List.append_assoc, List.singleton_append, links_app]
  rw [hP] at i1
  rw [hS] at i4
  have mU : ∀ z ∈ P ++ [prevA b l1], z = endA b ∨ ∃ q ∈ l1, z = adr q := fun z hz => mem_prev (by rw [hP]; exact hz)
  have mV : ∀ z ∈ nextA b l2 :: S, z = endA b ∨ ∃ q ∈ l2, z = adr q := fun z hz => mem_next (by rw [hS]; exact hz)
  have oU : ∀ x', (x' = endA b ∨ ∃ q ∈ l1 ++ p :: l2, x' = adr q) → ∀ z ∈ P ++ [prevA b l1], z.block = x'.block → z.off = x'.off := fun x' hx' z hz => one_off hb (wide1 (mU z hz)) hx'
  have oV : ∀ x', (x' = endA b ∨ ∃ q ∈ l1 ++ p :: l2, x' = adr q) → ∀ z ∈ nextA b l2 :: S, z.block = x'.block → z.off = x'.off := fun x' hx' z hz => one_off hb (wide2 (mV z hz)) hx'
  refine ⟨?_, ⟨?_, ?_⟩, ?_⟩
  · refine links_set4 _ (oU _ hy) ?_ (links_set5 _ (oU _ hx) ?_ i1)
    · rw [t1]
      intro z hz e
      obtain ⟨q, hq, rfl⟩ := List.mem_map.1 hz
      rcases next_is b l2 with h1 | ⟨r, hr, h1⟩
      · rw [h1] at e; exact hb1 q hq e
      · rw [h1] at e; exact n3 q hq r hr e
    · rw [t2]
      exact last_ne P _ (by rw [← hP]; exact nd_prev n1 hb1)
  · refine cell_keep (cell_put i2.1) (addr_ne45 (one_off hb hx hy))
  · exact cell_put (cell_keep i3.2 (addr_ne54 (one_off hb hy hx)))
  · refine links_set4 _ (oV _ hy) ?_ (links_set5 _ (oV _ hx) ?_ i4)
    · rw [List.tail_cons]
      exact head_ne S _ (by rw [← hS]; exact nd_next n2 hb2)
    · rw [← hS, List.dropLast_concat]
      intro z hz e
      obtain ⟨q, hq, rfl⟩ := List.mem_map.1 hz
      rcases prev_is b l1 with h1 | ⟨r, hr, h1⟩
      · rw [h1] at e; exact hb2 q hq e
      · rw [h1] at e; exact n3 r hr q hq e.symm
end
end Go.Proofs.Ytlpbciclkagnbaa.Td
