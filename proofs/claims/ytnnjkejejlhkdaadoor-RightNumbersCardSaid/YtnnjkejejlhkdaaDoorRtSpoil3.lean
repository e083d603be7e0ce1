/-
  Layer 9: the spoilt pair 4, as it lies.
-/
import Derived.Test.YtnnjkejejlhkdaaDoorRtGrow
namespace Go.Proofs.YtnnjkejejlhkdaaDoor.Rt
open Go Go.RowKit

theorem pg_4 {q : Nat} {w : World} {ve : Value} (h : PairNo5 q #[.bool true, .bool false] #[.int .u8 9, sl (q + 2) 1, nilS, sl (q + 3) 1, .int .i64 (-1), .int .i64 0, .int .i64 1] #[.bool true, .int .i64 0] #[.int .u8 10, nilS, nilS, sl (q + 8) 1, .int .i64 (-1), .int .i64 0, .int .i64 1] #[.int .u8 9, .int .i64 0, nilS] #[.int .i64 0, .bool true, .int .i64 2, sl (q + 1) 2, nilS, sl (q + 4) 1, ve, .int .i64 0, .int .i64 1, .bool false, .int .i64 1, sl (q + 6) 1, sl (q + 7) 1, sl (q + 9) 1, sl (q + 10) 1, .int .i64 0] w) (hv : w.ownsRow (q + 1) 41 3 ve 2 [.int .u8 7, .int .i64 1, nilS, .int .u8 7, .int .i64 1, nilS]) : PgV w.heap.size w (.agg #[nilS, sl (q + 11) 2]) (spoiltP 4) :=
  two_pg (strs := []) (xc := #[.int .i64 0, .bool true, .int .i64 2, sl (q + 1) 2, nilS, sl (q + 4) 1, ve, .int .i64 0]) (yc := #[.int .i64 1, .bool false, .int .i64 1, sl (q + 6) 1, sl (q + 7) 1, sl (q + 9) 1, sl (q + 10) 1, .int .i64 0]) lst_nil (by rw [h.b11]; rfl)
    ⟨_, _, _, _, rfl, lst_of (vs := [.bool true, .bool false]) h.b1 (by unfold Len; decide), rows_nil, (rows_one (a := (⟨9, [1], [], [0], -1, 0, 1⟩ : St)) h.b4 rfl
      ⟨_, _, _, rfl, (lst_of (vs := [.int .i64 1]) h.b2 (by unfold Len; decide)), lst_nil, (lst_of (vs := [.int .i64 0]) h.b3 (by unfold Len; decide)), (show 9 < 256 by decide), (fun c h => by rw [List.mem_singleton.1 h]; exact ⟨by decide, by decide⟩), (fun c h => by cases h), (fun c h => by rw [List.mem_singleton.1 h]; exact ⟨by decide, by decide⟩), ⟨by decide, by decide⟩, ⟨by decide, by decide⟩, ⟨by decide, by decide⟩⟩), (rows_own (css := [#[.int .u8 7, .int .i64 1, nilS], #[.int .u8 7, .int .i64 1, nilS]]) (l := ([⟨7, 1, []⟩, ⟨7, 1, []⟩] : List Ex)) hv rfl rfl (fun cs hc => by
      simp only [List.mem_cons, List.not_mem_nil, or_false] at hc
      rcases hc with rfl | rfl <;> rfl) rfl (show 0 < 2 by decide) (show 2 ≤ 9223372036854775807 by decide) (fun i hi _ => by
      match i, hi with
      | 0, _ => exact (show ExC w.heap.size w #[.int .u8 7, .int .i64 1, nilS] ⟨7, 1, []⟩ from ⟨_, rfl, lst_nil, (show 7 < 256 by decide), ⟨by decide, by decide⟩, (fun c h => by cases h)⟩)
      | 1, _ => exact (show ExC w.heap.size w #[.int .u8 7, .int .i64 1, nilS] ⟨7, 1, []⟩ from ⟨_, rfl, lst_nil, (show 7 < 256 by decide), ⟨by decide, by decide⟩, (fun c h => by cases h)⟩))), ⟨by decide, by decide⟩, ⟨by decide, by decide⟩, ⟨by decide, by decide⟩⟩
    ⟨_, _, _, _, rfl, lst_of (vs := [.bool false]) h.b6 (by unfold Len; decide), (rows_one (a := (⟨true, 0⟩ : Up)) h.b7 rfl
      ⟨rfl, ⟨by decide, by decide⟩⟩), (rows_one (a := (⟨10, [], [], [0], -1, 0, 1⟩ : St)) h.b9 rfl
      ⟨_, _, _, rfl, lst_nil, lst_nil, (lst_of (vs := [.int .i64 0]) h.b8 (by unfold Len; decide)), (show 10 < 256 by decide), (fun c h => by cases h), (fun c h => by cases h), (fun c h => by rw [List.mem_singleton.1 h]; exact ⟨by decide, by decide⟩), ⟨by decide, by decide⟩, ⟨by decide, by decide⟩, ⟨by decide, by decide⟩⟩), (rows_one (a := (⟨9, 0, []⟩ : Ex)) h.b10 rfl
      ⟨_, rfl, lst_nil, (show 9 < 256 by decide), ⟨by decide, by decide⟩, (fun c h => by cases h)⟩), ⟨by decide, by decide⟩, ⟨by decide, by decide⟩, ⟨by decide, by decide⟩⟩
theorem pg_16 {q : Nat} {w : World} {ve : Value} {r : Nat} (h : PairNo5 q #[.bool true, .bool false] #[.int .u8 10, nilS, nilS, sl r 2, .int .i64 (-1), .int .i64 0, .int .i64 1] #[.bool true, .int .i64 0] #[.int .u8 10, nilS, nilS, sl (q + 8) 1, .int .i64 (-1), .int .i64 0, .int .i64 1] #[.int .u8 9, .int .i64 0, nilS] #[.int .i64 0, .bool true, .int .i64 2, sl (q + 1) 2, nilS, sl (q + 4) 1, ve, .int .i64 0, .int .i64 1, .bool false, .int .i64 1, sl (q + 6) 1, sl (q + 7) 1, sl (q + 9) 1, sl (q + 10) 1, .int .i64 0] w) (e14 : w.heap[r]? = some (.cells #[.int .i64 0, .int .i64 1] 3 (0, 0))) (hv : w.ownsRow (q + 1) 41 3 ve 2 [.int .u8 7, .int .i64 1, nilS, .int .u8 7, .int .i64 1, nilS]) : PgV w.heap.size w (.agg #[nilS, sl (q + 11) 2]) (spoiltP 16) :=
  two_pg (strs := []) (xc := #[.int .i64 0, .bool true, .int .i64 2, sl (q + 1) 2, nilS, sl (q + 4) 1, ve, .int .i64 0]) (yc := #[.int .i64 1, .bool false, .int .i64 1, sl (q + 6) 1, sl (q + 7) 1, sl (q + 9) 1, sl (q + 10) 1, .int .i64 0]) lst_nil (by rw [h.b11]; rfl)
    ⟨_, _, _, _, rfl, lst_of (vs := [.bool true, .bool false]) h.b1 (by unfold Len; decide), rows_nil, (rows_one (a := (⟨10, [], [], [0, 1], -1, 0, 1⟩ : St)) h.b4 rfl
      ⟨_, _, _, rfl, lst_nil, lst_nil, (lst_of (vs := [.int .i64 0, .int .i64 1]) e14 (by unfold Len; decide)), (show 10 < 256 by decide), (fun c h => by cases h), (fun c h => by cases h), (fun c h => by
      simp only [List.mem_cons, List.not_mem_nil, or_false] at h
      rcases h with rfl | rfl <;> exact ⟨by decide, by decide⟩), ⟨by decide, by decide⟩, ⟨by decide, by decide⟩, ⟨by decide, by decide⟩⟩), (rows_own (css := [#[.int .u8 7, .int .i64 1, nilS], #[.int .u8 7, .int .i64 1, nilS]]) (l := ([⟨7, 1, []⟩, ⟨7, 1, []⟩] : List Ex)) hv rfl rfl (fun cs hc => by
      simp only [List.mem_cons, List.not_mem_nil, or_false] at hc
      rcases hc with rfl | rfl <;> rfl) rfl (show 0 < 2 by decide) (show 2 ≤ 9223372036854775807 by decide) (fun i hi _ => by
      match i, hi with
      | 0, _ => exact (show ExC w.heap.size w #[.int .u8 7, .int .i64 1, nilS] ⟨7, 1, []⟩ from ⟨_, rfl, lst_nil, (show 7 < 256 by decide), ⟨by decide, by decide⟩, (fun c h => by cases h)⟩)
      | 1, _ => exact (show ExC w.heap.size w #[.int .u8 7, .int .i64 1, nilS] ⟨7, 1, []⟩ from ⟨_, rfl, lst_nil, (show 7 < 256 by decide), ⟨by decide, by decide⟩, (fun c h => by cases h)⟩))), ⟨by decide, by decide⟩, ⟨by decide, by decide⟩, ⟨by decide, by decide⟩⟩
    ⟨_, _, _, _, rfl, lst_of (vs := [.bool false]) h.b6 (by unfold Len; decide), (rows_one (a := (⟨true, 0⟩ : Up)) h.b7 rfl
      ⟨rfl, ⟨by decide, by decide⟩⟩), (rows_one (a := (⟨10, [], [], [0], -1, 0, 1⟩ : St)) h.b9 rfl
      ⟨_, _, _, rfl, lst_nil, lst_nil, (lst_of (vs := [.int .i64 0]) h.b8 (by unfold Len; decide)), (show 10 < 256 by decide), (fun c h => by cases h), (fun c h => by cases h), (fun c h => by rw [List.mem_singleton.1 h]; exact ⟨by decide, by decide⟩), ⟨by decide, by decide⟩, ⟨by decide, by decide⟩, ⟨by decide, by decide⟩⟩), (rows_one (a := (⟨9, 0, []⟩ : Ex)) h.b10 rfl
      ⟨_, rfl, lst_nil, (show 9 < 256 by decide), ⟨by decide, by decide⟩, (fun c h => by cases h)⟩), ⟨by decide, by decide⟩, ⟨by decide, by decide⟩, ⟨by decide, by decide⟩⟩
theorem pg_13 {q : Nat} {w : World} {ve : Value} {r : Nat} (h : PairNo10 q #[.bool true, .bool false] #[.int .u8 9, sl (q + 2) 1, nilS, sl (q + 3) 1, .int .i64 (-1), .int .i64 0, .int .i64 1] #[.int .u8 7, .int .i64 1, nilS] #[.bool true, .int .i64 0] #[.int .u8 10, nilS, nilS, sl r 1, .int .i64 (-1), .int .i64 0, .int .i64 1] #[.int .i64 0, .bool true, .int .i64 2, sl (q + 1) 2, nilS, sl (q + 4) 1, sl (q + 5) 1, .int .i64 0, .int .i64 1, .bool false, .int .i64 1, sl (q + 6) 1, sl (q + 7) 1, sl (q + 9) 1, ve, .int .i64 0] w) (e13 : w.heap[q + 13]? = some (.cells #[.int .i64 0, .int .i64 1] 3 (0, 0))) (e15 : w.heap[r]? = some (.cells #[.int .i64 2] 3 (0, 0))) (hv : w.ownsRow (q + 1) 41 3 ve 3 [.int .u8 9, .int .i64 0, nilS, .int .u8 9, .int .i64 0, nilS, .int .u8 14, .int .i64 18, sl (q + 13) 2]) : PgV w.heap.size w (.agg #[nilS, sl (q + 11) 2]) (spoiltP 13) :=
  two_pg (strs := []) (xc := #[.int .i64 0, .bool true, .int .i64 2, sl (q + 1) 2, nilS, sl (q + 4) 1, sl (q + 5) 1, .int .i64 0]) (yc := #[.int .i64 1, .bool false, .int .i64 1, sl (q + 6) 1, sl (q + 7) 1, sl (q + 9) 1, ve, .int .i64 0]) lst_nil (by rw [h.b11]; rfl)
    ⟨_, _, _, _, rfl, lst_of (vs := [.bool true, .bool false]) h.b1 (by unfold Len; decide), rows_nil, (rows_one (a := (⟨9, [1], [], [0], -1, 0, 1⟩ : St)) h.b4 rfl
      ⟨_, _, _, rfl, (lst_of (vs := [.int .i64 1]) h.b2 (by unfold Len; decide)), lst_nil, (lst_of (vs := [.int .i64 0]) h.b3 (by unfold Len; decide)), (show 9 < 256 by decide), (fun c h => by rw [List.mem_singleton.1 h]; exact ⟨by decide, by decide⟩), (fun c h => by cases h), (fun c h => by rw [List.mem_singleton.1 h]; exact ⟨by decide, by decide⟩), ⟨by decide, by decide⟩, ⟨by decide, by decide⟩, ⟨by decide, by decide⟩⟩), (rows_one (a := (⟨7, 1, []⟩ : Ex)) h.b5 rfl
      ⟨_, rfl, lst_nil, (show 7 < 256 by decide), ⟨by decide, by decide⟩, (fun c h => by cases h)⟩), ⟨by decide, by decide⟩, ⟨by decide, by decide⟩, ⟨by decide, by decide⟩⟩
    ⟨_, _, _, _, rfl, lst_of (vs := [.bool false]) h.b6 (by unfold Len; decide), (rows_one (a := (⟨true, 0⟩ : Up)) h.b7 rfl
      ⟨rfl, ⟨by decide, by decide⟩⟩), (rows_one (a := (⟨10, [], [], [2], -1, 0, 1⟩ : St)) h.b9 rfl
      ⟨_, _, _, rfl, lst_nil, lst_nil, (lst_of (vs := [.int .i64 2]) e15 (by unfold Len; decide)), (show 10 < 256 by decide), (fun c h => by cases h), (fun c h => by cases h), (fun c h => by rw [List.mem_singleton.1 h]; exact ⟨by decide, by decide⟩), ⟨by decide, by decide⟩, ⟨by decide, by decide⟩, ⟨by decide, by decide⟩⟩), (rows_own (css := [#[.int .u8 9, .int .i64 0, nilS], #[.int .u8 9, .int .i64 0, nilS], #[.int .u8 14, .int .i64 18, sl (q + 13) 2]]) (l := ([⟨9, 0, []⟩, ⟨9, 0, []⟩, ⟨14, 18, [0, 1]⟩] : List Ex)) hv rfl rfl (fun cs hc => by
      simp only [List.mem_cons, List.not_mem_nil, or_false] at hc
      rcases hc with rfl | rfl | rfl <;> rfl) rfl (show 0 < 3 by decide) (show 3 ≤ 9223372036854775807 by decide) (fun i hi _ => by
      match i, hi with
      | 0, _ => exact (show ExC w.heap.size w #[.int .u8 9, .int .i64 0, nilS] ⟨9, 0, []⟩ from ⟨_, rfl, lst_nil, (show 9 < 256 by decide), ⟨by decide, by decide⟩, (fun c h => by cases h)⟩)
      | 1, _ => exact (show ExC w.heap.size w #[.int .u8 9, .int .i64 0, nilS] ⟨9, 0, []⟩ from ⟨_, rfl, lst_nil, (show 9 < 256 by decide), ⟨by decide, by decide⟩, (fun c h => by cases h)⟩)
      | 2, _ => exact (show ExC w.heap.size w #[.int .u8 14, .int .i64 18, sl (q + 13) 2] ⟨14, 18, [0, 1]⟩ from ⟨_, rfl, (lst_of (vs := [.int .i64 0, .int .i64 1]) e13 (by unfold Len; decide)), (show 14 < 256 by decide), ⟨by decide, by decide⟩, (fun c h => by
      simp only [List.mem_cons, List.not_mem_nil, or_false] at h
      rcases h with rfl | rfl <;> exact ⟨by decide, by decide⟩)⟩))), ⟨by decide, by decide⟩, ⟨by decide, by decide⟩, ⟨by decide, by decide⟩⟩

end Go.Proofs.YtnnjkejejlhkdaaDoor.Rt
