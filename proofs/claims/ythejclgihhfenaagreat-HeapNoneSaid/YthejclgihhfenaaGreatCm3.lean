import Derived.Test.YthejclgihhfenaaGreatCm2
import Derived.Deep.QuietTactic
import Derived.BigQuiet
import Derived.Deep.LoopGhost
import Derived.WalkSmall
import Derived.Deep.CutBlock
import Derived.Deep.DeepCutAuto
import Derived.StillTailTactics
import Derived.Deep.RegionHeld3
import Derived.WalkKit
import Derived.Laws.IdiomStrings
import Derived.Lib.DecodeN
/-
  Layer 14: what the calls of a heap say, whatever lies behind them.
-/
namespace Go.Proofs.YthejclgihhfenaaGreat.Hp
open Go Go.RowKit Go.Proofs.YthejclgihhfenaaGreat.Pl Go.Proofs.YthejclgihhfenaaGreat.Tb

def FreshIn (F F' : List Nat) (w : World) : Prop := ∀ x ∈ F', x ∈ F ∨ w.heap.size ≤ x
/-- A list of values as it lies in memory, from block B on. -/
def VlsAt (B : Nat) (w : World) (v : Value) (l : List Vl) : Prop := ∃ ao cap, v = .slice ao l.length cap ∧ (l.length ≤ cap ∧ Len l.length) ∧
  (l ≠ [] → ∃ g off, B ≤ g ∧ g < w.heap.size ∧ ao = some ⟨g, off, none⟩ ∧ ∀ (j : Nat) (h : j < l.length), w.cell? ⟨g, off + j * 2, none⟩ = some (.int .u8 (l[j].kind : Int)) ∧ w.cell? ⟨g, off + j * 2 + 1, none⟩ = some (.int .i64 l[j].n))
/-- HP w b h F: at block b lies the heap h, in the blocks F. -/
abbrev HeapP := World → Nat → Hp → List Nat → Prop
def NewHSays (HP : HeapP) (m : Int) (w : World) (e : Ending) (w' : World) : Prop :=
  ∃ b F, e = .returned (.tuple #[.pointer (some ⟨b, 0, none⟩), .int .i64 0]) ∧ HP w' b { max := m, obs := [] } F ∧ (∀ k ∈ F, w.heap.size ≤ k) ∧ Below w.heap.size w w'
/-- A call that changes the heap to h' and answers r. -/
def ChgSays (HP : HeapP) (b : Nat) (h' : Hp) (F : List Nat) (r : Value) (w : World) (e : Ending) (w' : World) : Prop :=
  e = .returned r ∧ ∃ F', HP w' b h' F' ∧ Turns F w w' ∧ FreshIn F F' w
def TellSays (r : Value) (w : World) (e : Ending) (w' : World) : Prop := e = .returned r ∧ Below w.heap.size w w'
def ListSays (l : List Vl) (w : World) (e : Ending) (w' : World) : Prop := ∃ v, e = .returned v ∧ VlsAt w.heap.size w' v l ∧ Below w.heap.size w w'
def two (v : Vl) (e : Int) : Value := .tuple #[v.val, .int .i64 e]
structure HeapSays (HP : HeapP) : Prop where
  mem : ∀ {w b h F}, HP w b h F → b ∈ F ∧ ∀ k ∈ F, k < w.heap.size
  keep : ∀ {w w' b h F G}, HP w b h F → Turns G w w' → (∀ k ∈ F, k ∉ G) → HP w' b h F
  new : ∀ (m : Int) (w : World), 1 ≤ m → m ≤ 16777216 → Calls Tryz.prog 5 #[.int .i64 m] w (NewHSays HP m w)
  str : ∀ {w b h F} (s : ByteArray), HP w b h F → Calls Tryz.prog 10 #[.pointer (some ⟨b, 0, none⟩), .string s] w (ChgSays HP b (strH h s).1 F (two (strH h s).2.1 (strH h s).2.2) w)
  table : ∀ {w b h F}, HP w b h F → Calls Tryz.prog 12 #[.pointer (some ⟨b, 0, none⟩)] w (ChgSays HP b (tableH h).1 F (two (tableH h).2.1 (tableH h).2.2) w)
  cell : ∀ {w b h F} (v : Vl), HP w b h F → v.In → Calls Tryz.prog 16 #[.pointer (some ⟨b, 0, none⟩), v.val] w (ChgSays HP b (cellH h v).1 F (two (cellH h v).2.1 (cellH h v).2.2) w)
  set : ∀ {w b h F} (t k v : Vl), HP w b h F → t.In → k.In → v.In → Calls Tryz.prog 20 #[.pointer (some ⟨b, 0, none⟩), t.val, k.val, v.val] w (ChgSays HP b (setH h t k v).1 F (.int .i64 (setH h t k v).2) w)
  store : ∀ {w b h F} (c v : Vl), HP w b h F → c.In → v.In → Calls Tryz.prog 24 #[.pointer (some ⟨b, 0, none⟩), c.val, v.val] w (ChgSays HP b (storeH h c v).1 F (.int .i64 (storeH h c v).2) w)
  free : ∀ {w b h F} (v : Vl), HP w b h F → v.In → Calls Tryz.prog 26 #[.pointer (some ⟨b, 0, none⟩), v.val] w (ChgSays HP b (freeH h v).1 F (.int .i64 (freeH h v).2) w)
  get : ∀ {w b h F} (t k : Vl), HP w b h F → t.In → k.In → Calls Tryz.prog 51 #[.pointer (some ⟨b, 0, none⟩), t.val, k.val] w (TellSays (getH h t k).val w)
  load : ∀ {w b h F} (c : Vl), HP w b h F → c.In → Calls Tryz.prog 53 #[.pointer (some ⟨b, 0, none⟩), c.val] w (TellSays (loadH h c).val w)
  has : ∀ {w b h F} (v : Vl), HP w b h F → v.In → Calls Tryz.prog 46 #[.pointer (some ⟨b, 0, none⟩), v.val] w (TellSays (.bool (hasH h v)) w)
  text : ∀ {w b h F} (v : Vl), HP w b h F → v.In → Calls Tryz.prog 44 #[.pointer (some ⟨b, 0, none⟩), v.val] w (TellSays (.tuple #[.string (textH h v).1, .bool (textH h v).2]) w)
  serial : ∀ {w b h F} (v : Vl), HP w b h F → v.In → Calls Tryz.prog 50 #[.pointer (some ⟨b, 0, none⟩), v.val] w (TellSays (.int .i64 (serialH h v)) w)
  objects : ∀ {w b h F}, HP w b h F → Calls Tryz.prog 41 #[.pointer (some ⟨b, 0, none⟩)] w (ListSays (objectsL 0 h.obs) w)
  kids : ∀ {w b h F} (v : Vl), HP w b h F → v.In → v.kind ≠ 8 → Calls Tryz.prog 47 #[.pointer (some ⟨b, 0, none⟩), v.val] w (ListSays (kidsH h v) w)
  used : ∀ {w b h F}, HP w b h F → Calls Tryz.prog 38 #[.pointer (some ⟨b, 0, none⟩)] w (TellSays (.int .i64 (usedH h)) w)
  max : ∀ {w b h F}, HP w b h F → Calls Tryz.prog 42 #[.pointer (some ⟨b, 0, none⟩)] w (TellSays (.int .i64 h.max) w)

/-- A heap in blocks of the call's own; beside it the law's. -/
def HpAt (HP : HeapP) (w0 : World) (b : Nat) (h : Hp) (K : Own) (w : World) : Prop := ∃ F, HP w b h F ∧ (∀ k ∈ F, w0.heap.size ≤ k) ∧ Below w0.heap.size w0 w ∧ ∀ p ∈ K, w.heap[p.1]? = some p.2 ∧ p.1 ∉ F
section
variable {HP : HeapP} {w0 w w' : World} {b : Nat} {h h' : Hp} {F F' : List Nat} {K : Own}
theorem HpAt.step (hF : ∀ k ∈ F, w0.heap.size ≤ k) (hb : Below w0.heap.size w0 w) (hK : ∀ p ∈ K, w.heap[p.1]? = some p.2 ∧ p.1 ∉ F) (hp : HP w' b h' F') (ht : Turns F w w') (hf : FreshIn F F' w) : HpAt HP w0 b h' K w' :=
  ⟨F', hp, fun k hk => (hf k hk).elim (hF k) (fun x => Nat.le_trans hb.size x), hb.trans (ht.to_below hb.size hF), fun p hp => by
    obtain ⟨h1, h2⟩ := hK p hp
    exact ⟨(ht.block p.1 (lt_of_get h1) h2).trans h1, fun hm => (hf p.1 hm).elim h2 (fun x => absurd (lt_of_get h1) (Nat.not_lt.2 x))⟩⟩
theorem HpAt.below (H : HeapSays HP) (h1 : HpAt HP w0 b h K w) (hb : Below w.heap.size w w') : HpAt HP w0 b h K w' := by
  obtain ⟨F, hp, hF, h0, hK⟩ := h1
  exact HpAt.step hF h0 hK (H.keep (G := []) hp (Turns.of_below hb) (fun _ _ x => by cases x)) (Turns.of_below hb) (fun _ hx => .inl hx)
theorem HpAt.low (h1 : HpAt HP w0 b h K w) : Below w0.heap.size w0 w := by
  obtain ⟨_, _, _, h0, _⟩ := h1
  exact h0
theorem HpAt.own (h1 : HpAt HP w0 b h K w) {k : Nat} {o : Obj} (hm : (k, o) ∈ K) : w.heap[k]? = some o := by
  obtain ⟨_, _, _, _, hK⟩ := h1
  exact (hK _ hm).1
theorem HpAt.fewer {K' : Own} (h1 : HpAt HP w0 b h K w) (hs : ∀ p ∈ K', p ∈ K) : HpAt HP w0 b h K' w := by
  obtain ⟨F, hp, hF, h0, hK⟩ := h1
  exact ⟨F, hp, hF, h0, fun p hp => hK p (hs p hp)⟩
theorem HpAt.alloc (H : HeapSays HP) (h1 : HpAt HP w0 b h K w) (o : Obj) : HpAt HP w0 b h ((w.heap.size, o) :: K) (w.alloc o) := by
  obtain ⟨F, hp, hF, h0, hK⟩ := h1
  have hal := (Below.refl w.heap.size w).alloc (Nat.le_refl _) o
  refine ⟨F, H.keep (G := []) hp (Turns.of_below hal) (fun _ _ x => by cases x), hF, h0.trans (hal.mono h0.size), fun p hm => ?_⟩
  rcases List.mem_cons.1 hm with rfl | hm
  · exact ⟨new_block _ _, fun hf => absurd ((H.mem hp).2 _ hf) (Nat.lt_irrefl _)⟩
  · obtain ⟨h1, h2⟩ := hK p hm
    exact ⟨(hal.block _ (lt_of_get h1)).trans h1, h2⟩
/-- A step of the law's own upon its own blocks. -/
theorem HpAt.mine {K' : Own} {G : List Nat} (H : HeapSays HP) (h1 : HpAt HP w0 b h K w) (ht : Turns G w w') (hG : ∀ k ∈ G, ∃ o, (k, o) ∈ K) (h0 : ∀ k ∈ G, w0.heap.size ≤ k)
    (hK : ∀ p ∈ K', w'.heap[p.1]? = some p.2 ∧ ((∃ o, (p.1, o) ∈ K) ∨ w.heap.size ≤ p.1)) : HpAt HP w0 b h K' w' := by
  obtain ⟨F, hp, hF, hb, hk⟩ := h1
  refine ⟨F, H.keep hp ht (fun k hkF hkG => ?_), hF, hb.trans (ht.to_below hb.size h0), fun p hp2 => ⟨(hK p hp2).1, fun hm => ?_⟩⟩
  · obtain ⟨o, ho⟩ := hG k hkG
    exact (hk _ ho).2 hkF
  · rcases (hK p hp2).2 with ⟨o, ho⟩ | hl
    · exact (hk _ ho).2 hm
    · exact absurd ((H.mem hp).2 _ hm) (Nat.not_lt.2 hl)
/-- A call that changes the heap. -/
def Goes (HP : HeapP) (w0 : World) (b : Nat) (h' : Hp) (K : Own) (r : Value) (e : Ending) (w' : World) : Prop := e = .returned r ∧ HpAt HP w0 b h' K w'
theorem HpAt.chg {f : Nat} {args : Array Value} {r : Value} (hc : ∀ {F}, HP w b h F → Calls Tryz.prog f args w (ChgSays HP b h' F r w)) (h1 : HpAt HP w0 b h K w) : Calls Tryz.prog f args w (Goes HP w0 b h' K r) := by
  obtain ⟨F, hp, hF, h0, hK⟩ := h1
  exact (hc hp).mono fun e w1 ⟨he, F', q1, q2, q3⟩ => ⟨he, HpAt.step hF h0 hK q1 q2 q3⟩
theorem HpAt.tell {f : Nat} {args : Array Value} {r : Value} (H : HeapSays HP) (hc : ∀ {F}, HP w b h F → Calls Tryz.prog f args w (TellSays r w)) (h1 : HpAt HP w0 b h K w) : Calls Tryz.prog f args w (Goes HP w0 b h K r) := by
  have h2 := h1
  obtain ⟨F, hp, hF, h0, hK⟩ := h1
  exact (hc hp).mono fun e w1 ⟨he, q⟩ => ⟨he, h2.below H q⟩
/-- A list that was answered, in blocks of the law's own. -/
def VlsIn (v : Value) (l : List Vl) (K : Own) : Prop := ∃ ao cap, v = .slice ao l.length cap ∧ (l.length ≤ cap ∧ Len l.length) ∧
  (l ≠ [] → ∃ g off o, (g, o) ∈ K ∧ ao = some ⟨g, off, none⟩ ∧ ∀ w : World, w.heap[g]? = some o → ∀ (j : Nat) (h : j < l.length), w.cell? ⟨g, off + j * 2, none⟩ = some (.int .u8 (l[j].kind : Int)) ∧ w.cell? ⟨g, off + j * 2 + 1, none⟩ = some (.int .i64 l[j].n))
def Lists (HP : HeapP) (w0 : World) (b : Nat) (h : Hp) (K : Own) (l : List Vl) (e : Ending) (w' : World) : Prop := ∃ v Kl, e = .returned v ∧ VlsIn v l Kl ∧ HpAt HP w0 b h (Kl ++ K) w'
theorem HpAt.list {f : Nat} {args : Array Value} {l : List Vl} (H : HeapSays HP) (hc : ∀ {F}, HP w b h F → Calls Tryz.prog f args w (ListSays l w)) (h1 : HpAt HP w0 b h K w) : Calls Tryz.prog f args w (Lists HP w0 b h K l) := by
  have h2 := h1
  obtain ⟨F, hp, hF, h0, hK⟩ := h1
  refine (hc hp).mono fun e w1 ⟨v, he, ⟨ao, cap, hv, hl, hx⟩, hb⟩ => ?_
  by_cases hn : l = []
  · exact ⟨v, [], he, ⟨ao, cap, hv, hl, fun h => absurd hn h⟩, h2.below H hb⟩
  · obtain ⟨g, off, hg1, hg2, hao, hcell⟩ := hx hn
    obtain ⟨o, ho⟩ : ∃ o, w1.heap[g]? = some o := ⟨_, Array.getElem?_eq_getElem hg2⟩
    refine ⟨v, [(g, o)], he, ⟨ao, cap, hv, hl, fun _ => ⟨g, off, o, List.mem_singleton.2 rfl, hao, fun w2 h2 j hj => ?_⟩⟩, ?_⟩
    · have hsame : ∀ i, w2.cell? ⟨g, i, none⟩ = w1.cell? ⟨g, i, none⟩ := fun i => World.cell?_of_block (a := ⟨g, i, none⟩) (h2.trans ho.symm)
      exact ⟨(hsame _).trans (hcell j hj).1, (hsame _).trans (hcell j hj).2⟩
    · obtain ⟨F', hp', hF', h0', hK'⟩ := h2.below H hb
      have hF2 : HP w1 b h F := H.keep (G := []) hp (Turns.of_below hb) (fun _ _ x => by cases x)
      refine ⟨F, hF2, hF, h0.trans (hb.mono h0.size), fun p hpm => ?_⟩
      rcases List.mem_append.1 hpm with hpm | hpm
      · rw [List.mem_singleton.1 hpm]
        exact ⟨ho, fun hm => absurd ((H.mem hp).2 _ hm) (Nat.not_lt.2 hg1)⟩
      · obtain ⟨q1, q2⟩ := hK p hpm
        exact ⟨(hb.block _ (lt_of_get q1)).trans q1, q2⟩
end
end Go.Proofs.YthejclgihhfenaaGreat.Hp

/-
  Plain arithmetic of characters as bytes: nothing of the program.
-/
namespace Go.Proofs.YthejclgihhfenaaGreat
open Go

/-- The bytes of a number, by the least form. -/
def encI (n : Int) : List Int :=
  if n < 128 then [n]
  else if n < 2048 then [192 + n / 64, 128 + n % 64]
  else if n < 65536 then [224 + n / 4096, 128 + n / 64 % 64, 128 + n % 64]
  else if n < 2097152 then [240 + n / 262144, 128 + n / 4096 % 64, 128 + n / 64 % 64, 128 + n % 64]
  else if n < 67108864 then [248 + n / 16777216, 128 + n / 262144 % 64, 128 + n / 4096 % 64, 128 + n / 64 % 64, 128 + n % 64]
  else [252 + n / 1073741824, 128 + n / 16777216 % 64, 128 + n / 262144 % 64, 128 + n / 4096 % 64, 128 + n / 64 % 64, 128 + n % 64]

def bytesOf (l : List Int) : ByteArray := ⟨(l.map fun x => UInt8.ofNat x.toNat).toArray⟩

/-- What Encode answers: the text, and the error. -/
def encS (n : Int) : ByteArray := if n < 0 ∨ 2147483647 < n then ⟨#[]⟩ else bytesOf (encI n)
def encE (n : Int) : Int := if n < 0 ∨ 2147483647 < n then 10 else 0

theorem i64_and63 (n : Int) : bits .and .i64 n 63 = n % 64 := by
  have h63 : (BitVec.ofInt 64 63).toNat = 2 ^ 6 - 1 := by decide
  have key : (BitVec.ofInt 64 n &&& BitVec.ofInt 64 63).toNat = (n % ((2 ^ 64 : Nat) : Int)).toNat % 2 ^ 6 := by
    rw [BitVec.toNat_and, BitVec.toNat_ofInt, h63, Nat.and_two_pow_sub_one_eq_mod]
  show IntKind.i64.wrap ((BitVec.ofInt 64 n &&& BitVec.ofInt 64 63).toNat : Nat) = n % 64
  rw [key, IntKind.wrap_i64]
  omega

theorem u8_or248 (y : Int) (h₀ : 0 ≤ y) (h₁ : y < 4) : bits .or .u8 248 y = 248 + y :=
  bits_join .u8 8 (by decide) wraps_u8 2 248 y (by decide) (by decide) (by decide) h₀ h₁ (by omega)
theorem u8_or252 (y : Int) (h₀ : 0 ≤ y) (h₁ : y < 2) : bits .or .u8 252 y = 252 + y :=
  bits_join .u8 8 (by decide) wraps_u8 1 252 y (by decide) (by decide) (by decide) h₀ h₁ (by omega)

theorem foldl_push_bytes : ∀ (l : List Int) (r : ByteArray), l.foldl (fun r n => r.push (UInt8.ofNat n.toNat)) r = ⟨r.data ++ (l.map fun x => UInt8.ofNat x.toNat).toArray⟩
  | [], r => by simp
  | b :: l, r => by
    simp only [List.foldl_cons]
    rw [foldl_push_bytes l]
    simp [ByteArray.push]

/-- 'string(b)' where b's cells hold the numbers l. -/
theorem run_convert_ints {P : Program} (w : World) (src dst e : TypeId) (a : Addr) (cap : Nat) (l : List Int) (hs : P.underlying src = some (.slice e)) (he : P.underlying e = some (.int .u8)) (hd : P.underlying dst = some .string)
    (hc : ∀ j (hj : j < l.length), w.cell? (a.add j) = some (.int .u8 l[j])) :
    (convert src dst (.slice (some a) l.length cap)).run P w = .ok (.string (bytesOf l)) w := by
  rw [run_convert_bytes_string w src dst e (some a) l.length cap hs he hd]
  have hl := run_loadCells_list (P := P) w a (l.map (Value.int .u8)) (fun j v hj => by
    have hj' : j < l.length := by
      have := (List.getElem?_eq_some_iff.1 hj).1
      simpa using this
    rw [hc j hj']
    simp [List.getElem?_eq_getElem hj'] at hj
    rw [← hj])
  simp only [List.length_map] at hl
  rw [run_bytesToString w a l.length cap _ hl, foldl_push_bytes]
  have he0 : ByteArray.empty.data = #[] := rfl
  rw [he0]
  simp [bytesOf]

/-- 'string(b)' where b is a new block that is known whole. -/
theorem run_convert_block {P : Program} (w : World) (src dst e : TypeId) (l : List Int) (fr : Nat × Nat) (hs : P.underlying src = some (.slice e)) (he : P.underlying e = some (.int .u8)) (hd : P.underlying dst = some .string) :
    (convert src dst (.slice (some ⟨w.heap.size, 0, none⟩) l.length l.length)).run P (w.alloc (.cells (l.map (Value.int .u8)).toArray e fr)) = .ok (.string (bytesOf l)) (w.alloc (.cells (l.map (Value.int .u8)).toArray e fr)) :=
  run_convert_ints _ src dst e _ _ l hs he hd (fun j hj => by
    have ha : (⟨w.heap.size, 0, none⟩ : Addr).add j = ⟨w.heap.size, j, none⟩ := by simp [Addr.add]; omega
    rw [ha, World.cell?_alloc_mark]
    simp [hj])

end Go.Proofs.YthejclgihhfenaaGreat
