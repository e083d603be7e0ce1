/-
  A part of the proof.
-/
import Derived.IntWalk
import Derived.WalkKit
import Derived.WalkSpells
import Derived.WalkSmall
import Derived.WalkLawsBesides
import Derived.Lib.OthersKept
import Derived.Lib.Hide
import Derived.Test.YtnkejjlidgnkkaaGreatDoorRows
import Derived.Lib.Strings
import Derived.Laws.IdiomStrings
import Derived.Lib.DecodeN
import Derived.Deep.QuietTactic
import Derived.BigQuiet
import Derived.Deep.LoopGhost
import Derived.Lib.IndexMore
import Derived.Lib.FrozenHead
import Derived.Deep.DeepCutAuto
import Derived.Deep.CutBlock
set_option maxRecDepth 100000
set_option maxHeartbeats 40000000
namespace Go.Proofs.YtnkejjlidgnkkaaGreatDoor.Nd

open Go.Lib renaming hid → qh
structure Nd where
 k : Nat
 n : Int
 name : ByteArray
 names : List ByteArray
 kids : List Int
 line : Int
instance : Inhabited Nd := ⟨⟨0, 0, ⟨#[]⟩, [], [], 0⟩⟩
def at' (l : List Nd) (i : Int) : Nd := l.getD i.toNat default
def inR (l : List Nd) (i : Int) : Prop := 0 <= i /\ i < l.length
def up (k : Nat) (p : Nat) : Nat := if k = 1 \/ k = 35 \/ p = 0 /\ (k = 28 \/ k = 29 \/ k = 30 \/ k = 31 \/ k = 32 \/ k = 33) then 0 else 1
abbrev Row := Nd -> List (Nat × Int) -> Bool
def kinds (l : List Nd) (n : Nd) : List (Nat × Int) := n.kids.map fun c => ((at' l c).k, (at' l c).n)
def bare (n : Nd) : Nd := { n with kids := [] }
inductive Lev (l : List Nd) (root : Int) : Int -> Nat -> Prop
 | top : Lev l root root 0
 | kid {i : Int} {v p : Nat} {c : Int} : Lev l root i v -> (at' l i).kids[p]? = some c -> Lev l root c (v + up (at' l i).k p)
structure RightP (row : Row) (l : List Nd) (root : Int) : Prop where
 few : l.length <= 4096
 top : inR l root
 kids : ∀ i, inR l i -> ∀ c ∈ (at' l i).kids, inR l c
 once : ∀ (i j : Int) (p q : Nat) (c : Int), inR l i -> inR l j -> (at' l i).kids[p]? = some c -> (at' l j).kids[q]? = some c -> i = j /\ p = q
 free : ∀ i, inR l i -> root ∉ (at' l i).kids
 all : ∀ i, inR l i -> ∃ v, Lev l root i v
 rows : ∀ i, inR l i -> row (bare (at' l i)) (kinds l (at' l i)) = true
 deep : ∀ i v, Lev l root i v -> v <= 100
 head : (at' l root).k = 26 /\ (at' l root).n = 1 /\ (at' l root).names = []
theorem lev_in {l : List Nd} {root : Int} (hk : ∀ i, inR l i -> ∀ c ∈ (at' l i).kids, inR l c) (hr : inR l root) {i : Int} {v : Nat} (h : Lev l root i v) : inR l i := by
 induction h with
 | top => exact hr
 | kid _ hc ih => exact hk _ ih _ (List.mem_of_getElem? hc)
structure Moved (π : Int -> Int) (l m : List Nd) : Prop where
 len : m.length = l.length
 inj : ∀ i j, π i = π j -> i = j
 fwd : ∀ i, inR l i -> inR m (π i)
 bwd : ∀ i, inR m (π i) -> inR l i
 onto : ∀ j, inR m j -> ∃ i, inR l i /\ j = π i
 is : ∀ i, inR l i -> (at' m (π i)).k = (at' l i).k /\ (at' m (π i)).n = (at' l i).n /\ (at' m (π i)).name = (at' l i).name /\ (at' m (π i)).names = (at' l i).names /\ (at' m (π i)).kids = (at' l i).kids.map π /\ (at' m (π i)).line = (at' l i).line
theorem Moved.kid {π : Int -> Int} {l m : List Nd} (h : Moved π l m) {i : Int} (hi : inR l i) {p : Nat} {c : Int} (hc : (at' l i).kids[p]? = some c) : (at' m (π i)).kids[p]? = some (π c) := by
 rw [(h.is i hi).2.2.2.2.1, List.getElem?_map, hc]; rfl
theorem Moved.lev {π : Int -> Int} {l m : List Nd} (h : Moved π l m) {r : Int} (hr : inR l r) (hk : ∀ i, inR l i -> ∀ c ∈ (at' l i).kids, inR l c) {i : Int} {v : Nat} (hL : Lev l r i v) : Lev m (π r) (π i) v := by
 induction hL with
 | top => exact .top
 | @kid i v p c hi hc ih =>
  have hin := lev_in hk hr hi;have := Lev.kid ih (h.kid hin hc)
  rwa [(h.is i hin).1] at this
inductive Two (a b : List Nd) (x y : Int) : Int -> Int -> Prop
 | top : Two a b x y x y
 | kid {i j : Int} {p : Nat} {c d : Int} : Two a b x y i j -> (at' a i).kids[p]? = some c -> (at' b j).kids[p]? = some d -> Two a b x y c d
end Go.Proofs.YtnkejjlidgnkkaaGreatDoor.Nd
namespace Go.Proofs.YtnkejjlidgnkkaaGreatDoor

open Go.Lib renaming hid → qh
open Go Go.RowKit
theorem wpList_append_one {P : Program} {w : World} {ops : Array Oper} {rest : List Oper} {o : Oper} {a : Act} {Q : Exit -> Act -> World -> Prop} (hgd : o.guard = none) (s x : Operand) (t : TypeId)
  (ho : o.op = .call { callee := .builtin .append, args := #[s, x], argTypes := #[t, t] })
  (base : Nat) (e : TypeId) (z : Value) (bytes : Nat) (ht : P.underlying t = some (.slice e)) (hi : (P.info? e).map (fun i => (i.zero, i.size, i.bytes)) = some (some z, 1, bytes)) (hzs : z.cells.size = 1)
  (v : Value) (n : Nat) (xs : List Value) (hs : a.eval s = v) (hown : w.ownsRow base e 1 v n xs)
  (y : Value) (hx : a.eval x = .slice (some ⟨w.heap.size, 0, none⟩) 1 1) (h1 : y.oneCell' = true)
  (h63 : n + 1 <= maxLen) (hbytes : (n + 1) * bytes <= 140737488355328) (hbase : base <= w.heap.size)
  (h : ∀ v' w', w'.ownsRow base e 1 v' (n + 1) (xs ++ [y]) -> (w.alloc (.cells #[y] e)).grownBy w' v.ownBlock -> wpList P ops Q rest (a.put o.dst v') w') : wpList P ops Q (o :: rest) a (w.alloc (.cells #[y] e)) := by
 obtain ⟨i, hi, hz, hsize, hby⟩ := info_parts hi;refine wpList_append_own (w := w.alloc (.cells #[y] e)) hgd s x t ho base e i z 1 bytes ht hi hz hsize hby hzs (by decide) v n xs hs (hown.alloc _) ⟨w.heap.size, 0, none⟩ 1 1 [y] hx rfl (fun j u hj => ?_) (fun u hu => ?_) h63 hbytes (by simp; omega) (fun v' w' h1 h2 _ => h v' w' h1 h2)
 ·match j, hj with
  | 0, hj => simp at hj; subst hj; simp [Addr.add]
 ·simp at hu; subst hu; exact h1
theorem ownBlock_ne {w : World} {b b' : Nat} {e e' : TypeId} {v v' : Value} {n n' : Nat} {xs xs' : List Value} {size size' : Nat} (h : w.ownsRow b e size v n xs) (h' : w.ownsRow b' e' size' v' n' xs') (hne : e ≠ e') : v.ownBlock = none \/ v.ownBlock ≠ v'.ownBlock := by
 rcases h.2 with ⟨rfl, _⟩ | ⟨g, cap, cur, rfl, _, hg, _⟩
 ·left; rfl
 ·right
  rcases h'.2 with ⟨rfl, _⟩ | ⟨g', cap', cur', rfl, _, hg', _⟩
  ·simp [Value.ownBlock]
  ·intro hb;simp [Value.ownBlock] at hb;subst hb;rw [hg] at hg';simp at hg';exact hne hg'.2
theorem below_appended {w w1 : World} {B : Nat} {e : TypeId} {v : Value} {n size : Nat} {xs : List Value} {x : Obj} (hv : w.ownsRow B e size v n xs) (hg : (w.alloc x).grownBy w1 v.ownBlock) (hB : B <= w.heap.size) : Below B w w1 :=
 ((Below.refl B w).alloc hB x).grown hg (by simp; omega) (fun k hk => (hv.lt k hk).1)
theorem ownsRow_base {w : World} {b b' : Nat} {e : TypeId} {size : Nat} {v : Value} {n : Nat} {xs : List Value} (h : w.ownsRow b e size v n xs) (hb : b' <= b) : w.ownsRow b' e size v n xs := by
 refine ⟨h.1, ?_⟩;rcases h.2 with hn | ⟨g, cap, cur, rfl, hb2, rest⟩
 ·exact .inl hn
 ·exact .inr ⟨g, cap, cur, rfl, by omega, rest⟩
theorem grew_trans {a b c : World} (h : Below a.heap.size a b) (k : Below b.heap.size b c) : Below a.heap.size a c := h.trans (k.mono h.size)
theorem grew_alloc {a b : World} (h : Below a.heap.size a b) (o : Obj) : Below a.heap.size a (b.alloc o) := h.alloc h.size o
end Go.Proofs.YtnkejjlidgnkkaaGreatDoor
namespace Go.Proofs.YtnkejjlidgnkkaaGreatDoor

open Go.Lib renaming hid → qh
open Go.RowKit
theorem ret_bool {a b : Bool} (h : a = b) : Ending.returned (.bool a) = .returned (.bool b) := by rw [h]
theorem ret_i64 {a b : Int} (h : a = b) : Ending.returned (.int .i64 a) = .returned (.int .i64 b) := by rw [h]
def byteAt (s : ByteArray) (i : Nat) : Nat := (s.get! i).toNat
theorem byteAt_lt (s : ByteArray) (i : Nat) : byteAt s i < 256 := (s.get! i).toNat_lt
theorem get!_mk (l : List UInt8) (i : Nat) (h : i < l.length) : (⟨l.toArray⟩ : ByteArray).get! i = l[i] := by
 simp only [ByteArray.get!];simp [h]
theorem run_index_at {P : Program} (t : TypeId) (s : ByteArray) (x : Int) (j : Nat) (h : P.underlying t = some .string) (hj : j < s.size) (hx : x = j) (w : World) :
  (Instr.index t (.string s) (.int .i64 x)).run P w = .ok (.int .u8 (byteAt s j)) w := by
 subst hx;rw [run_index_string w t s .i64 j h, dif_pos (by omega)];obtain ⟨⟨l⟩⟩ := s;have hl : j < l.length := hj;unfold byteAt;rw [get!_mk l j hl]
 rfl
theorem run_slice_at {P : Program} (t : TypeId) (s : ByteArray) (x y : Int) (i j : Nat) (h : P.underlying t = some .string) (hij : i <= j) (hj : j <= s.size) (hx : x = i) (hy : y = j) (w : World) :
  (Instr.slice t (.string s) (some (.int .i64 x)) (some (.int .i64 y)) none).run P w = .ok (.string (s.extract i j)) w := by
 subst hx hy;exact run_slice_string w t s .i64 .i64 i j h (by omega) (by omega) (by omega)
def digitB (b : Nat) : Bool := decide (48 <= b /\ b <= 57)
def spaceB (b : Nat) : Bool := decide (9 <= b /\ b <= 13 \/ b = 32)
def hexV (b : Nat) : Int := if 48 <= b /\ b <= 57 then (b : Int) - 48 else if 97 <= b /\ b <= 102 then (b : Int) - 87 else if 65 <= b /\ b <= 70 then (b : Int) - 55 else 0
def hexB (b : Nat) : Bool := decide (48 <= b /\ b <= 57 \/ 97 <= b /\ b <= 102 \/ 65 <= b /\ b <= 70)
theorem drop_at (s : ByteArray) (k : Nat) (h : k < s.size) : ∃ c : UInt8, c.toNat = byteAt s k /\ s.data.toList.drop k = c :: s.data.toList.drop (k + 1) := by
 obtain ⟨⟨l⟩⟩ := s;have hl : k < l.length := h;refine ⟨l[k], ?_, List.drop_eq_getElem_cons hl⟩;unfold byteAt; rw [get!_mk l k hl]
theorem drop_end (s : ByteArray) : s.data.toList.drop s.size = [] := List.drop_of_length_le (Nat.le_refl _)
theorem hexV_range (b : Nat) : 0 ≤ hexV b ∧ hexV b ≤ 15 := by unfold hexV; split; · omega
                                                              split; · omega
                                                              split <;> omega
theorem cat_list (a b : ByteArray) : (a ++ b).data.toList = a.data.toList ++ b.data.toList := by simp
end Go.Proofs.YtnkejjlidgnkkaaGreatDoor
namespace Go.Proofs.YtnkejjlidgnkkaaGreatDoor

open Go.Lib renaming hid → qh
open Go
def encI (n : Int) : List Int :=
 if n < 128 then [n]
 else if n < 2048 then [192 + n / 64, 128 + n % 64]
 else if n < 65536 then [224 + n / 4096, 128 + n / 64 % 64, 128 + n % 64]
 else if n < 2097152 then [240 + n / 262144, 128 + n / 4096 % 64, 128 + n / 64 % 64, 128 + n % 64]
 else if n < 67108864 then [248 + n / 16777216, 128 + n / 262144 % 64, 128 + n / 4096 % 64, 128 + n / 64 % 64, 128 + n % 64]
 else [252 + n / 1073741824, 128 + n / 16777216 % 64, 128 + n / 262144 % 64, 128 + n / 4096 % 64, 128 + n / 64 % 64, 128 + n % 64]
def bytesOf (l : List Int) : ByteArray := ⟨(l.map fun x => UInt8.ofNat x.toNat).toArray⟩
def encS (n : Int) : ByteArray := if n < 0 \/ 2147483647 < n then ⟨#[]⟩ else bytesOf (encI n)
def encE (n : Int) : Int := if n < 0 \/ 2147483647 < n then 10 else 0
theorem i64_and63 (n : Int) : bits .and .i64 n 63 = n % 64 := by
 have h63 : (BitVec.ofInt 64 63).toNat = 2 ^ 6 - 1 := by decide
 have key : (BitVec.ofInt 64 n &&& BitVec.ofInt 64 63).toNat = (n % ((2 ^ 64 : Nat) : Int)).toNat % 2 ^ 6 := by
  rw [BitVec.toNat_and, BitVec.toNat_ofInt, h63, Nat.and_two_pow_sub_one_eq_mod]
 show IntKind.i64.wrap ((BitVec.ofInt 64 n &&& BitVec.ofInt 64 63).toNat : Nat) = n % 64;rw [key, IntKind.wrap_i64];omega
theorem u8_or248 (y : Int) (h₀ : 0 <= y) (h₁ : y < 4) : bits .or .u8 248 y = 248 + y :=
 bits_join .u8 8 (by decide) wraps_u8 2 248 y (by decide) (by decide) (by decide) h₀ h₁ (by omega)
theorem u8_or252 (y : Int) (h₀ : 0 <= y) (h₁ : y < 2) : bits .or .u8 252 y = 252 + y :=
 bits_join .u8 8 (by decide) wraps_u8 1 252 y (by decide) (by decide) (by decide) h₀ h₁ (by omega)
theorem foldl_push_bytes : ∀ (l : List Int) (r : ByteArray), l.foldl (fun r n => r.push (UInt8.ofNat n.toNat)) r = ⟨r.data ++ (l.map fun x => UInt8.ofNat x.toNat).toArray⟩
 | [], r => by simp
 | b :: l, r => by
  simp only [List.foldl_cons];rw [foldl_push_bytes l];simp [ByteArray.push]
theorem run_convert_ints {P : Program} (w : World) (src dst e : TypeId) (a : Addr) (cap : Nat) (l : List Int) (hs : P.underlying src = some (.slice e)) (he : P.underlying e = some (.int .u8)) (hd : P.underlying dst = some .string)
  (hc : ∀ j (hj : j < l.length), w.cell? (a.add j) = some (.int .u8 l[j])) :
  (convert src dst (.slice (some a) l.length cap)).run P w = .ok (.string (bytesOf l)) w := by
 rw [run_convert_bytes_string w src dst e (some a) l.length cap hs he hd];have hl := run_loadCells_list (P := P) w a (l.map (Value.int .u8)) (fun j v hj => by
  have hj' : j < l.length := by
   have := (List.getElem?_eq_some_iff.1 hj).1
   simpa using this
  rw [hc j hj'];simp [List.getElem?_eq_getElem hj'] at hj;rw [<- hj])
 simp only [List.length_map] at hl;rw [run_bytesToString w a l.length cap _ hl, foldl_push_bytes];have he0 : ByteArray.empty.data = #[] := rfl;rw [he0];simp [bytesOf]
theorem run_convert_block {P : Program} (w : World) (src dst e : TypeId) (l : List Int) (fr : Nat × Nat) (hs : P.underlying src = some (.slice e)) (he : P.underlying e = some (.int .u8)) (hd : P.underlying dst = some .string) :
  (convert src dst (.slice (some ⟨w.heap.size, 0, none⟩) l.length l.length)).run P (w.alloc (.cells (l.map (Value.int .u8)).toArray e fr)) = .ok (.string (bytesOf l)) (w.alloc (.cells (l.map (Value.int .u8)).toArray e fr)) :=
 run_convert_ints _ src dst e _ _ l hs he hd (fun j hj => by
  have ha : (⟨w.heap.size, 0, none⟩ : Addr).add j = ⟨w.heap.size, j, none⟩ := by simp [Addr.add]; omega
  rw [ha, World.cell?_alloc_mark];simp [hj])
end Go.Proofs.YtnkejjlidgnkkaaGreatDoor
namespace Go.Proofs.YtnkejjlidgnkkaaGreatDoor

open Go.Lib renaming hid → qh
def spaceL (b : Nat) : Bool := decide (9 <= b /\ b <= 13 \/ b = 32)

open Go.Lib renaming hid → qh
def hexD (b : Nat) : Option Nat := if 48 <= b /\ b <= 57 then some (b - 48) else if 97 <= b /\ b <= 102 then some (b - 87) else if 65 <= b /\ b <= 70 then some (b - 55) else none
def runN (base : Nat) : Nat -> List UInt8 -> Nat -> Nat × Nat
 | 0, _, a => (a, 0)
 | _ + 1, [], a => (a, 0)
 | m + 1, c :: r, a =>
  match hexD c.toNat with
  | some d => if d < base then ((runN base m r (a * base + d)).1, (runN base m r (a * base + d)).2 + 1) else (a, 0)
  | none => (a, 0)
def letterN (b : Nat) : Option Nat :=
 if b = 97 then some 7 else if b = 98 then some 8 else if b = 102 then some 12 else if b = 110 then some 10 else if b = 114 then some 13
 else if b = 116 then some 9 else if b = 118 then some 11 else if b = 92 then some 92 else if b = 39 then some 39 else if b = 34 then some 34 else none
def blanks : List UInt8 -> Nat
 | [] => 0
 | c :: r => if spaceL c.toNat = true then blanks r + 1 else 0
def startsWith (b : Nat) : List UInt8 -> Bool
 | [] => false
 | c :: _ => decide (c.toNat = b)
def escL (r : List UInt8) : Option (List UInt8 × Nat) :=
 match r with
 | [] => none
 | b :: t =>
  if b.toNat = 10 \/ b.toNat = 13 then some ([10], if startsWith (23 - b.toNat) t = true then 3 else 2)
  else match letterN b.toNat with
   | some v => some ([UInt8.ofNat v], 2)
   | none =>
    if b.toNat = 120 then (if (runN 16 2 t 0).2 = 2 then some ([UInt8.ofNat (runN 16 2 t 0).1], 4) else none)
    else if b.toNat = 122 then some ([], blanks t + 2)
    else if b.toNat = 117 /\ startsWith 123 t = true then
     (if 0 < (runN 16 t.length (t.drop 1) 0).2 /\ (runN 16 t.length (t.drop 1) 0).1 < 2147483648 /\ startsWith 125 (t.drop (1 + (runN 16 t.length (t.drop 1) 0).2)) = true
      then some ((bytesOf (encI (runN 16 t.length (t.drop 1) 0).1)).data.toList, (runN 16 t.length (t.drop 1) 0).2 + 4) else none)
    else if 0 < (runN 10 3 r 0).2 /\ (runN 10 3 r 0).1 <= 255 then some ([UInt8.ofNat (runN 10 3 r 0).1], (runN 10 3 r 0).2 + 1) else none
def partL (q : Nat) (l : List UInt8) : Option (List UInt8 × Nat) :=
 match l with
 | [] => none
 | c :: r => if c.toNat = q \/ c.toNat = 10 \/ c.toNat = 13 then none else if c.toNat = 92 then escL r else some ([c], 1)
def partsL (q : Nat) : Nat -> List UInt8 -> Option (List UInt8)
 | 0, _ => none
 | m + 1, l =>
  match partL q l with
  | some (t, k) => (partsL q m (l.drop k)).map (t ++ ·)
  | none => if l = [UInt8.ofNat q] then some [] else none
def unquotL (l : List UInt8) : Option (List UInt8) :=
 match l with
 | [] => none
 | c :: r => if c.toNat = 34 \/ c.toNat = 39 then partsL c.toNat (r.length + 1) r else none
end Go.Proofs.YtnkejjlidgnkkaaGreatDoor
namespace Go.Proofs.YtnkejjlidgnkkaaGreatDoor

open Go.Lib renaming hid → qh
open Go.RowKit
def isB (s : ByteArray) (k b : Nat) : Bool := decide (k < s.size) && decide (byteAt s k = b)
theorem isB_starts (s : ByteArray) (k b : Nat) : isB s k b = startsWith b (s.data.toList.drop k) := by
  unfold isB
  by_cases h : k < s.size
  · obtain ⟨c, e, hd⟩ := drop_at s k h
    rw [hd, decide_eq_true h, Bool.true_and, startsWith, e]
  · rw [List.drop_of_length_le (by have : s.data.toList.length = s.size := rfl
                                   omega), decide_eq_false h]; rfl
theorem hexD_some {b : Nat} (h : hexB b = true) : hexD b = some (hexV b).toNat := by
 unfold hexB at h;simp at h;unfold hexD hexV
 split
 ·congr 1; omega
 split
 ·congr 1; omega
 split
 ·congr 1; omega
 ·omega
theorem hexD_none {b : Nat} (h : hexB b = false) : hexD b = none := by
 unfold hexB at h;simp at h;unfold hexD;rw [if_neg (by omega), if_neg (by omega), if_neg (by omega)]

open Go.Lib renaming hid → qh
open Go.RowKit
theorem run_most (base : Nat) : ∀ (m n : Nat) (l : List UInt8) (a : Nat), l.length <= m -> l.length <= n -> runN base m l a = runN base n l a
 | 0, 0, _, _, _, _ => rfl
 | 0, n + 1, [], a, _, _ => rfl
 | 0, n + 1, c :: r, a, h, _ => by simp at h
 | m + 1, 0, [], a, _, _ => rfl
 | m + 1, 0, c :: r, a, _, h => by simp at h
 | m + 1, n + 1, [], a, _, _ => rfl
 | m + 1, n + 1, c :: r, a, h1, h2 => by
  unfold runN;cases hexD c.toNat with
  | none => rfl
  | some d => simp only []; rw [run_most base m n r _ (by simpa using h1) (by simpa using h2)]

open Go.Lib renaming hid → qh
open Go.RowKit
theorem Tryz.infoByte : (Tryz.prog.info? 5).map (fun i => (i.zero, i.size, i.bytes)) = some (some (.int .u8 0), 1, 1) := by kernel_rfl

open Go.Lib renaming hid → qh
open Go.RowKit
theorem part_end {s : ByteArray} {p q : Nat} (h : s.size ≤ p) : partL q (s.data.toList.drop p) = none := by
  rw [List.drop_of_length_le (by have : s.data.toList.length = s.size := rfl
                                 omega)]; rfl
theorem part_bad {s : ByteArray} {p q : Nat} (h : p < s.size) (hc : byteAt s p = q \/ byteAt s p = 10 \/ byteAt s p = 13) : partL q (s.data.toList.drop p) = none := by
 obtain ⟨c, e, hd⟩ := drop_at s p h;rw [hd, partL, e, if_pos hc]
theorem part_plain {s : ByteArray} {p q : Nat} (h : p < s.size) (hc : ¬ (byteAt s p = q \/ byteAt s p = 10 \/ byteAt s p = 13)) (h92 : byteAt s p ≠ 92) :
  partL q (s.data.toList.drop p) = some ((s.extract p (p + 1)).data.toList, 1) := by
 obtain ⟨c, e, hd⟩ := drop_at s p h;rw [Lib.extract_data, hd, partL, e, if_neg hc, if_neg h92, show p + 1 - p = 1 from by omega]; rfl
theorem part_esc {s : ByteArray} {p q : Nat} (h : p < s.size) (hc : ¬ (byteAt s p = q \/ byteAt s p = 10 \/ byteAt s p = 13)) (h92 : byteAt s p = 92) :
  partL q (s.data.toList.drop p) = escL (s.data.toList.drop (p + 1)) := by
 obtain ⟨c, e, hd⟩ := drop_at s p h;rw [hd, partL, e, if_neg hc, if_pos h92]
theorem esc_end {s : ByteArray} {p : Nat} (h : s.size ≤ p) : escL (s.data.toList.drop p) = none := by
  rw [List.drop_of_length_le (by have : s.data.toList.length = s.size := rfl
                                 omega)]; rfl
theorem esc_line {s : ByteArray} {p : Nat} (h : p < s.size) (hb : byteAt s p = 10 \/ byteAt s p = 13) :
  escL (s.data.toList.drop p) = some ([10], if isB s (p + 1) (23 - byteAt s p) = true then 3 else 2) := by
 obtain ⟨c, e, hd⟩ := drop_at s p h;rw [isB_starts, hd, escL, e, if_pos hb]
theorem esc_letter {s : ByteArray} {p v : Nat} (h : p < s.size) (hb : ¬ (byteAt s p = 10 \/ byteAt s p = 13)) (hv : letterN (byteAt s p) = some v) :
  escL (s.data.toList.drop p) = some ([UInt8.ofNat v], 2) := by
 obtain ⟨c, e, hd⟩ := drop_at s p h;rw [hd, escL, e, if_neg hb, hv]
theorem esc_x {s : ByteArray} {p : Nat} (h : p < s.size) (hx : byteAt s p = 120) :
  escL (s.data.toList.drop p) = if (runN 16 2 (s.data.toList.drop (p + 1)) 0).2 = 2 then some ([UInt8.ofNat (runN 16 2 (s.data.toList.drop (p + 1)) 0).1], 4) else none := by
 obtain ⟨c, e, hd⟩ := drop_at s p h;rw [hd, escL, e, hx, if_neg (by decide), show letterN 120 = none from rfl]
 rfl
theorem esc_z {s : ByteArray} {p : Nat} (h : p < s.size) (hz : byteAt s p = 122) : escL (s.data.toList.drop p) = some ([], blanks (s.data.toList.drop (p + 1)) + 2) := by
 obtain ⟨c, e, hd⟩ := drop_at s p h;rw [hd, escL, e, hz, if_neg (by decide), show letterN 122 = none from rfl]
 rfl
theorem esc_u {s : ByteArray} {p : Nat} (h : p < s.size) (hu : byteAt s p = 117) (hs : isB s (p + 1) 123 = true) :
  escL (s.data.toList.drop p) = if 0 < (runN 16 s.size (s.data.toList.drop (p + 2)) 0).2 /\ (runN 16 s.size (s.data.toList.drop (p + 2)) 0).1 < 2147483648 /\ isB s (p + 2 + (runN 16 s.size (s.data.toList.drop (p + 2)) 0).2) 125 = true
   then some ((bytesOf (encI (runN 16 s.size (s.data.toList.drop (p + 2)) 0).1)).data.toList, (runN 16 s.size (s.data.toList.drop (p + 2)) 0).2 + 4) else none := by
 obtain ⟨c, e, hd⟩ := drop_at s p h;have hl : s.data.toList.length = s.size := rfl;have hr : runN 16 (s.data.toList.drop (p + 1)).length ((s.data.toList.drop (p + 1)).drop 1) 0 = runN 16 s.size (s.data.toList.drop (p + 2)) 0 := by
  rw [List.drop_drop];exact run_most _ _ _ _ _ (by simp only [List.length_drop]; omega) (by simp only [List.length_drop]; omega)
 rw [isB_starts] at hs ⊢;rw [hd, escL, e, hu, if_neg (by decide), show letterN 117 = none from rfl];simp only [];rw [if_neg (by decide), if_neg (by decide), if_pos ⟨trivial, hs⟩, hr, List.drop_drop, show p + 1 + (1 + (runN 16 s.size (s.data.toList.drop (p + 2)) 0).2) = p + 2 + (runN 16 s.size (s.data.toList.drop (p + 2)) 0).2 from by omega]
theorem esc_num {s : ByteArray} {p : Nat} (h : p < s.size) (hb : ¬ (byteAt s p = 10 \/ byteAt s p = 13)) (hl : letterN (byteAt s p) = none) (hx : byteAt s p ≠ 120) (hz : byteAt s p ≠ 122) (hu : ¬ (byteAt s p = 117 /\ isB s (p + 1) 123 = true)) :
  escL (s.data.toList.drop p) = if 0 < (runN 10 3 (s.data.toList.drop p) 0).2 /\ (runN 10 3 (s.data.toList.drop p) 0).1 <= 255 then some ([UInt8.ofNat (runN 10 3 (s.data.toList.drop p) 0).1], (runN 10 3 (s.data.toList.drop p) 0).2 + 1) else none := by
 obtain ⟨c, e, hd⟩ := drop_at s p h;rw [isB_starts] at hu;rw [hd, escL, e, if_neg hb, hl];simp only [];rw [if_neg hx, if_neg hz, if_neg hu]
theorem run_bound (base : Nat) (hb : 1 <= base) : ∀ (m : Nat) (l : List UInt8) (a : Nat), (runN base m l a).1 + 1 <= (a + 1) * base ^ m
 | 0, _, a => by simp [runN]
 | m + 1, [], a => by
  show a + 1 <= _;exact Nat.le_mul_of_pos_right _ (Nat.pow_pos hb)
 | m + 1, c :: r, a => by
  have ha : a + 1 <= (a + 1) * base ^ (m + 1) := Nat.le_mul_of_pos_right _ (Nat.pow_pos hb);unfold runN;cases hexD c.toNat with
  | none => exact ha
  | some d =>
   simp only []
   split
   ·rename_i hd;have := run_bound base hb m r (a * base + d);refine Nat.le_trans this ?_;rw [Nat.pow_succ, Nat.mul_comm (base ^ m) base, <- Nat.mul_assoc];exact Nat.mul_le_mul_right _ (by rw [Nat.add_mul]; omega)
   ·exact ha
theorem run_count (base : Nat) : ∀ (m : Nat) (l : List UInt8) (a : Nat), (runN base m l a).2 <= l.length
 | 0, _, _ => by simp [runN]
 | m + 1, [], a => by simp [runN]
 | m + 1, c :: r, a => by
  unfold runN;cases hexD c.toNat with
  | none => simp
  | some d =>
   simp only []
   split
   ·have := run_count base m r (a * base + d); simpa using this
   ·simp
theorem blanks_yes {s : ByteArray} {p : Nat} (h : p < s.size) (hb : spaceB (byteAt s p) = true) : blanks (s.data.toList.drop p) = blanks (s.data.toList.drop (p + 1)) + 1 := by
 obtain ⟨c, e, hd⟩ := drop_at s p h;rw [hd, blanks, e];exact if_pos hb
theorem blanks_no {s : ByteArray} {p : Nat} (h : p < s.size) (hb : spaceB (byteAt s p) = false) : blanks (s.data.toList.drop p) = 0 := by
 obtain ⟨c, e, hd⟩ := drop_at s p h;rw [hd, blanks, e];exact if_neg (by show ¬ spaceB (byteAt s p) = true; rw [hb]; decide)
theorem blanks_end {s : ByteArray} {p : Nat} (h : s.size ≤ p) : blanks (s.data.toList.drop p) = 0 := by
  rw [List.drop_of_length_le (by have : s.data.toList.length = s.size := rfl
                                 omega)]; rfl

open Go.Lib renaming hid → qh
open Go.RowKit
theorem encI_short (n : Int) : (encI n).length <= 6 := by
 unfold encI
 repeat' split
 all_goals simp
theorem bytesOf_list (l : List Int) : (bytesOf l).data.toList.length = l.length := by unfold bytesOf; simp
theorem blanks_le : ∀ l : List UInt8, blanks l <= l.length
 | [] => Nat.le_refl 0
 | c :: r => by
  unfold blanks;have := blanks_le r
  split
  ·simpa using this
  ·simp
theorem run_two : ∀ (l : List UInt8), (runN 16 2 l 0).2 = 2 -> 2 <= l.length := by
 intro l h;have := run_count 16 2 l 0;omega
theorem starts_some {b : Nat} {l : List UInt8} (h : startsWith b l = true) : 1 <= l.length := by
 cases l with
 | nil => cases h
 | cons c r => simp
theorem esc_size {r t : List UInt8} {k : Nat} (h : escL r = some (t, k)) : 2 <= k /\ k <= r.length + 1 /\ t.length <= 6 := by
 cases r with
 | nil => cases h
 | cons b u =>
  rw [escL] at h
  split at h
  ·rename_i hb
   injection h with h
   injection h with h1 h2
   subst h1 h2;refine ⟨by split <;> omega, ?_, by simp⟩
   split
   ·rename_i hs; have := starts_some hs; simp only [List.length_cons]; omega
   ·simp only [List.length_cons]; omega
  ·split at h
   ·injection h with h
    injection h with h1 h2
    subst h1 h2;simp
   ·split at h
    ·split at h
     ·rename_i h2
      injection h with h
      injection h with h3 h4
      subst h3 h4;have := run_two _ h2;simp; omega
     ·cases h
    ·split at h
     ·injection h with h
      injection h with h1 h2
      subst h1 h2;have := blanks_le u;simp; omega
     ·split at h
      ·rename_i hu
       split at h
       ·rename_i hx
        injection h with h
        injection h with h1 h2
        subst h1 h2;have h3 := starts_some hx.2.2;rw [List.length_drop] at h3;rw [bytesOf_list];have := encI_short (runN 16 u.length (u.drop 1) 0).1;simp only [List.length_cons];omega
       ·cases h
      ·split at h
       ·injection h with h
        injection h with h1 h2
        subst h1 h2;have := run_count 10 3 (b :: u) 0;simp only [List.length_cons] at this;simp only [List.length_cons, List.length_nil];omega
       ·cases h
theorem part_size {q : Nat} {l t : List UInt8} {k : Nat} (h : partL q l = some (t, k)) : 1 <= k /\ k <= l.length /\ t.length <= 6 := by
 cases l with
 | nil => cases h
 | cons c r =>
  rw [partL] at h
  split at h
  ·cases h
  ·split at h
   ·have := esc_size h;simp only [List.length_cons]; omega
   ·injection h with h
    injection h with h1 h2
    subst h1 h2;simp
def unqT (l : List UInt8) : ByteArray := match unquotL l with | some t => ⟨t.toArray⟩ | none => ⟨#[]⟩
def unqE (l : List UInt8) : Int := match unquotL l with | some _ => 0 | none => 30
def UnqIs (s : ByteArray) (w : World) (e : Ending) (w' : World) : Prop := e = .returned (.tuple #[.string (unqT s.data.toList), .int .i64 (unqE s.data.toList)]) /\ Below w.heap.size w w'
theorem unq_none {s : ByteArray} {w w' : World} (h : unquotL s.data.toList = none) (hb : Below w.heap.size w w') : UnqIs s w (.returned (.tuple #[.string ⟨#[]⟩, .int .i64 30])) w' := by
 refine ⟨?_, hb⟩;rw [unqT, unqE, h]
theorem unq_some {s T : ByteArray} {w w' : World} (h : unquotL s.data.toList = some T.data.toList) (hb : Below w.heap.size w w') : UnqIs s w (.returned (.tuple #[.string T, .int .i64 0])) w' := by
 refine ⟨?_, hb⟩;obtain ⟨⟨l⟩⟩ := T;rw [unqT, unqE, h]
theorem unq_short {s : ByteArray} (h : s.size < 2) : unquotL s.data.toList = none := by
 obtain ⟨⟨l⟩⟩ := s;have hl : l.length < 2 := h
 match l, hl with
 | [], _ => rfl
 | [c], _ =>
  show unquotL [c] = none;rw [unquotL]
  split
  ·show partsL c.toNat 1 [] = none;rw [partsL, partL];simp
  ·rfl
theorem parts_stop {s : ByteArray} {q m p : Nat} (hq : q < 256) (hn : partL q (s.data.toList.drop p) = none) (hp : p <= s.size) :
  partsL q (m + 1) (s.data.toList.drop p) = if p + 1 = s.size /\ byteAt s p = q then some [] else none := by
 have hl : s.data.toList.length = s.size := rfl;rw [partsL, hn];simp only [];by_cases h : p < s.size
 ·obtain ⟨c, e, hd⟩ := drop_at s p h;rw [hd, <- e];by_cases h1 : p + 1 = s.size /\ c.toNat = q
  ·rw [if_pos h1, List.drop_of_length_le (by omega), if_pos (by rw [<- h1.2, UInt8.ofNat_toNat])]
  ·rw [if_neg h1, if_neg];intro g
   injection g with g1 g2
   refine h1 ⟨?_, ?_⟩
   ·have := congrArg List.length g2;rw [List.length_drop] at this;simp at this;omega
   ·rw [g1, UInt8.toNat_ofNat']; omega
 ·rw [List.drop_of_length_le (show s.data.toList.length <= p by omega), if_neg (fun g => by cases g), if_neg (fun g => by have := g.1; omega)]

open Go.Lib renaming hid → qh
open Go.RowKit
theorem one_list {s : ByteArray} {k : Nat} (h : k < s.size) : (s.extract k (k + 1)).data.toList = [UInt8.ofNat (byteAt s k)] := by
 obtain ⟨c, e, hd⟩ := drop_at s k h;rw [Lib.extract_data, hd, <- e, UInt8.ofNat_toNat, show k + 1 - k = 1 from by omega]; rfl

open Go.Lib renaming hid → qh
open Go.RowKit
def eqT (k : Nat) : ByteArray := ⟨(List.replicate k 61).toArray⟩
def closeL (k : Nat) : List UInt8 := 93 :: (List.replicate k 61 ++ [93])
def cr (l : List UInt8) : Bool := Lib.contains l [13]
theorem eqT_list (k : Nat) : (eqT k).data.toList = List.replicate k 61 := rfl
theorem eqT_size (k : Nat) : (eqT k).size = k := by show (List.replicate k (61 : UInt8)).length = k; simp
theorem close_list (k : Nat) : ((⟨#[93]⟩ : ByteArray) ++ eqT k ++ ⟨#[93]⟩).data.toList = closeL k := by
 rw [cat_list, cat_list, eqT_list]; rfl
end Go.Proofs.YtnkejjlidgnkkaaGreatDoor
namespace Go.Proofs.YtnkejjlidgnkkaaGreatDoor.Lex

open Go.Lib renaming hid → qh
open Go.RowKit
def letterB (b : Nat) : Bool := decide (65 <= b /\ b <= 90 \/ 97 <= b /\ b <= 122 \/ b = 95)
def lfB (b : Nat) : Bool := decide (b = 10 \/ b = 13)
def hd : List UInt8 -> Nat
 | [] => 0
 | c :: _ => c.toNat
def endK : List UInt8 -> Nat
 | [] => 0
 | c :: r => if lfB c.toNat = true then (if startsWith (23 - c.toNat) r = true then 2 else 1) else 0
def linesF : Nat -> List UInt8 -> Nat
 | _, [] => 0
 | p, c :: r => if lfB c.toNat = true then (if p + c.toNat = 23 then linesF 0 r else linesF c.toNat r + 1) else linesF 0 r
def linesOf (l : List UInt8) : Nat := linesF 0 l
def eqsL : List UInt8 -> Nat
 | [] => 0
 | c :: r => if c.toNat = 61 then eqsL r + 1 else 0
def bodyL (cl : List UInt8) : Bool -> Nat -> List UInt8 -> Option (List UInt8 × Nat)
 | _, _, [] => none
 | first, p, c :: r =>
  if cl.isPrefixOf (c :: r) = true then some ([], cl.length)
  else if lfB c.toNat = true then
   (if p + c.toNat = 23 then (bodyL cl false 0 r).map fun x => (x.1, x.2 + 1)
   else (bodyL cl false c.toNat r).map fun x => (if first then x.1 else 10 :: x.1, x.2 + 1))
  else (bodyL cl false 0 r).map fun x => (c :: x.1, x.2 + 1)
def longL : List UInt8 -> Option (Option (List UInt8 × Nat))
 | [] => none
 | c :: r => if c.toNat = 91 /\ hd (r.drop (eqsL r)) = 91 then some ((bodyL (closeL (eqsL r)) true 0 (r.drop (eqsL r + 1))).map fun x => (x.1, x.2 + (eqsL r + 2))) else none
def hexP (l : List UInt8) : Bool := decide (hd l = 48) && decide (hd (l.drop 1) = 120 \/ hd (l.drop 1) = 88)
def power (hex : Bool) (b : Nat) : Bool := if hex then decide (b = 112 \/ b = 80) else decide (b = 101 \/ b = 69)
def numC (hex : Bool) (last b : Nat) : Bool := digitB b || letterB b || decide (b = 46) || (power hex last && decide (b = 43 \/ b = 45))
def numRun (hex : Bool) : Nat -> List UInt8 -> Nat
 | _, [] => 0
 | last, c :: r => if numC hex last c.toNat = true then numRun hex c.toNat r + 1 else 0
def numL (l : List UInt8) : Nat := if (digitB (hd l) || (decide (hd l = 46) && digitB (hd (l.drop 1)))) = true then numRun (hexP l) 0 l else 0
def quoteK (q : Nat) : Nat -> List UInt8 -> Option Nat
 | _, [] => none
 | st, c :: r =>
  if st = 92 then (if lfB c.toNat = true then (quoteK q c.toNat r).map (· + 1) else if c.toNat = 122 then (quoteK q 122 r).map (· + 1) else (quoteK q 0 r).map (· + 1))
  else if lfB st = true /\ st + c.toNat = 23 then (quoteK q 0 r).map (· + 1)
  else if st = 122 /\ spaceB c.toNat = true then (quoteK q 122 r).map (· + 1)
  else if c.toNat = q then some 1
  else if lfB c.toNat = true then none
  else if c.toNat = 92 then (quoteK q 92 r).map (· + 1)
  else (quoteK q 0 r).map (· + 1)
def nameRun : List UInt8 -> Nat
 | [] => 0
 | c :: r => if (letterB c.toNat || digitB c.toNat) = true then nameRun r + 1 else 0
def nameL (l : List UInt8) : Nat := if letterB (hd l) = true then nameRun l else 0
def lineRun : List UInt8 -> Nat
 | [] => 0
 | c :: r => if lfB c.toNat = true then 0 else lineRun r + 1

open Go.Lib renaming hid → qh
open Go.RowKit
theorem hd_at {s : ByteArray} {i : Nat} (h : i < s.size) : hd (s.data.toList.drop i) = byteAt s i := by
 obtain ⟨c, e, hl⟩ := drop_at s i h;rw [hl]; exact e
theorem hd_end {s : ByteArray} {i : Nat} (h : s.size <= i) : hd (s.data.toList.drop i) = 0 := by
 rw [List.drop_of_length_le (show s.data.toList.length <= i from h)]; rfl
theorem next_hd (s : ByteArray) (i : Nat) : (s.data.toList.drop i).drop 1 = s.data.toList.drop (i + 1) := by rw [List.drop_drop]
theorem lf_is {b : Nat} : lfB b = true ↔ b = 10 \/ b = 13 := by unfold lfB; simp

open Go.Lib renaming hid → qh
open Go.RowKit
def wordsT : List ByteArray := [⟨#[97, 110, 100]⟩, ⟨#[98, 114, 101, 97, 107]⟩, ⟨#[100, 111]⟩, ⟨#[101, 108, 115, 101]⟩, ⟨#[101, 108, 115, 101, 105, 102]⟩, ⟨#[101, 110, 100]⟩, ⟨#[102, 97, 108, 115, 101]⟩, ⟨#[102, 111, 114]⟩, ⟨#[102, 117, 110, 99, 116, 105, 111, 110]⟩, ⟨#[103, 111, 116, 111]⟩, ⟨#[105, 102]⟩, ⟨#[105, 110]⟩, ⟨#[108, 111, 99, 97, 108]⟩, ⟨#[110, 105, 108]⟩, ⟨#[110, 111, 116]⟩, ⟨#[111, 114]⟩, ⟨#[114, 101, 112, 101, 97, 116]⟩, ⟨#[114, 101, 116, 117, 114, 110]⟩, ⟨#[116, 104, 101, 110]⟩, ⟨#[116, 114, 117, 101]⟩, ⟨#[117, 110, 116, 105, 108]⟩, ⟨#[119, 104, 105, 108, 101]⟩]
def signsT : List ByteArray := [⟨#[35]⟩, ⟨#[37]⟩, ⟨#[38]⟩, ⟨#[40]⟩, ⟨#[41]⟩, ⟨#[42]⟩, ⟨#[43]⟩, ⟨#[44]⟩, ⟨#[45]⟩, ⟨#[46]⟩, ⟨#[46, 46]⟩, ⟨#[46, 46, 46]⟩, ⟨#[47, 47]⟩, ⟨#[58]⟩, ⟨#[58, 58]⟩, ⟨#[59]⟩, ⟨#[60]⟩, ⟨#[60, 60]⟩, ⟨#[60, 61]⟩, ⟨#[61]⟩, ⟨#[61, 61]⟩, ⟨#[62]⟩, ⟨#[62, 61]⟩, ⟨#[62, 62]⟩, ⟨#[91]⟩, ⟨#[93]⟩, ⟨#[123]⟩, ⟨#[124]⟩, ⟨#[125]⟩, ⟨#[126]⟩, ⟨#[126, 61]⟩]
def wordB (s : ByteArray) : Bool := wordsT.any fun t => t.toList == s.toList
structure One where
 k : Nat
 s : ByteArray
 n : Int
 len : Nat
 e : Nat
def OneSays (o : One) (w : World) (e : Ending) (w' : World) : Prop := e = .returned (.tuple #[.agg #[.int .u8 o.k, .string o.s, .int .i64 o.n, .int .i64 0], .int .i64 (o.len : Nat), .int .i64 (o.e : Nat)]) /\ Below w.heap.size w w'
theorem one_says {o : One} {k : Nat} {s : ByteArray} {n : Int} {len e : Nat} {w w' : World} (h : o = ⟨k, s, n, len, e⟩) (hb : Below w.heap.size w w') :
  OneSays o w (.returned (.tuple #[.agg #[.int .u8 k, .string s, .int .i64 n, .int .i64 0], .int .i64 (len : Nat), .int .i64 (e : Nat)])) w' := by
 subst h;exact ⟨rfl, hb⟩
theorem four_set {w0 w : World} {B g : Nat} {v0 v1 v2 v3 : Value} (h : Below B w0 w) (hg : B <= g) :
  Below B w0 ((((w.setCell ⟨g, 0, none⟩ v0).setCell ⟨g, 1, none⟩ v1).setCell ⟨g, 2, none⟩ v2).setCell ⟨g, 3, none⟩ v3) :=
 (((h.setCell (p := ⟨g, 0, none⟩) hg _).setCell (p := ⟨g, 1, none⟩) hg _).setCell (p := ⟨g, 2, none⟩) hg _).setCell (p := ⟨g, 3, none⟩) hg _
def bestL (l : List UInt8) : List ByteArray -> ByteArray -> ByteArray
 | [], b => b
 | t :: r, b => bestL l r (if (t.data.toList.isPrefixOf l && decide (b.size < t.size)) = true then t else b)
def signT (l : List UInt8) : ByteArray := bestL l signsT ⟨#[]⟩
def signO (l : List UInt8) : One :=
 if (signT l).size = 0 then (if hd l = 47 \/ hd l = 94 then ⟨0, ⟨#[]⟩, 0, 0, 31⟩ else ⟨0, ⟨#[]⟩, 0, 0, 30⟩) else ⟨3, signT l, 0, (signT l).size, 0⟩
theorem signs_small : ∀ k (h : k < 31), (signsT[k]'h).size <= 3 := by decide
theorem cell_of_heap4 {w : World} {b : Nat} {cs : Array Value} {T : TypeId} (h : w.heap[b]? = some (.cells cs T (0, 0))) (j : Nat) (v : Value) (hv : cs[j]? = some v) : w.cell? ⟨b, j, none⟩ = some v := by
 rw [Lib.cell_of_heap h]; exact hv
theorem free_of_heap4 {w : World} {b : Nat} {cs : Array Value} {T : TypeId} (h : w.heap[b]? = some (.cells cs T (0, 0))) (j : Nat) : w.frozen? ⟨b, j, none⟩ = false := Lib.frozen_of_heap h j

open Go.Lib renaming hid → qh
open Go.RowKit
theorem quote_cons (q st : Nat) (c : UInt8) (r : List UInt8) : quoteK q st (c :: r) =
  if st = 92 then (if lfB c.toNat = true then (quoteK q c.toNat r).map (· + 1) else if c.toNat = 122 then (quoteK q 122 r).map (· + 1) else (quoteK q 0 r).map (· + 1))
  else if lfB st = true /\ st + c.toNat = 23 then (quoteK q 0 r).map (· + 1)
  else if st = 122 /\ spaceB c.toNat = true then (quoteK q 122 r).map (· + 1)
  else if c.toNat = q then some 1
  else if lfB c.toNat = true then none
  else if c.toNat = 92 then (quoteK q 92 r).map (· + 1)
  else (quoteK q 0 r).map (· + 1) := rfl
theorem quote_same {q st : Nat} {l : List UInt8} (h92 : st ≠ 92) (h1 : ∀ c r, l = c :: r -> ¬ (lfB st = true /\ st + c.toNat = 23)) (h2 : ∀ c r, l = c :: r -> ¬ (st = 122 /\ spaceB c.toNat = true)) : quoteK q st l = quoteK q 0 l := by
 cases l with
 | nil => rfl
 | cons c r =>
  have g1 := h1 c r rfl;have g2 := h2 c r rfl;rw [quote_cons, quote_cons, if_neg h92, if_neg g1, if_neg g2, if_neg (show ¬ (0 : Nat) = 92 by decide), if_neg (show ¬ (lfB 0 = true /\ 0 + c.toNat = 23) from fun g => by simp [lfB] at g), if_neg (show ¬ ((0 : Nat) = 122 /\ spaceB c.toNat = true) from fun g => by omega)]
theorem quote_zero {q : Nat} {c : UInt8} {r : List UInt8} : quoteK q 0 (c :: r) =
  if c.toNat = q then some 1 else if lfB c.toNat = true then none else if c.toNat = 92 then (quoteK q 92 r).map (· + 1) else (quoteK q 0 r).map (· + 1) := by
 rw [quote_cons, if_neg (show ¬ (0 : Nat) = 92 by decide), if_neg (show ¬ (lfB 0 = true /\ 0 + c.toNat = 23) from fun g => by simp [lfB] at g), if_neg (show ¬ ((0 : Nat) = 122 /\ spaceB c.toNat = true) from fun g => by omega)]
theorem quote_blanks (q : Nat) : ∀ l : List UInt8, quoteK q 122 l = (quoteK q 0 (l.drop (blanks l))).map (· + blanks l)
 | [] => rfl
 | c :: r => by
  have ih := quote_blanks q r;cases hs : spaceB c.toNat
  ·rw [quote_same (by decide) (fun _ _ _ g => by simp [lfB] at g) (fun c' r' e g => by injection e with e1 e2; rw [<- e1, hs] at g; exact absurd g.2 (by decide))];have hb : blanks (c :: r) = 0 := by rw [blanks]; exact if_neg (by show ¬ spaceB c.toNat = true; rw [hs]; decide)
   rw [hb, List.drop_zero];simp
  ·have hb : blanks (c :: r) = blanks r + 1 := by rw [blanks]; exact if_pos (by show spaceB c.toNat = true; exact hs)
   rw [quote_cons, if_neg (by decide), if_neg (fun g => by simp [lfB] at g), if_pos ⟨rfl, hs⟩, ih, hb, List.drop_succ_cons, Option.map_map]
   congr 1
theorem quote_back {q : Nat} {l : List UInt8} (h : endK l = 0) (hz : hd l ≠ 122) : quoteK q 92 l = (quoteK q 0 (l.drop 1)).map (· + 1) := by
 cases l with
 | nil => rfl
 | cons c r =>
  have : lfB c.toNat = false := by
   cases hl : lfB c.toNat
   ·rfl
   ·rw [endK, if_pos hl] at h; split at h <;> omega
  rw [quote_cons, if_pos rfl, if_neg (by rw [this]; decide), if_neg (show ¬ c.toNat = 122 from hz), List.drop_one, List.tail_cons]
theorem quote_back_z {q : Nat} {l : List UInt8} (hz : hd l = 122) : quoteK q 92 l = (quoteK q 0 ((l.drop 1).drop (blanks (l.drop 1)))).map (· + (1 + blanks (l.drop 1))) := by
 cases l with
 | nil => cases hz
 | cons c r =>
  have hc : c.toNat = 122 := hz;rw [quote_cons, if_pos rfl, if_neg (by rw [hc]; decide), if_pos hc, quote_blanks, Option.map_map, List.drop_one, List.tail_cons]
  congr 1
  funext x
  simp only [Function.comp_apply]; omega
theorem quote_back_one {q : Nat} {l : List UInt8} (h : endK l = 1) : quoteK q 92 l = (quoteK q 0 (l.drop 1)).map (· + 1) := by
 cases l with
 | nil => cases h
 | cons c r =>
  rw [endK] at h;cases hl : lfB c.toNat
  ·rw [hl] at h; simp at h
  ·rw [if_pos hl] at h;have hc := lf_is.1 hl;cases hs : startsWith (23 - c.toNat) r
   ·rw [quote_cons, if_pos rfl, if_pos hl, quote_same (by omega) (fun c' r' e g => ?_) (fun c' r' e g => by omega), List.drop_one, List.tail_cons];subst e;rw [startsWith] at hs;have : c'.toNat ≠ 23 - c.toNat := by simpa using hs
    omega
   ·rw [hs, if_pos rfl] at h; omega
theorem quote_back_two {q : Nat} {l : List UInt8} (h : endK l = 2) : quoteK q 92 l = (quoteK q 0 (l.drop 2)).map (· + 2) := by
 cases l with
 | nil => cases h
 | cons c r =>
  rw [endK] at h;cases hl : lfB c.toNat
  ·rw [hl] at h; simp at h
  ·rw [if_pos hl] at h;have hc := lf_is.1 hl;cases hs : startsWith (23 - c.toNat) r
   ·rw [hs] at h; simp at h
   ·cases r with
    | nil => cases hs
    | cons d r =>
     have hd' : d.toNat = 23 - c.toNat := by rw [startsWith] at hs; simpa using hs
     rw [quote_cons, if_pos rfl, if_pos hl, quote_cons, if_neg (by omega), if_pos ⟨hl, by omega⟩, Option.map_map]
     rfl
def quoteN (q : Nat) (l : List UInt8) : Nat := match quoteK q 0 l with | some n => n + 1 | none => 0
structure QAt (s : ByteArray) (q i p : Nat) : Prop where
 ge : i + 1 <= p
 le : p <= s.size + 1
 says : quoteK q 0 (s.data.toList.drop (i + 1)) = (quoteK q 0 (s.data.toList.drop p)).map (· + (p - (i + 1)))
theorem QAt.some {s : ByteArray} {q i p : Nat} (h : QAt s q i p) (hs : quoteK q 0 (s.data.toList.drop p) = Option.some 1) : quoteN q (s.data.toList.drop (i + 1)) = p + 1 - i := by
 have hg := h.ge;unfold quoteN; rw [h.says, hs]
 simp only [Option.map_some]; omega

open Go.Lib renaming hid → qh
open Go.RowKit
theorem body_cons (cl : List UInt8) (first : Bool) (p : Nat) (c : UInt8) (r : List UInt8) : bodyL cl first p (c :: r) = if cl.isPrefixOf (c :: r) = true then some ([], cl.length)
  else if lfB c.toNat = true then
   (if p + c.toNat = 23 then (bodyL cl false 0 r).map fun x => (x.1, x.2 + 1)
   else (bodyL cl false c.toNat r).map fun x => (if first then x.1 else 10 :: x.1, x.2 + 1))
  else (bodyL cl false 0 r).map fun x => (c :: x.1, x.2 + 1) := rfl

open Go.Lib renaming hid → qh
open Go.RowKit
def lastB (s : ByteArray) (i p : Nat) : Nat := if p = i then 0 else byteAt s (p - 1)
theorem num_yes {s : ByteArray} {hex : Bool} {i p : Nat} (hip : i <= p) (h : p < s.size) (hc : numC hex (lastB s i p) (byteAt s p) = true) :
  numRun hex (lastB s i p) (s.data.toList.drop p) = numRun hex (lastB s i (p + 1)) (s.data.toList.drop (p + 1)) + 1 := by
 obtain ⟨c, e, hl⟩ := drop_at s p h;have hL : lastB s i (p + 1) = byteAt s p := by unfold lastB; rw [if_neg (by omega), Nat.add_sub_cancel]
 rw [hl, numRun, e, if_pos hc, hL]
theorem num_no {s : ByteArray} {hex : Bool} {L p : Nat} (h : p < s.size) (hc : numC hex L (byteAt s p) = false) : numRun hex L (s.data.toList.drop p) = 0 := by
 obtain ⟨c, e, hl⟩ := drop_at s p h;rw [hl, numRun, e, if_neg (by rw [hc]; decide)]
def numB (a b : Nat) : Bool := digitB a || (decide (a = 46) && digitB b)
theorem numL_eq (s : ByteArray) (i : Nat) : numL (s.data.toList.drop i) = if numB (hd (s.data.toList.drop i)) (hd (s.data.toList.drop (i + 1))) = true then numRun (hexP (s.data.toList.drop i)) 0 (s.data.toList.drop i) else 0 := by
 unfold numL numB;rw [next_hd]
end Go.Proofs.YtnkejjlidgnkkaaGreatDoor.Lex
