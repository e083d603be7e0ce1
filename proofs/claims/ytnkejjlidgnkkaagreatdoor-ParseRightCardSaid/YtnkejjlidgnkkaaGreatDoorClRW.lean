/-
  A part of the proof.
-/
import Derived.Shelf.Strings.Builder1
import Derived.Shelf.Strings.Builder2
import Derived.Shelf.Small.Utf8
import Derived.Shelf.Small.Strs
import Derived.Shelf.Strings.BuilderF
import Derived.Shelf.Strings.BuilderK
import Derived.Shelf.Strconv.Itoa0
import Derived.Shelf.Strconv.Itoa1
import Derived.Shelf.LaysM
import Derived.Shelf.Strconv.Itoa2
import Derived.Shelf.Strconv.Itoa3
import Derived.Shelf.Strconv.Clone
import Derived.Ground.MpProg
import Derived.Shelf.Pu.ParseUintPublic10
import Derived.Shelf.Pu.ErrVarParseUint
import Derived.Shelf.Strings.Search1
import Derived.Shelf.Strings.Search2
import Derived.Shelf.Strings.Search3
import Derived.Shelf.Strings.Count
import Derived.Shelf.Strings.Shaped
import Derived.Shelf.Strings.Prefix
import Derived.Shelf.Strings.Runes
import Derived.Shelf.Strings.IndexAny
import Derived.Shelf.Strings.AsciiSet
import Derived.Shelf.Strings.IndexAnyAll
import Derived.Shelf.Bits.Mul64
import Derived.Shelf.Strings.Repeat
import Derived.Test.YtnkejjlidgnkkaaGreatDoorProg
import Derived.Lib.ParseIntBCases
import Derived.Lib.AppendIntMem
import Derived.Lib.AtoiErrMem
import Derived.OneCell
import Derived.Deep.DeepCutAuto
import Derived.Deep.CutBlock
import Derived.Deep.LoopGhost
import Derived.Laws.Rows
import Derived.Lib.Hide
import Derived.Test.YtnkejjlidgnkkaaGreatDoorClRB
set_option maxRecDepth 100000
set_option maxHeartbeats 40000000
namespace Go.Proofs

open Go.Lib renaming hid → qh
open Go.Shelf
def Tryz.lays169_ren : Go.Shelf.Ren := ⟨fun | 169 => 39 | n => n, fun | 70 => 77 | 9 => 9 | 0 => 0 | 72 => 80 | 37 => 78 | 127 => 116 | 3 => 3 | 5 => 5 | n => n, fun | n => n⟩
theorem Tryz.lays169 : Go.Proofs.Lays.n169 Tryz.prog Tryz.lays169_ren := {
 mixed := by kernel_rfl
 f169 := Tryz.func39.trans (congrArg some (by kernel_rfl))
 t0 := Tryz.underlying0
 a0 := Tryz.isAgg0
 z0 := Tryz.sizeOf0
 v0 := Tryz.zeroValue0
 t3 := Tryz.underlying3
 a3 := Tryz.isAgg3
 z3 := Tryz.sizeOf3
 v3 := Tryz.zeroValue3
 t9 := Tryz.underlying9
 a9 := Tryz.isAgg9
 z9 := Tryz.sizeOf9
 v9 := Tryz.zeroValue9
 t37 := Tryz.underlying78
 a37 := Tryz.isAgg78
 z37 := Tryz.sizeOf78
 v37 := Tryz.zeroValue78
 t70 := Tryz.underlying77
 a70 := Tryz.isAgg77
 z70 := Tryz.sizeOf77
 v70 := Tryz.zeroValue77
 t72 := Tryz.underlying80
 a72 := Tryz.isAgg80
 z72 := Tryz.sizeOf80
 v72 := Tryz.zeroValue80
 t127 := Tryz.underlying116
 a127 := Tryz.isAgg116
 z127 := Tryz.sizeOf116
 v127 := Tryz.zeroValue116 }
theorem Tryz.Builder_Extra_169 : Builder.Extra Tryz.prog Tryz.lays169_ren := {
 sizeBuilder := by kernel_rfl
 liesBuilder := by kernel_rfl
 t5 := Tryz.underlying5
 a5 := Tryz.isAgg5
 z5 := Tryz.sizeOf5
 v5 := Tryz.zeroValue5
 infoByte := by kernel_rfl
 cellsByte := by kernel_rfl
 sizeByte := by kernel_rfl
 neB5 := by decide }
def Tryz.lays137_ren : Go.Shelf.Ren := ⟨fun | 137 => 92 | 217 => 126 | 266 => 153 | n => n, fun | 9 => 9 | 5 => 5 | 3 => 3 | n => n, fun | n => n⟩
theorem Tryz.lays137 : Go.Proofs.Lays.n137 Tryz.prog Tryz.lays137_ren := {
 mixed := by kernel_rfl
 f137 := Tryz.func92.trans (congrArg some (by kernel_rfl))
 f217 := Tryz.func126.trans (congrArg some (by kernel_rfl))
 f266 := Tryz.func153.trans (congrArg some (by kernel_rfl))
 t3 := Tryz.underlying3
 a3 := Tryz.isAgg3
 z3 := Tryz.sizeOf3
 v3 := Tryz.zeroValue3
 t5 := Tryz.underlying5
 a5 := Tryz.isAgg5
 z5 := Tryz.sizeOf5
 v5 := Tryz.zeroValue5
 t9 := Tryz.underlying9
 a9 := Tryz.isAgg9
 z9 := Tryz.sizeOf9
 v9 := Tryz.zeroValue9 }
open Go.RowKit in
theorem Tryz.strings_IndexByte (s : ByteArray) (c : Int) (w : World) :
  Calls Tryz.prog 92 #[.string s, .int .u8 c] w fun e w' => e = .returned (.int .i64 (Lib.indexByte s.data.toList c.toNat.toUInt8)) /\ w' = w := Any.strings_IndexByte Tryz.lays137 s c w
open Go.RowKit in
theorem Tryz.Builder_String_any_f (B b : Nat) (l : List UInt8) (w : World) (h : Lib.IsBuilderF 80 5 B b (Lib.byteCells l) w) (hBw : B <= w.heap.size) :
  Calls Tryz.prog 39 #[.pointer (some ⟨b, 0, none⟩)] w fun e w' => e = .returned (.string ⟨l.toArray⟩) /\ (Lib.IsBuilderF 80 5 B b (Lib.byteCells l) w' /\ Below B w w') := Any.Builder_String_any_f Tryz.lays169 Tryz.Builder_Extra_169 B b l w h hBw
def Tryz.laysM316_ren : Go.Shelf.Ren := ⟨fun | 316 => 125 | n => n, fun | 9 => 9 | 3 => 3 | 4 => 4 | 37 => 78 | 0 => 0 | 127 => 116 | 5 => 5 | n => n, fun | n => n⟩
theorem Tryz.laysM316 : Go.Proofs.LaysM.n316 Tryz.prog Tryz.laysM316_ren := {
 mixed := by kernel_rfl
 f316 := Tryz.func125.trans (congrArg some (by kernel_rfl))
 t0 := Tryz.underlying0
 a0 := Tryz.isAgg0
 z0 := Tryz.sizeOf0
 v0 := Tryz.zeroValue0
 t3 := Tryz.underlying3
 a3 := Tryz.isAgg3
 z3 := Tryz.sizeOf3
 v3 := Tryz.zeroValue3
 t4 := Tryz.underlying4
 a4 := Tryz.isAgg4
 z4 := Tryz.sizeOf4
 v4 := Tryz.zeroValue4
 t9 := Tryz.underlying9
 a9 := Tryz.isAgg9
 z9 := Tryz.sizeOf9
 v9 := Tryz.zeroValue9
 t37 := Tryz.underlying78
 a37 := Tryz.isAgg78
 z37 := Tryz.sizeOf78
 v37 := Tryz.zeroValue78
 t127 := Tryz.underlying116
 a127 := Tryz.isAgg116
 z127 := Tryz.sizeOf116
 v127 := Tryz.zeroValue116
 t5 := Tryz.underlying5
 a5 := Tryz.isAgg5
 z5 := Tryz.sizeOf5
 v5 := Tryz.zeroValue5
 i0 := by kernel_rfl
 i3 := by kernel_rfl
 i4 := by kernel_rfl
 i5 := by kernel_rfl
 i9 := by kernel_rfl
 i37 := by kernel_rfl
 i127 := by kernel_rfl }
open Go.RowKit in
theorem Tryz.stringslite_Clone (s : ByteArray) (w : World) (hlim : s.size <= 281474976710656) :
  Calls Tryz.prog 125 #[.string s] w fun e w' => e = .returned (.string s) /\ Below w.heap.size w w' := Any.stringslite_Clone Tryz.laysM316 s w hlim
def Tryz.laysPu14_ren : Go.Shelf.Ren := ⟨fun | 14 => 156 | 16 => 180 | 17 => 181 | 19 => 188 | 20 => 189 | 21 => 190 | 22 => 191 | 23 => 192 | 24 => 193 | 25 => 125 | 27 => 198 | 26 => 197 | 28 => 200 | 29 => 201 | 30 => 202 | 31 => 203 | 32 => 204 | 33 => 205 | 35 => 207 | 34 => 206 | 36 => 208 | 37 => 209 | 38 => 210 | 39 => 211 | 40 => 212 | n => n, fun | 9 => 9 | 3 => 3 | 22 => 113 | 24 => 83 | 25 => 150 | 4 => 4 | 34 => 172 | 5 => 5 | 36 => 73 | 37 => 78 | 0 => 0 | 39 => 174 | 21 => 21 | 44 => 180 | 47 => 116 | 50 => 184 | 48 => 182 | 2 => 2 | 52 => 186 | 55 => 189 | 59 => 192 | 60 => 110 | 20 => 20 | 61 => 193 | 65 => 196 | 66 => 197 | 67 => 52 | n => n, fun | 0 => 3 | 1 => 4 | 2 => 5 | 3 => 6 | 4 => 7 | n => n⟩
theorem Tryz.laysPu14 : Go.Proofs.LaysPu.n14 Tryz.prog Tryz.laysPu14_ren := {
 mixed := by kernel_rfl
 f14 := Tryz.func156.trans (congrArg some (by kernel_rfl))
 f16 := Tryz.func180.trans (congrArg some (by kernel_rfl))
 f17 := Tryz.func181.trans (congrArg some (by kernel_rfl))
 f19 := Tryz.func188.trans (congrArg some (by kernel_rfl))
 f20 := Tryz.func189.trans (congrArg some (by kernel_rfl))
 f21 := Tryz.func190.trans (congrArg some (by kernel_rfl))
 f22 := Tryz.func191.trans (congrArg some (by kernel_rfl))
 f23 := Tryz.func192.trans (congrArg some (by kernel_rfl))
 f24 := Tryz.func193.trans (congrArg some (by kernel_rfl))
 f25 := Tryz.func125.trans (congrArg some (by kernel_rfl))
 f26 := Tryz.func197.trans (congrArg some (by kernel_rfl))
 f27 := Tryz.func198.trans (congrArg some (by kernel_rfl))
 f28 := Tryz.func200.trans (congrArg some (by kernel_rfl))
 f29 := Tryz.func201.trans (congrArg some (by kernel_rfl))
 f30 := Tryz.func202.trans (congrArg some (by kernel_rfl))
 f31 := Tryz.func203.trans (congrArg some (by kernel_rfl))
 f32 := Tryz.func204.trans (congrArg some (by kernel_rfl))
 f33 := Tryz.func205.trans (congrArg some (by kernel_rfl))
 f34 := Tryz.func206.trans (congrArg some (by kernel_rfl))
 f35 := Tryz.func207.trans (congrArg some (by kernel_rfl))
 f36 := Tryz.func208.trans (congrArg some (by kernel_rfl))
 f37 := Tryz.func209.trans (congrArg some (by kernel_rfl))
 f38 := Tryz.func210.trans (congrArg some (by kernel_rfl))
 f39 := Tryz.func211.trans (congrArg some (by kernel_rfl))
 f40 := Tryz.func212.trans (congrArg some (by kernel_rfl))
 t0 := Tryz.underlying0
 a0 := Tryz.isAgg0
 z0 := Tryz.sizeOf0
 v0 := Tryz.zeroValue0
 i0 := by kernel_rfl
 t2 := Tryz.underlying2
 a2 := Tryz.isAgg2
 z2 := Tryz.sizeOf2
 v2 := Tryz.zeroValue2
 i2 := by kernel_rfl
 t3 := Tryz.underlying3
 a3 := Tryz.isAgg3
 z3 := Tryz.sizeOf3
 v3 := Tryz.zeroValue3
 i3 := by kernel_rfl
 t4 := Tryz.underlying4
 a4 := Tryz.isAgg4
 z4 := Tryz.sizeOf4
 v4 := Tryz.zeroValue4
 i4 := by kernel_rfl
 t5 := Tryz.underlying5
 a5 := Tryz.isAgg5
 z5 := Tryz.sizeOf5
 v5 := Tryz.zeroValue5
 i5 := by kernel_rfl
 t9 := Tryz.underlying9
 a9 := Tryz.isAgg9
 z9 := Tryz.sizeOf9
 v9 := Tryz.zeroValue9
 i9 := by kernel_rfl
 t20 := Tryz.underlying20
 a20 := Tryz.isAgg20
 z20 := Tryz.sizeOf20
 v20 := Tryz.zeroValue20
 i20 := by kernel_rfl
 t21 := Tryz.underlying21
 a21 := Tryz.isAgg21
 z21 := Tryz.sizeOf21
 v21 := Tryz.zeroValue21
 i21 := by kernel_rfl
 t22 := Tryz.underlying113
 a22 := Tryz.isAgg113
 z22 := Tryz.sizeOf113
 v22 := Tryz.zeroValue113
 i22 := by kernel_rfl
 t24 := Tryz.underlying83
 a24 := Tryz.isAgg83
 z24 := Tryz.sizeOf83
 v24 := Tryz.zeroValue83
 i24 := by kernel_rfl
 t25 := Tryz.underlying150
 a25 := Tryz.isAgg150
 z25 := Tryz.sizeOf150
 v25 := Tryz.zeroValue150
 i25 := by kernel_rfl
 t34 := Tryz.underlying172
 a34 := Tryz.isAgg172
 z34 := Tryz.sizeOf172
 v34 := Tryz.zeroValue172
 i34 := by kernel_rfl
 c34 := by kernel_rfl
 t36 := Tryz.underlying73
 a36 := Tryz.isAgg73
 z36 := Tryz.sizeOf73
 v36 := Tryz.zeroValue73
 i36 := by kernel_rfl
 t37 := Tryz.underlying78
 a37 := Tryz.isAgg78
 z37 := Tryz.sizeOf78
 v37 := Tryz.zeroValue78
 i37 := by kernel_rfl
 t39 := Tryz.underlying174
 a39 := Tryz.isAgg174
 z39 := Tryz.sizeOf174
 v39 := Tryz.zeroValue174
 i39 := by kernel_rfl
 t44 := Tryz.underlying180
 a44 := Tryz.isAgg180
 z44 := Tryz.sizeOf180
 v44 := Tryz.zeroValue180
 i44 := by kernel_rfl
 t47 := Tryz.underlying116
 a47 := Tryz.isAgg116
 z47 := Tryz.sizeOf116
 v47 := Tryz.zeroValue116
 i47 := by kernel_rfl
 t48 := Tryz.underlying182
 a48 := Tryz.isAgg182
 z48 := Tryz.sizeOf182
 v48 := Tryz.zeroValue182
 i48 := by kernel_rfl
 t50 := Tryz.underlying184
 a50 := Tryz.isAgg184
 z50 := Tryz.sizeOf184
 v50 := Tryz.zeroValue184
 i50 := by kernel_rfl
 t52 := Tryz.underlying186
 a52 := Tryz.isAgg186
 z52 := Tryz.sizeOf186
 v52 := Tryz.zeroValue186
 i52 := by kernel_rfl
 t55 := Tryz.underlying189
 a55 := Tryz.isAgg189
 z55 := Tryz.sizeOf189
 v55 := Tryz.zeroValue189
 i55 := by kernel_rfl
 t59 := Tryz.underlying192
 a59 := Tryz.isAgg192
 z59 := Tryz.sizeOf192
 v59 := Tryz.zeroValue192
 i59 := by kernel_rfl
 t60 := Tryz.underlying110
 a60 := Tryz.isAgg110
 z60 := Tryz.sizeOf110
 v60 := Tryz.zeroValue110
 i60 := by kernel_rfl
 t61 := Tryz.underlying193
 a61 := Tryz.isAgg193
 z61 := Tryz.sizeOf193
 t65 := Tryz.underlying196
 a65 := Tryz.isAgg196
 z65 := Tryz.sizeOf196
 v65 := Tryz.zeroValue196
 i65 := by kernel_rfl
 t66 := Tryz.underlying197
 a66 := Tryz.isAgg197
 z66 := Tryz.sizeOf197
 v66 := Tryz.zeroValue197
 i66 := by kernel_rfl
 t67 := Tryz.underlying52
 a67 := Tryz.isAgg52
 z67 := Tryz.sizeOf52
 v67 := Tryz.zeroValue52
 i67 := by kernel_rfl
 g0 := by kernel_rfl
 m0 := by kernel_rfl
 g1 := by kernel_rfl
 m1 := by kernel_rfl
 g2 := by kernel_rfl
 m2 := by kernel_rfl
 g3 := by kernel_rfl
 m3 := by kernel_rfl
 g4 := by kernel_rfl
 m4 := by kernel_rfl }
open Go.RowKit in
theorem Tryz.strconv_ParseUint_10_at64_ok (s : ByteArray) (hmax : s.size <= 9223372036854775806) (u : Nat) (h : Lib.parseUintB 64 s.data.toList = .ok u) (w : World) :
  Calls Tryz.prog 156 #[.string s, .int .i64 10, .int .i64 64] w fun e w' => e = .returned (.tuple #[.int .u64 u, .nilIface]) /\ (w' = w \/ w' = Lib.bytesWorld w 5 s) := Any.strconv_ParseUint_10_at64_ok Tryz.laysPu14 s hmax u h w
def Tryz.lays143_ren : Go.Shelf.Ren := ⟨fun | 143 => 95 | 219 => 131 | 217 => 126 | 225 => 161 | 224 => 162 | 267 => 163 | 266 => 153 | 314 => 183 | n => n, fun | 9 => 9 | 3 => 3 | 4 => 4 | 5 => 5 | 46 => 73 | 146 => 111 | 51 => 110 | n => n, fun | 1 => 1 | n => n⟩
theorem Tryz.lays143 : Go.Proofs.Lays.n143 Tryz.prog Tryz.lays143_ren := {
 mixed := by kernel_rfl
 f143 := Tryz.func95.trans (congrArg some (by kernel_rfl))
 f217 := Tryz.func126.trans (congrArg some (by kernel_rfl))
 f219 := Tryz.func131.trans (congrArg some (by kernel_rfl))
 f224 := Tryz.func162.trans (congrArg some (by kernel_rfl))
 f225 := Tryz.func161.trans (congrArg some (by kernel_rfl))
 f266 := Tryz.func153.trans (congrArg some (by kernel_rfl))
 f267 := Tryz.func163.trans (congrArg some (by kernel_rfl))
 f314 := Tryz.func183.trans (congrArg some (by kernel_rfl))
 t3 := Tryz.underlying3
 a3 := Tryz.isAgg3
 z3 := Tryz.sizeOf3
 v3 := Tryz.zeroValue3
 t4 := Tryz.underlying4
 a4 := Tryz.isAgg4
 z4 := Tryz.sizeOf4
 v4 := Tryz.zeroValue4
 t5 := Tryz.underlying5
 a5 := Tryz.isAgg5
 z5 := Tryz.sizeOf5
 v5 := Tryz.zeroValue5
 t9 := Tryz.underlying9
 a9 := Tryz.isAgg9
 z9 := Tryz.sizeOf9
 v9 := Tryz.zeroValue9
 t46 := Tryz.underlying73
 a46 := Tryz.isAgg73
 z46 := Tryz.sizeOf73
 v46 := Tryz.zeroValue73
 t51 := Tryz.underlying110
 a51 := Tryz.isAgg110
 z51 := Tryz.sizeOf110
 v51 := Tryz.zeroValue110
 t146 := Tryz.underlying111
 a146 := Tryz.isAgg111
 z146 := Tryz.sizeOf111
 v146 := Tryz.zeroValue111
 g1 := by kernel_rfl }
open Go.RowKit Go.Lib in
theorem Tryz.strings_Index (s sub : ByteArray) (m : Int) (w : World) (hs : s.size < 4294967281) (hm : w.cell? ⟨1, 0, none⟩ = some (.int .i64 m)) :
  Calls Tryz.prog 95 #[.string s, .string sub] w fun e w' => e = .returned (.int .i64 (Lib.index s.data.toList sub.data.toList)) /\ w' = w := Any.strings_Index Tryz.lays143 s sub m w hs hm
def Tryz.lays138_ren : Go.Shelf.Ren := ⟨fun | 138 => 52 | 195 => 99 | 218 => 100 | 143 => 95 | 219 => 131 | 217 => 126 | 225 => 161 | 224 => 162 | 267 => 163 | 266 => 153 | 314 => 183 | n => n, fun | 9 => 9 | 3 => 3 | 4 => 4 | 5 => 5 | 0 => 0 | 46 => 73 | 146 => 111 | 51 => 110 | n => n, fun | 1 => 1 | n => n⟩
theorem Tryz.lays138 : Go.Proofs.Lays.n138 Tryz.prog Tryz.lays138_ren := {
 mixed := by kernel_rfl
 f138 := Tryz.func52.trans (congrArg some (by kernel_rfl))
 f143 := Tryz.func95.trans (congrArg some (by kernel_rfl))
 f195 := Tryz.func99.trans (congrArg some (by kernel_rfl))
 f217 := Tryz.func126.trans (congrArg some (by kernel_rfl))
 f218 := Tryz.func100.trans (congrArg some (by kernel_rfl))
 f219 := Tryz.func131.trans (congrArg some (by kernel_rfl))
 f224 := Tryz.func162.trans (congrArg some (by kernel_rfl))
 f225 := Tryz.func161.trans (congrArg some (by kernel_rfl))
 f266 := Tryz.func153.trans (congrArg some (by kernel_rfl))
 f267 := Tryz.func163.trans (congrArg some (by kernel_rfl))
 f314 := Tryz.func183.trans (congrArg some (by kernel_rfl))
 t0 := Tryz.underlying0
 a0 := Tryz.isAgg0
 z0 := Tryz.sizeOf0
 v0 := Tryz.zeroValue0
 t3 := Tryz.underlying3
 a3 := Tryz.isAgg3
 z3 := Tryz.sizeOf3
 v3 := Tryz.zeroValue3
 t4 := Tryz.underlying4
 a4 := Tryz.isAgg4
 z4 := Tryz.sizeOf4
 v4 := Tryz.zeroValue4
 t5 := Tryz.underlying5
 a5 := Tryz.isAgg5
 z5 := Tryz.sizeOf5
 v5 := Tryz.zeroValue5
 t9 := Tryz.underlying9
 a9 := Tryz.isAgg9
 z9 := Tryz.sizeOf9
 v9 := Tryz.zeroValue9
 t46 := Tryz.underlying73
 a46 := Tryz.isAgg73
 z46 := Tryz.sizeOf73
 v46 := Tryz.zeroValue73
 t51 := Tryz.underlying110
 a51 := Tryz.isAgg110
 z51 := Tryz.sizeOf110
 v51 := Tryz.zeroValue110
 t146 := Tryz.underlying111
 a146 := Tryz.isAgg111
 z146 := Tryz.sizeOf111
 v146 := Tryz.zeroValue111
 g1 := by kernel_rfl }
open Go.RowKit Go.Lib in
theorem Tryz.strings_Count_one (s : ByteArray) (c : UInt8) (w : World) :
  Calls Tryz.prog 52 #[.string s, .string ⟨#[c]⟩] w fun e w' => e = .returned (.int .i64 (Lib.countByte s.data.toList c)) /\ w' = w := Any.strings_Count_one Tryz.lays138 s c w
def Tryz.laysM143_ren : Go.Shelf.Ren := ⟨fun | 143 => 95 | 219 => 131 | 217 => 126 | 225 => 161 | 224 => 162 | 267 => 163 | 266 => 153 | 314 => 183 | n => n, fun | 9 => 9 | 3 => 3 | 4 => 4 | 5 => 5 | 46 => 73 | 146 => 111 | 51 => 110 | n => n, fun | 1 => 1 | n => n⟩
theorem Tryz.laysM143 : Go.Proofs.LaysM.n143 Tryz.prog Tryz.laysM143_ren := {
 mixed := by kernel_rfl
 f143 := Tryz.func95.trans (congrArg some (by kernel_rfl))
 f217 := Tryz.func126.trans (congrArg some (by kernel_rfl))
 f219 := Tryz.func131.trans (congrArg some (by kernel_rfl))
 f224 := Tryz.func162.trans (congrArg some (by kernel_rfl))
 f225 := Tryz.func161.trans (congrArg some (by kernel_rfl))
 f266 := Tryz.func153.trans (congrArg some (by kernel_rfl))
 f267 := Tryz.func163.trans (congrArg some (by kernel_rfl))
 f314 := Tryz.func183.trans (congrArg some (by kernel_rfl))
 t3 := Tryz.underlying3
 a3 := Tryz.isAgg3
 z3 := Tryz.sizeOf3
 v3 := Tryz.zeroValue3
 t4 := Tryz.underlying4
 a4 := Tryz.isAgg4
 z4 := Tryz.sizeOf4
 v4 := Tryz.zeroValue4
 t5 := Tryz.underlying5
 a5 := Tryz.isAgg5
 z5 := Tryz.sizeOf5
 v5 := Tryz.zeroValue5
 t9 := Tryz.underlying9
 a9 := Tryz.isAgg9
 z9 := Tryz.sizeOf9
 v9 := Tryz.zeroValue9
 t46 := Tryz.underlying73
 a46 := Tryz.isAgg73
 z46 := Tryz.sizeOf73
 v46 := Tryz.zeroValue73
 t51 := Tryz.underlying110
 a51 := Tryz.isAgg110
 z51 := Tryz.sizeOf110
 v51 := Tryz.zeroValue110
 t146 := Tryz.underlying111
 a146 := Tryz.isAgg111
 z146 := Tryz.sizeOf111
 v146 := Tryz.zeroValue111
 g1 := by kernel_rfl
 i3 := by kernel_rfl
 i4 := by kernel_rfl
 i5 := by kernel_rfl
 i9 := by kernel_rfl
 i46 := by kernel_rfl
 i51 := by kernel_rfl
 i146 := by kernel_rfl
 m1 := by kernel_rfl
 s1_3 := fun w h => Go.Proofs.cell_of_shapedOpen_int (zero := #[.int .i64 0]) (t := 3) h (of_decide_eq_true (by kernel_rfl)) (by kernel_rfl) rfl (by kernel_rfl) (by kernel_rfl) Tryz.underlying3 }
def Tryz.lays99_ren : Go.Shelf.Ren := ⟨fun | 99 => 35 | 206 => 81 | n => n, fun | 9 => 9 | 4 => 4 | 3 => 3 | n => n, fun | n => n⟩
theorem Tryz.lays99 : Go.Proofs.Lays.n99 Tryz.prog Tryz.lays99_ren := {
 mixed := by kernel_rfl
 f99 := Tryz.func35.trans (congrArg some (by kernel_rfl))
 f206 := Tryz.func81.trans (congrArg some (by kernel_rfl))
 t3 := Tryz.underlying3
 a3 := Tryz.isAgg3
 z3 := Tryz.sizeOf3
 v3 := Tryz.zeroValue3
 t4 := Tryz.underlying4
 a4 := Tryz.isAgg4
 z4 := Tryz.sizeOf4
 v4 := Tryz.zeroValue4
 t9 := Tryz.underlying9
 a9 := Tryz.isAgg9
 z9 := Tryz.sizeOf9
 v9 := Tryz.zeroValue9 }
open Go.RowKit Go.Lib in
theorem Tryz.strings_HasPrefix (s p : ByteArray) (w : World) :
  Calls Tryz.prog 35 #[.string s, .string p] w fun e w' => e = .returned (.bool (Lib.hasPrefix s.data.toList p.data.toList)) /\ w' = w := Any.strings_HasPrefix Tryz.lays99 s p w
def Tryz.lays101_ren : Go.Shelf.Ren := ⟨fun | 101 => 96 | 208 => 132 | 206 => 81 | n => n, fun | 9 => 9 | 4 => 4 | 3 => 3 | n => n, fun | n => n⟩
theorem Tryz.lays101 : Go.Proofs.Lays.n101 Tryz.prog Tryz.lays101_ren := {
 mixed := by kernel_rfl
 f101 := Tryz.func96.trans (congrArg some (by kernel_rfl))
 f206 := Tryz.func81.trans (congrArg some (by kernel_rfl))
 f208 := Tryz.func132.trans (congrArg some (by kernel_rfl))
 t3 := Tryz.underlying3
 a3 := Tryz.isAgg3
 z3 := Tryz.sizeOf3
 v3 := Tryz.zeroValue3
 t4 := Tryz.underlying4
 a4 := Tryz.isAgg4
 z4 := Tryz.sizeOf4
 v4 := Tryz.zeroValue4
 t9 := Tryz.underlying9
 a9 := Tryz.isAgg9
 z9 := Tryz.sizeOf9
 v9 := Tryz.zeroValue9 }
open Go.RowKit Go.Lib in
theorem Tryz.strings_TrimPrefix (s p : ByteArray) (w : World) :
  Calls Tryz.prog 96 #[.string s, .string p] w fun e w' => e = .returned (.string ⟨(Lib.trimPrefix s.data.toList p.data.toList).toArray⟩) /\ w' = w := Any.strings_TrimPrefix Tryz.lays101 s p w
def Tryz.lays150_ren : Go.Shelf.Ren := ⟨fun | 150 => 94 | 153 => 130 | 152 => 157 | 226 => 158 | 227 => 159 | 228 => 160 | 137 => 92 | 119 => 182 | 224 => 162 | 225 => 161 | 217 => 126 | 266 => 153 | n => n, fun | 9 => 9 | 4 => 4 | 3 => 3 | 5 => 5 | 21 => 21 | 117 => 155 | 116 => 154 | 0 => 0 | 46 => 73 | 124 => 167 | n => n, fun | n => n⟩
theorem Tryz.lays150 : Go.Proofs.Lays.n150 Tryz.prog Tryz.lays150_ren := {
 mixed := by kernel_rfl
 f119 := Tryz.func182.trans (congrArg some (by kernel_rfl))
 f137 := Tryz.func92.trans (congrArg some (by kernel_rfl))
 f150 := Tryz.func94.trans (congrArg some (by kernel_rfl))
 f152 := Tryz.func157.trans (congrArg some (by kernel_rfl))
 f153 := Tryz.func130.trans (congrArg some (by kernel_rfl))
 f217 := Tryz.func126.trans (congrArg some (by kernel_rfl))
 f224 := Tryz.func162.trans (congrArg some (by kernel_rfl))
 f225 := Tryz.func161.trans (congrArg some (by kernel_rfl))
 f226 := Tryz.func158.trans (congrArg some (by kernel_rfl))
 f227 := Tryz.func159.trans (congrArg some (by kernel_rfl))
 f228 := Tryz.func160.trans (congrArg some (by kernel_rfl))
 f266 := Tryz.func153.trans (congrArg some (by kernel_rfl))
 t0 := Tryz.underlying0
 a0 := Tryz.isAgg0
 z0 := Tryz.sizeOf0
 v0 := Tryz.zeroValue0
 t3 := Tryz.underlying3
 a3 := Tryz.isAgg3
 z3 := Tryz.sizeOf3
 v3 := Tryz.zeroValue3
 t4 := Tryz.underlying4
 a4 := Tryz.isAgg4
 z4 := Tryz.sizeOf4
 v4 := Tryz.zeroValue4
 t5 := Tryz.underlying5
 a5 := Tryz.isAgg5
 z5 := Tryz.sizeOf5
 v5 := Tryz.zeroValue5
 t9 := Tryz.underlying9
 a9 := Tryz.isAgg9
 z9 := Tryz.sizeOf9
 v9 := Tryz.zeroValue9
 t21 := Tryz.underlying21
 a21 := Tryz.isAgg21
 z21 := Tryz.sizeOf21
 v21 := Tryz.zeroValue21
 t46 := Tryz.underlying73
 a46 := Tryz.isAgg73
 z46 := Tryz.sizeOf73
 v46 := Tryz.zeroValue73
 t116 := Tryz.underlying154
 a116 := Tryz.isAgg154
 z116 := Tryz.sizeOf154
 t117 := Tryz.underlying155
 a117 := Tryz.isAgg155
 z117 := Tryz.sizeOf155
 v117 := Tryz.zeroValue155
 t124 := Tryz.underlying167
 a124 := Tryz.isAgg167
 z124 := Tryz.sizeOf167
 v124 := Tryz.zeroValue167 }
open Go.RowKit Go.Lib in
theorem Tryz.strings_ContainsAny_laid (s chars : ByteArray) (w : World) (hs : s.size < 4294967281) (hcs : chars.size < 4294967281) (has : ∀ (j : Nat) b, s.data.toList[j]? = some b -> b.toNat < 128) (hac : ∀ (j : Nat) b, chars.data.toList[j]? = some b -> b.toNat < 128) :
  Calls Tryz.prog 94 #[.string s, .string chars] w fun e w' => e = .returned (.bool (Lib.containsAny s.data.toList chars.data.toList)) /\ Below w.heap.size w w' := Any.strings_ContainsAny_laid Tryz.lays150 (by kernel_rfl) s chars w hs hcs has hac
def Tryz.lays105_ren : Go.Shelf.Ren := ⟨fun | 105 => 17 | 212 => 34 | 99 => 35 | 165 => 36 | 166 => 37 | 170 => 38 | 169 => 39 | 263 => 79 | 264 => 80 | 206 => 81 | 240 => 82 | 241 => 83 | 276 => 123 | 277 => 124 | n => n, fun | 9 => 9 | 3 => 3 | 4 => 4 | 20 => 20 | 0 => 0 | 46 => 73 | 109 => 74 | 5 => 5 | 72 => 80 | 76 => 84 | 51 => 110 | 146 => 111 | 53 => 113 | 148 => 114 | 70 => 77 | 37 => 78 | 75 => 83 | 127 => 116 | 164 => 135 | 80 => 52 | n => n, fun | n => n⟩
theorem Tryz.lays105 : Go.Proofs.Lays.n105 Tryz.prog Tryz.lays105_ren := {
 mixed := by kernel_rfl
 f99 := Tryz.func35.trans (congrArg some (by kernel_rfl))
 f105 := Tryz.func17.trans (congrArg some (by kernel_rfl))
 f165 := Tryz.func36.trans (congrArg some (by kernel_rfl))
 f166 := Tryz.func37.trans (congrArg some (by kernel_rfl))
 f169 := Tryz.func39.trans (congrArg some (by kernel_rfl))
 f170 := Tryz.func38.trans (congrArg some (by kernel_rfl))
 f206 := Tryz.func81.trans (congrArg some (by kernel_rfl))
 f212 := Tryz.func34.trans (congrArg some (by kernel_rfl))
 f240 := Tryz.func82.trans (congrArg some (by kernel_rfl))
 f241 := Tryz.func83.trans (congrArg some (by kernel_rfl))
 f263 := Tryz.func79.trans (congrArg some (by kernel_rfl))
 f264 := Tryz.func80.trans (congrArg some (by kernel_rfl))
 f276 := Tryz.func123.trans (congrArg some (by kernel_rfl))
 f277 := Tryz.func124.trans (congrArg some (by kernel_rfl))
 t0 := Tryz.underlying0
 a0 := Tryz.isAgg0
 z0 := Tryz.sizeOf0
 v0 := Tryz.zeroValue0
 t3 := Tryz.underlying3
 a3 := Tryz.isAgg3
 z3 := Tryz.sizeOf3
 v3 := Tryz.zeroValue3
 t4 := Tryz.underlying4
 a4 := Tryz.isAgg4
 z4 := Tryz.sizeOf4
 v4 := Tryz.zeroValue4
 t5 := Tryz.underlying5
 a5 := Tryz.isAgg5
 z5 := Tryz.sizeOf5
 v5 := Tryz.zeroValue5
 t9 := Tryz.underlying9
 a9 := Tryz.isAgg9
 z9 := Tryz.sizeOf9
 v9 := Tryz.zeroValue9
 t20 := Tryz.underlying20
 a20 := Tryz.isAgg20
 z20 := Tryz.sizeOf20
 v20 := Tryz.zeroValue20
 t37 := Tryz.underlying78
 a37 := Tryz.isAgg78
 z37 := Tryz.sizeOf78
 v37 := Tryz.zeroValue78
 t46 := Tryz.underlying73
 a46 := Tryz.isAgg73
 z46 := Tryz.sizeOf73
 v46 := Tryz.zeroValue73
 t51 := Tryz.underlying110
 a51 := Tryz.isAgg110
 z51 := Tryz.sizeOf110
 v51 := Tryz.zeroValue110
 t53 := Tryz.underlying113
 a53 := Tryz.isAgg113
 z53 := Tryz.sizeOf113
 v53 := Tryz.zeroValue113
 t70 := Tryz.underlying77
 a70 := Tryz.isAgg77
 z70 := Tryz.sizeOf77
 v70 := Tryz.zeroValue77
 t72 := Tryz.underlying80
 a72 := Tryz.isAgg80
 z72 := Tryz.sizeOf80
 v72 := Tryz.zeroValue80
 t75 := Tryz.underlying83
 a75 := Tryz.isAgg83
 z75 := Tryz.sizeOf83
 v75 := Tryz.zeroValue83
 t76 := Tryz.underlying84
 a76 := Tryz.isAgg84
 z76 := Tryz.sizeOf84
 v76 := Tryz.zeroValue84
 t109 := Tryz.underlying74
 a109 := Tryz.isAgg74
 z109 := Tryz.sizeOf74
 v109 := Tryz.zeroValue74
 t127 := Tryz.underlying116
 a127 := Tryz.isAgg116
 z127 := Tryz.sizeOf116
 v127 := Tryz.zeroValue116
 t146 := Tryz.underlying111
 a146 := Tryz.isAgg111
 z146 := Tryz.sizeOf111
 v146 := Tryz.zeroValue111
 t148 := Tryz.underlying114
 a148 := Tryz.isAgg114
 z148 := Tryz.sizeOf114
 v148 := Tryz.zeroValue114
 t164 := Tryz.underlying135
 a164 := Tryz.isAgg135
 z164 := Tryz.sizeOf135
 v164 := Tryz.zeroValue135 }
theorem Tryz.Builder_Extra_105 : Builder.Extra Tryz.prog Tryz.lays105_ren := {
 sizeBuilder := by kernel_rfl
 liesBuilder := by kernel_rfl
 t5 := Tryz.underlying5
 a5 := Tryz.isAgg5
 z5 := Tryz.sizeOf5
 v5 := Tryz.zeroValue5
 infoByte := by kernel_rfl
 cellsByte := by kernel_rfl
 sizeByte := by kernel_rfl
 neB5 := by decide }
open Go.RowKit Go.Lib in
theorem Tryz.strings_Repeat (s : ByteArray) (c : Nat) (w : World) (hc : c <= 9223372036854775807) (hlen : s.size * c <= 140737488355328) :
  Calls Tryz.prog 17 #[.string s, .int .i64 c] w fun e w' => e = .returned (.string ⟨(Lib.repeatL s.data.toList c).toArray⟩) /\ Below w.heap.size w w' := Any.strings_Repeat Tryz.lays105 Tryz.Builder_Extra_105 s c w hc hlen
end Go.Proofs
namespace Go.Proofs.YtnkejjlidgnkkaaGreatDoor.Num

open Go.Lib renaming hid → qh
open Go.RowKit
theorem runes_digit (b : Nat) (w : World) (hb : b < 256) :
  Calls Tryz.prog 47 #[.int .u8 b] w fun e w' => e = .returned (.bool (digitB b)) /\ w = w' := by
 go_enter Tryz.func47, Tryz.ntmps47;go_wp2
 all_goals
  go_ret;refine ⟨ret_bool ?_, rfl⟩;unfold digitB;rw [Bool.eq_iff_iff]
  first | (simp; done) | (simp; omega)
theorem runes_space (b : Nat) (w : World) (hb : b < 256) :
  Calls Tryz.prog 42 #[.int .u8 b] w fun e w' => e = .returned (.bool (spaceB b)) /\ w = w' := by
 go_enter Tryz.func42, Tryz.ntmps42;go_wp2
 all_goals
  go_ret;refine ⟨ret_bool ?_, rfl⟩;unfold spaceB;rw [Bool.eq_iff_iff]
  first | (simp; done) | (simp; omega)
theorem runes_hex (b : Nat) (w : World) (hb : b < 256) :
  Calls Tryz.prog 154 #[.int .u8 b] w fun e w' => e = .returned (.tuple #[.int .i64 (hexV b), .bool (hexB b)]) /\ w = w' := by
 by_cases h1 : 48 <= b /\ b <= 57
 ·have e1 : hexV b = (b : Int) - 48 := by unfold hexV; rw [if_pos h1]
  have e2 : hexB b = true := by unfold hexB; rw [decide_eq_true (by omega)]
  have hd : digitB b = true := by unfold digitB; rw [decide_eq_true h1]
  obtain ⟨h1, h2⟩ := h1;rw [e1, e2];clear e1 e2;go_enter Tryz.func154, Tryz.ntmps154;go_wp2_with (go_at_call 47; refine (runes_digit _ _ hb).mono ?_; rintro e w' ⟨rfl, rfl⟩);go_ret2;exact ⟨rfl, rfl⟩
 ·have hd : digitB b = false := by unfold digitB; rw [decide_eq_false h1]
  by_cases h2 : 97 <= b /\ b <= 102
  ·have e1 : hexV b = (b : Int) - 97 + 10 := by unfold hexV; rw [if_neg h1, if_pos h2]; omega
   have e2 : hexB b = true := by unfold hexB; rw [decide_eq_true (by omega)]
   obtain ⟨h2, h3⟩ := h2;rw [e1, e2];clear e1 e2 h1;go_enter Tryz.func154, Tryz.ntmps154;go_wp2_with (go_at_call 47; refine (runes_digit _ _ hb).mono ?_; rintro e w' ⟨rfl, rfl⟩);go_ret2;exact ⟨rfl, rfl⟩
  ·by_cases h3 : 65 <= b /\ b <= 70
   ·have e1 : hexV b = (b : Int) - 65 + 10 := by unfold hexV; rw [if_neg h1, if_neg h2, if_pos h3]; omega
    have e2 : hexB b = true := by unfold hexB; rw [decide_eq_true (by omega)]
    obtain ⟨h3, h4⟩ := h3;rw [e1, e2];clear e1 e2 h1 h2;go_enter Tryz.func154, Tryz.ntmps154;go_wp2_with (go_at_call 47; refine (runes_digit _ _ hb).mono ?_; rintro e w' ⟨rfl, rfl⟩);go_ret2;exact ⟨rfl, rfl⟩
   ·have e1 : hexV b = 0 := by unfold hexV; rw [if_neg h1, if_neg h2, if_neg h3]
    have e2 : hexB b = false := by unfold hexB; rw [decide_eq_false (by omega)]
    rw [e1, e2];rcases (show b < 65 \/ 70 < b /\ b < 97 \/ 102 < b from by omega) with g | ⟨g, g'⟩ | g
    all_goals
     clear e1 e2 h1 h2 h3;go_enter Tryz.func154, Tryz.ntmps154;go_wp2_with (go_at_call 47; refine (runes_digit _ _ hb).mono ?_; rintro e w' ⟨rfl, rfl⟩);go_ret2;exact ⟨rfl, rfl⟩
theorem signed_any (n : Nat) (neg : Bool) (w : World) :
  Calls Tryz.prog 155 #[.int .u64 ((n : Int) % 18446744073709551616), .bool neg] w fun e w' => e = .returned (.int .i64 (signN neg n)) /\ w = w' := by
 have h0 : 0 <= (n : Int) % 18446744073709551616 := by omega
 have hlt : (n : Int) % 18446744073709551616 < 18446744073709551616 := by omega
 have e1 : wrap64 ((n : Int) % 18446744073709551616) = signN false n := by unfold signN wrap64; simp only [Bool.false_eq_true, if_false]; omega
 have e2 : wrap64 (IntKind.u64.wrap (-((n : Int) % 18446744073709551616))) = signN true n := by rw [IntKind.wrap_u64]; unfold signN wrap64; simp only [if_true]; omega
 have E1 := qh e1;have E2 := qh e2;clear e1 e2;generalize (n : Int) % 18446744073709551616 = m at *;cases neg
 ·go_enter Tryz.func155, Tryz.ntmps155;go_wp2;go_ret;exact ⟨ret_i64 E1.out, rfl⟩
 ·go_enter Tryz.func155, Tryz.ntmps155;go_wp2;go_ret;exact ⟨ret_i64 E2.out, rfl⟩
theorem hexadecimal_any (s : ByteArray) (neg : Bool) (w : World) (hs : s.size <= 1000000000) :
  Calls Tryz.prog 128 #[.string s, .bool neg] w fun e w' => e = .returned (.tuple #[.int .i64 (hexOf s.data.toList neg).1, .bool (hexOf s.data.toList neg).2]) /\ w = w' := by
 go_enter Tryz.func128, Tryz.ntmps128;go_wp2;go_loop [6, 12] (fun n i => ∃ (k a : Nat), k <= s.size /\ i = .int .i64 k /\ n = .int .u64 ((a : Int) % 18446744073709551616) /\ hexN (s.data.toList.drop k) a = hexN s.data.toList 0) (fun _ i => s.size - (intOf i).toNat)
 case atStart => exact ⟨0, 0, by omega, rfl, rfl, rfl⟩
 case round =>
  obtain ⟨k, a, hk, rfl, rfl, ha⟩ := hrel;have HA := qh ha;clear ha;by_cases hlt : k < s.size
  ·have hlt' : (k : Int) < s.size := by omega
   have hx := run_index_at (P := Tryz.prog) 9 s (k : Int) k Tryz.underlying9 hlt rfl;have hbl := byteAt_lt s k;have hyes := hexN_yes (a := a) hlt;have hno := hexN_no (a := a) hlt;have hvr := hexV_range (byteAt s k);have hc := fun w => runes_hex (byteAt s k) w hbl
   generalize byteAt s k = b at *;generalize hexB b = t at *;obtain ⟨v, hv⟩ : ∃ v : Nat, hexV b = v := ⟨(hexV b).toNat, by omega⟩;rw [hv] at hc hyes;rw [Int.toNat_natCast] at hyes;have hv15 : v <= 15 := by omega
   have ho := or_hex a v hv15;clear hv hvr;cases t
   ·have HN := qh ((hno rfl).symm.trans HA.out);clear hyes hno ho;go_wp2_with fail;refine (hc _).mono ?_;rintro e w1 ⟨rfl, rfl⟩;go_wp2;go_ret2;refine ⟨ret_ib ?_ ?_, rfl⟩
    ·rw [hexOf_none _ HN.out]
    ·rw [hexOf_none _ HN.out]
   ·have HN := qh ((hyes rfl).symm.trans HA.out);clear hyes hno;have HO := qh ho;clear ho;go_wp2_with fail;refine (hc _).mono ?_;rintro e w1 ⟨rfl, rfl⟩;go_wp2;go_round
    case rel => exact ⟨k + 1, a * 16 + v, by omega, by go_num, by rw [HO.out], HN.out⟩
    case measure => simp only [intOf]; omega
  ·obtain rfl : k = s.size := by omega
   have HN := qh ((hexN_end s a).symm.trans HA.out);have he := qh (empty_iff s);go_wp2_with fail;refine (signed_any a neg _).mono ?_;rintro e w1 ⟨rfl, rfl⟩;go_wp2;go_ret2;refine ⟨ret_ib ?_ ?_, rfl⟩
   ·rw [hexOf_some _ HN.out]
   ·rw [hexOf_some _ HN.out, ByteArray.toList_eq]
structure Vars (w : World) : Prop where
 tab : Lib.TabIs Tryz.prog w "internal/strconv.uint64pow10" .u64 Lib.pow10Tab
 bad : ∃ t p, w.var? Tryz.prog "strconv.ErrSyntax" = some #[.iface t p]
 far : ∃ t p, w.var? Tryz.prog "strconv.ErrRange" = some #[.iface t p]
theorem var_below {w w' : World} {n : String} {cs : Array Value} (hb : Below w.heap.size w w') (h : w.var? Tryz.prog n = some cs) : w'.var? Tryz.prog n = some cs := by
 unfold World.var? at h ⊢;cases hg : Tryz.prog.globalNamed n with
 | none => simp [hg] at h
 | some g =>
  simp only [hg, Option.bind_some] at h ⊢;have hlt : g < w.heap.size := by
   rcases Nat.lt_or_ge g w.heap.size with h' | h'
   ·exact h'
   ·simp [Array.getElem?_eq_none h'] at h
  rw [hb.block g hlt];exact h
theorem Vars.below {w w' : World} (h : Vars w) (hb : Below w.heap.size w w') : Vars w' := by
 obtain ⟨h1, ⟨t, p, h2⟩, ⟨t', p', h3⟩⟩ := h;exact ⟨var_below hb h1, ⟨t, p, var_below hb h2⟩, ⟨t', p', var_below hb h3⟩⟩
theorem grew_trans {a b c : World} (h : Below a.heap.size a b) (k : Below b.heap.size b c) : Below a.heap.size a c := h.trans (k.mono h.size)
def DecSays (l : List UInt8) (neg : Bool) (w : World) (e : Ending) (w' : World) : Prop := e = .returned (.tuple #[.int .i64 (decOf l neg).1, .bool (decOf l neg).2]) /\ Below w.heap.size w w'
theorem dec_at {l : List UInt8} {neg : Bool} {w w' : World} {a : Int} {b : Bool} (h : decOf l neg = (a, b)) (hb : Below w.heap.size w w') : DecSays l neg w (.returned (.tuple #[.int .i64 a, .bool b])) w' := by
 rw [DecSays, h]; exact ⟨rfl, hb⟩
def UintSays (l : List UInt8) (w : World) (e : Ending) (w' : World) : Prop :=
 Below w.heap.size w w' /\ ((∃ u : Nat, Lib.parseMag l = .ok u /\ u < 18446744073709551616 /\ e = .returned (.tuple #[.int .u64 u, .nilIface])) \/ (∃ (x : Int) (t : TypeId) (p : Value), (∀ u, Lib.parseMag l ≠ .ok u) /\ e = .returned (.tuple #[.int .u64 x, .iface t p])))
def UintFails (s : ByteArray) (w : World) (x : Value) (t : TypeId) (p : Value) : Prop :=
 Calls Tryz.prog 156 #[.string s, .int .i64 10, .int .i64 64] w fun e w' => ∃ N, e = .returned (.tuple #[x, .iface 174 (.pointer (some ⟨N, 0, none⟩))]) /\ w.heap.size <= N /\
  w'.heap[N]? = some (.cells #[.string ⟨#[80, 97, 114, 115, 101, 85, 105, 110, 116]⟩, .string s, .iface t p] 180 (0, 0)) /\ Below w.heap.size w w'
theorem uint_any (s : ByteArray) (w : World) (hs : s.size <= 1000000000) (hv : Vars w) :
  Calls Tryz.prog 156 #[.string s, .int .i64 10, .int .i64 64] w (UintSays s.data.toList w) := by
 have he := Lib.parseUintB_64 s.data.toList;cases h : Lib.parseMag s.data.toList with
 | ok u =>
  refine (Tryz.strconv_ParseUint_10_at64_ok s (by omega) u (he.trans h) w).mono ?_;rintro e w' ⟨rfl, h'⟩;refine ⟨?_, .inl ⟨u, h, Lib.parseMag_lt h, rfl⟩⟩;rcases h' with rfl | rfl
  ·exact Below.refl _ _
  ·exact Lib.bytesWorld_below _ _ _
 | range =>
  obtain ⟨t, p, hp⟩ := hv.far;have c : UintFails s w (.int .u64 18446744073709551615) t p := Any.strconv_ParseUint_10_at64_range_var Tryz.laysPu14 s (by omega) (he.trans h) t p w hp;refine Calls.mono c ?_;rintro e w' ⟨N, rfl, _, _, hb⟩;exact ⟨hb, .inr ⟨_, _, _, fun u g => (by rw [h] at g; cases g), rfl⟩⟩
 | _ =>
  obtain ⟨t, p, hp⟩ := hv.bad;have c : UintFails s w (.int .u64 0) t p := Any.strconv_ParseUint_10_at64_syntax_var Tryz.laysPu14 s (by omega) (he.trans h) t p w hp;refine Calls.mono c ?_;rintro e w' ⟨N, rfl, _, _, hb⟩;exact ⟨hb, .inr ⟨_, _, _, fun u g => (by rw [h] at g; cases g), rfl⟩⟩
theorem decimal_any (s : ByteArray) (neg : Bool) (w : World) (hs : s.size <= 1000000000) (hv : Vars w) :
  Calls Tryz.prog 129 #[.string s, .bool neg] w (DecSays s.data.toList neg w) := by
 have c := uint_any s w hs hv;cases neg
 ·go_enter Tryz.func129, Tryz.ntmps129;go_wp2_with fail;refine c.mono ?_;rintro e w1 ⟨hb, ⟨u, hu, hlt, rfl⟩ | ⟨x, t, p, hn, rfl⟩⟩
  ·have HU := qh (decOf_ok false hu);have HB := qh hb;clear hu hb c;by_cases hm : (9223372036854775807 : Int) < u
   ·go_wp2;go_ret2;exact dec_at (by rw [HU.out, if_pos (by rw [show decMost false = 9223372036854775807 from rfl]; omega)]) HB.out
   ·have e : (u : Int) = (u : Int) % 18446744073709551616 := by omega
    have s1 := signed_any u false w1;rw [<- e] at s1;clear e;go_wp2_with fail;refine s1.mono ?_;rintro e w2 ⟨rfl, rfl⟩;go_wp2;go_ret2;exact dec_at (by rw [HU.out, if_neg (by rw [show decMost false = 9223372036854775807 from rfl]; omega)]) HB.out
  ·have HN := qh hn;have HB := qh hb;clear hn hb c;go_wp2;go_ret2;exact dec_at (decOf_no _ HN.out) HB.out
 ·go_enter Tryz.func129, Tryz.ntmps129;go_wp2_with fail;refine c.mono ?_;rintro e w1 ⟨hb, ⟨u, hu, hlt, rfl⟩ | ⟨x, t, p, hn, rfl⟩⟩
  ·have HU := qh (decOf_ok true hu);have HB := qh hb;clear hu hb c;by_cases hm : (9223372036854775808 : Int) < u
   ·go_wp2;go_ret2;exact dec_at (by rw [HU.out, if_pos (by rw [show decMost true = 9223372036854775808 from rfl]; omega)]) HB.out
   ·have e : (u : Int) = (u : Int) % 18446744073709551616 := by omega
    have s1 := signed_any u true w1;rw [<- e] at s1;clear e;go_wp2_with fail;refine s1.mono ?_;rintro e w2 ⟨rfl, rfl⟩;go_wp2;go_ret2;exact dec_at (by rw [HU.out, if_neg (by rw [show decMost true = 9223372036854775808 from rfl]; omega)]) HB.out
  ·have HN := qh hn;have HB := qh hb;clear hn hb c;go_wp2;go_ret2;exact dec_at (decOf_no _ HN.out) HB.out
structure Boxes (s : ByteArray) (w0 : World) (g h i j : Nat) (W : World) : Prop where
 below : Below w0.heap.size w0 W
 text : W.heap[w0.heap.size]? = some (.cells #[.string s] 9 (0, 0))
 lo : W.heap[g]? = some (.cells #[.int .i64 (i : Int)] 3 (0, 0))
 hi : W.heap[h]? = some (.cells #[.int .i64 (j : Int)] 3 (0, 0))
 gl : w0.heap.size < g
 hl : w0.heap.size < h
 ne : g ≠ h
theorem Boxes.setLo {s : ByteArray} {w0 : World} {g h i j : Nat} {W : World} (b : Boxes s w0 g h i j W) (i' : Nat) (x : Value) (hx : x = .int .i64 (i' : Int)) : Boxes s w0 g h i' j (W.setCell ⟨g, 0, none⟩ x) := by
 subst hx;exact ⟨b.below.setCell (Nat.le_of_lt b.gl) _, by rw [Below.heap_setCell _ _ _ _ (Nat.ne_of_lt b.gl)]; exact b.text, one_setCell b.lo,
  by rw [Below.heap_setCell _ _ _ _ (Ne.symm b.ne)]; exact b.hi, b.gl, b.hl, b.ne⟩
theorem Boxes.setHi {s : ByteArray} {w0 : World} {g h i j : Nat} {W : World} (b : Boxes s w0 g h i j W) (j' : Nat) (x : Value) (hx : x = .int .i64 (j' : Int)) : Boxes s w0 g h i j' (W.setCell ⟨h, 0, none⟩ x) := by
 subst hx;exact ⟨b.below.setCell (Nat.le_of_lt b.hl) _, by rw [Below.heap_setCell _ _ _ _ (Nat.ne_of_lt b.hl)]; exact b.text,
  by rw [Below.heap_setCell _ _ _ _ b.ne]; exact b.lo, one_setCell b.hi, b.gl, b.hl, b.ne⟩
theorem left_any (s : ByteArray) (w0 : World) (g h i j : Nat) (W : World) (b : Boxes s w0 g h i j W) (hij : i <= j) (hj : j <= s.size) :
  Calls Tryz.prog 127 #[.pointer (some ⟨w0.heap.size, 0, none⟩), .pointer (some ⟨g, 0, none⟩), .pointer (some ⟨h, 0, none⟩)] W fun e w' => e = .returned (.string (s.extract i j)) /\ W = w' := by
 have c1 := cell_of_one b.text;have c2 := cell_of_one b.lo;have c3 := cell_of_one b.hi;have hx := run_slice_at (P := Tryz.prog) 9 s (i : Int) (j : Int) i j Tryz.underlying9 hij hj rfl rfl;clear b;go_enter Tryz.func127, Tryz.ntmps127;go_wp2;go_ret;exact ⟨rfl, rfl⟩
theorem prefix_any (s p : ByteArray) (w : World) :
  Calls Tryz.prog 35 #[.string s, .string p] w fun e w' => e = .returned (.bool (Lib.hasPrefix s.data.toList p.data.toList)) /\ w = w' :=
 (Tryz.strings_HasPrefix s p w).mono fun _ _ ⟨h, h'⟩ => ⟨h, h'.symm⟩
def ParseSays (s : ByteArray) (w : World) (e : Ending) (w' : World) : Prop := e = .returned (.tuple #[.int .i64 (parseOf s).1, .bool (parseOf s).2]) /\ Below w.heap.size w w'
theorem boxes_one (s : ByteArray) (w : World) (n : Nat) :
  Boxes s w (w.heap.size + 1) (w.heap.size + 1 + 1) 0 n (((w.alloc (.cells #[.string s] 9)).alloc (.cells #[.int .i64 0] 3)).alloc (.cells #[.int .i64 (n : Int)] 3)).drew := by
 refine ⟨((((Below.refl _ _).alloc (Nat.le_refl _) _).alloc (by simp) _).alloc (by simp; omega) _).drew, ?_, ?_, ?_, by omega, by omega, by omega⟩
 ·show (((w.alloc (.cells #[.string s] 9)).alloc (.cells #[.int .i64 0] 3)).alloc (.cells #[.int .i64 (n : Int)] 3)).heap[_]? = _;rw [Below.heap_alloc _ _ _ (by simp; omega), heap_alloc2_old]
 ·show (((w.alloc (.cells #[.string s] 9)).alloc (.cells #[.int .i64 0] 3)).alloc (.cells #[.int .i64 (n : Int)] 3)).heap[_]? = _;exact (Below.heap_alloc _ _ _ (by simp)).trans (heap_alloc2_new _ _ _)
 ·show (((w.alloc (.cells #[.string s] 9)).alloc (.cells #[.int .i64 0] 3)).alloc (.cells #[.int .i64 (n : Int)] 3)).heap[_]? = _;have := heap_alloc_new ((w.alloc (.cells #[.string s] 9)).alloc (.cells #[.int .i64 0] 3)) (.cells #[.int .i64 (n : Int)] 3);simp only [World.size_alloc] at this;exact this
theorem boxes_two (s : ByteArray) (w : World) (n : Nat) :
  Boxes s w (w.heap.size + 1 + 1) (w.heap.size + 1) 0 n (((w.alloc (.cells #[.string s] 9)).alloc (.cells #[.int .i64 (n : Int)] 3)).alloc (.cells #[.int .i64 0] 3)).drew := by
 refine ⟨((((Below.refl _ _).alloc (Nat.le_refl _) _).alloc (by simp) _).alloc (by simp; omega) _).drew, ?_, ?_, ?_, by omega, by omega, by omega⟩
 ·show (((w.alloc (.cells #[.string s] 9)).alloc (.cells #[.int .i64 (n : Int)] 3)).alloc (.cells #[.int .i64 0] 3)).heap[_]? = _;rw [Below.heap_alloc _ _ _ (by simp; omega), heap_alloc2_old]
 ·show (((w.alloc (.cells #[.string s] 9)).alloc (.cells #[.int .i64 (n : Int)] 3)).alloc (.cells #[.int .i64 0] 3)).heap[_]? = _;have := heap_alloc_new ((w.alloc (.cells #[.string s] 9)).alloc (.cells #[.int .i64 (n : Int)] 3)) (.cells #[.int .i64 0] 3);simp only [World.size_alloc] at this;exact this
 ·show (((w.alloc (.cells #[.string s] 9)).alloc (.cells #[.int .i64 (n : Int)] 3)).alloc (.cells #[.int .i64 0] 3)).heap[_]? = _;exact (Below.heap_alloc _ _ _ (by simp)).trans (heap_alloc2_new _ _ _)
theorem parse_of {s : ByteArray} {x : Int × Bool} {w w' : World} (h : parseOf s = x) (hb : Below w.heap.size w w') : ParseSays s w (.returned (.tuple #[.int .i64 x.1, .bool x.2])) w' := by
 subst h; exact ⟨rfl, hb⟩
theorem prefix_neg (s : ByteArray) (lo hi : Nat) (h : hi <= s.size) (w : World) :
  Calls Tryz.prog 35 #[.string (s.extract lo hi), .string ⟨#[45]⟩] w fun e w' => e = .returned (.bool (negAt s lo hi)) /\ w = w' := by
 have := prefix_any (s.extract lo hi) ⟨#[45]⟩ w
 rwa [show (ByteArray.mk #[45]).data.toList = [45] from rfl, prefix1 h] at this
theorem prefix_plus (s : ByteArray) (lo hi : Nat) (h : hi <= s.size) (w : World) :
  Calls Tryz.prog 35 #[.string (s.extract lo hi), .string ⟨#[43]⟩] w fun e w' => e = .returned (.bool (plusAt s lo hi)) /\ w = w' := by
 have := prefix_any (s.extract lo hi) ⟨#[43]⟩ w
 rwa [show (ByteArray.mk #[43]).data.toList = [43] from rfl, prefix1 h] at this
theorem prefix_low (s : ByteArray) (lo hi : Nat) (h : hi <= s.size) (w : World) :
  Calls Tryz.prog 35 #[.string (s.extract lo hi), .string ⟨#[48, 120]⟩] w fun e w' => e = .returned (.bool (lowX s lo hi)) /\ w = w' := by
 have := prefix_any (s.extract lo hi) ⟨#[48, 120]⟩ w
 rwa [show (ByteArray.mk #[48, 120]).data.toList = [48, 120] from rfl, prefix2 h] at this
theorem prefix_big (s : ByteArray) (lo hi : Nat) (h : hi <= s.size) (w : World) :
  Calls Tryz.prog 35 #[.string (s.extract lo hi), .string ⟨#[48, 88]⟩] w fun e w' => e = .returned (.bool (bigX s lo hi)) /\ w = w' := by
 have := prefix_any (s.extract lo hi) ⟨#[48, 88]⟩ w
 rwa [show (ByteArray.mk #[48, 88]).data.toList = [48, 88] from rfl, prefix2 h] at this
theorem lowX_lt {s : ByteArray} {p hi : Nat} (h : lowX s p hi = true) : p + 2 <= hi := by
 unfold lowX at h; simp at h; omega
theorem bigX_lt {s : ByteArray} {p hi : Nat} (h : bigX s p hi = true) : p + 2 <= hi := by
 unfold bigX at h; simp at h; omega
theorem negAt_lt {s : ByteArray} {p hi : Nat} (h : negAt s p hi = true) : p + 1 <= hi := by
 unfold negAt at h; simp at h; omega
theorem plusAt_lt {s : ByteArray} {p hi : Nat} (h : plusAt s p hi = true) : p + 1 <= hi := by
 unfold plusAt at h; simp at h; omega
theorem rest_low {s : ByteArray} {p hi : Nat} (neg : Bool) (h : lowX s p hi = true) : restOf s p hi neg = hexOf (s.extract (p + 2) hi).data.toList neg := by
 rw [restOf, h, Bool.true_or, if_pos rfl]
theorem rest_big {s : ByteArray} {p hi : Nat} (neg : Bool) (h : bigX s p hi = true) : restOf s p hi neg = hexOf (s.extract (p + 2) hi).data.toList neg := by
 rw [restOf, h, Bool.or_true, if_pos rfl]
theorem rest_no {s : ByteArray} {p hi : Nat} (neg : Bool) (h : lowX s p hi = false) (h' : bigX s p hi = false) : restOf s p hi neg = decOf (s.extract p hi).data.toList neg := by
 rw [restOf, h, h', Bool.or_false, if_neg (by decide)]
end Go.Proofs.YtnkejjlidgnkkaaGreatDoor.Num
