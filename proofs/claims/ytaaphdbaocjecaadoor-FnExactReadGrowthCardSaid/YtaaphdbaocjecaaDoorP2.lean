/-
  Several texts in one: TextLay, TextM, ListC, Spec1, StringSC, TextC, ReadM.
-/
import Derived.Shelf.Strconv.Itoa4
import Derived.Shelf.Strings.OnBuilder
import Derived.Shelf.Strings.BuilderK
import Derived.Shelf.Strconv.ErrVarParseInt
import Derived.Shelf.Strings.SplitShaped
import Derived.Shelf.Strings.Shaped
import Derived.Shelf.Strings.Prefix
import Derived.Ground.NamesProg
import Derived.Test.YtaaphdbaocjecaaDoorProg
import Derived.Lib.ItoaLen
import Derived.Lib.Join
import Derived.Laws.Concat
import Derived.Lib.Hide
import Derived.Test.YtaaphdbaocjecaaDoorP1
import Derived.Deep.Slices
import Derived.ChangeSame
import Derived.Laws.MakeOwn
import Derived.WalkKit
import Derived.OwnWalk
import Derived.BigQuiet
import Derived.Lib.AppendIntMem
import Derived.WalkSmall
import Derived.Lib.Split
import Derived.Lib.SplitLaws
import Derived.Lib.IndexBytes
import Derived.Lib.IndexLaws
import Derived.Lib.IndexMore
import Derived.Lib.ParseIntB
import Derived.Lib.ParseIntBCases
/-
  strconv.FormatInt, strings.Join and strings.Builder: their numbers here.
-/
namespace Go.Proofs
open Go.Shelf
def Tryd.fmtLays_ren : Go.Shelf.Ren := ⟨fun | 173 => 29 | 246 => 43 | 283 => 54 | 284 => 55 | 285 => 56 | 286 => 57 | 129 => 73 | 317 => 72 | 318 => 74 | 319 => 75 | 320 => 76 | 337 => 87 | 338 => 88 | n => n, fun | 2 => 2 | 3 => 3 | 9 => 9 | 4 => 4 | 171 => 114 | 0 => 0 | 53 => 115 | 37 => 89 | 5 => 5 | 173 => 118 | 212 => 134 | 51 => 135 | 20 => 20 | 213 => 136 | 46 => 123 | 232 => 157 | 233 => 158 | n => n, fun | 17 => 8 | 18 => 13 | 19 => 14 | n => n⟩
theorem Tryd.fmtLays : Go.Proofs.LaysM.n173 Tryd.prog Tryd.fmtLays_ren := {
  mixed := by kernel_rfl
  f129 := Tryd.func73.trans (congrArg some (by kernel_rfl))
  f173 := Tryd.func29.trans (congrArg some (by kernel_rfl))
  f246 := Tryd.func43.trans (congrArg some (by kernel_rfl))
  f283 := Tryd.func54.trans (congrArg some (by kernel_rfl))
  f284 := Tryd.func55.trans (congrArg some (by kernel_rfl))
  f285 := Tryd.func56.trans (congrArg some (by kernel_rfl))
  f286 := Tryd.func57.trans (congrArg some (by kernel_rfl))
  f317 := Tryd.func72.trans (congrArg some (by kernel_rfl))
  f318 := Tryd.func74.trans (congrArg some (by kernel_rfl))
  f319 := Tryd.func75.trans (congrArg some (by kernel_rfl))
  f320 := Tryd.func76.trans (congrArg some (by kernel_rfl))
  f337 := Tryd.func87.trans (congrArg some (by kernel_rfl))
  f338 := Tryd.func88.trans (congrArg some (by kernel_rfl))
  t0 := Tryd.underlying0
  a0 := Tryd.isAgg0
  z0 := Tryd.sizeOf0
  v0 := Tryd.zeroValue0
  t2 := Tryd.underlying2
  a2 := Tryd.isAgg2
  z2 := Tryd.sizeOf2
  v2 := Tryd.zeroValue2
  t3 := Tryd.underlying3
  a3 := Tryd.isAgg3
  z3 := Tryd.sizeOf3
  v3 := Tryd.zeroValue3
  t4 := Tryd.underlying4
  a4 := Tryd.isAgg4
  z4 := Tryd.sizeOf4
  v4 := Tryd.zeroValue4
  t5 := Tryd.underlying5
  a5 := Tryd.isAgg5
  z5 := Tryd.sizeOf5
  v5 := Tryd.zeroValue5
  t9 := Tryd.underlying9
  a9 := Tryd.isAgg9
  z9 := Tryd.sizeOf9
  v9 := Tryd.zeroValue9
  t20 := Tryd.underlying20
  a20 := Tryd.isAgg20
  z20 := Tryd.sizeOf20
  v20 := Tryd.zeroValue20
  t37 := Tryd.underlying89
  a37 := Tryd.isAgg89
  z37 := Tryd.sizeOf89
  v37 := Tryd.zeroValue89
  t46 := Tryd.underlying123
  a46 := Tryd.isAgg123
  z46 := Tryd.sizeOf123
  v46 := Tryd.zeroValue123
  t51 := Tryd.underlying135
  a51 := Tryd.isAgg135
  z51 := Tryd.sizeOf135
  v51 := Tryd.zeroValue135
  t53 := Tryd.underlying115
  a53 := Tryd.isAgg115
  z53 := Tryd.sizeOf115
  v53 := Tryd.zeroValue115
  t171 := Tryd.underlying114
  a171 := Tryd.isAgg114
  z171 := Tryd.sizeOf114
  v171 := Tryd.zeroValue114
  t173 := Tryd.underlying118
  a173 := Tryd.isAgg118
  z173 := Tryd.sizeOf118
  v173 := Tryd.zeroValue118
  t212 := Tryd.underlying134
  a212 := Tryd.isAgg134
  z212 := Tryd.sizeOf134
  v212 := Tryd.zeroValue134
  t213 := Tryd.underlying136
  a213 := Tryd.isAgg136
  z213 := Tryd.sizeOf136
  t232 := Tryd.underlying157
  a232 := Tryd.isAgg157
  z232 := Tryd.sizeOf157
  v232 := Tryd.zeroValue157
  t233 := Tryd.underlying158
  a233 := Tryd.isAgg158
  z233 := Tryd.sizeOf158
  v233 := Tryd.zeroValue158
  g17 := by kernel_rfl
  g18 := by kernel_rfl
  g19 := by kernel_rfl
  i0 := by kernel_rfl
  i2 := by kernel_rfl
  i3 := by kernel_rfl
  i4 := by kernel_rfl
  i5 := by kernel_rfl
  i9 := by kernel_rfl
  i20 := by kernel_rfl
  i37 := by kernel_rfl
  i46 := by kernel_rfl
  i51 := by kernel_rfl
  i53 := by kernel_rfl
  i171 := by kernel_rfl
  i173 := by kernel_rfl
  i212 := by kernel_rfl
  i232 := by kernel_rfl
  i233 := by kernel_rfl
  m17 := by kernel_rfl
  m18 := by kernel_rfl
  m19 := by kernel_rfl }
def Tryd.joinLays_ren : Go.Shelf.Ren := ⟨fun | 156 => 30 | 165 => 44 | 166 => 45 | 169 => 46 | 240 => 58 | 241 => 59 | 276 => 77 | 277 => 78 | n => n, fun | 31 => 36 | 9 => 9 | 3 => 3 | 4 => 4 | 0 => 0 | 20 => 20 | 72 => 91 | 76 => 93 | 70 => 88 | 37 => 89 | 75 => 41 | 127 => 120 | 164 => 139 | 5 => 5 | 80 => 78 | n => n, fun | n => n⟩
theorem Tryd.joinLays : Go.Proofs.Lays.n156 Tryd.prog Tryd.joinLays_ren := {
  mixed := by kernel_rfl
  f156 := Tryd.func30.trans (congrArg some (by kernel_rfl))
  f165 := Tryd.func44.trans (congrArg some (by kernel_rfl))
  f166 := Tryd.func45.trans (congrArg some (by kernel_rfl))
  f169 := Tryd.func46.trans (congrArg some (by kernel_rfl))
  f240 := Tryd.func58.trans (congrArg some (by kernel_rfl))
  f241 := Tryd.func59.trans (congrArg some (by kernel_rfl))
  f276 := Tryd.func77.trans (congrArg some (by kernel_rfl))
  f277 := Tryd.func78.trans (congrArg some (by kernel_rfl))
  t0 := Tryd.underlying0
  a0 := Tryd.isAgg0
  z0 := Tryd.sizeOf0
  v0 := Tryd.zeroValue0
  t3 := Tryd.underlying3
  a3 := Tryd.isAgg3
  z3 := Tryd.sizeOf3
  v3 := Tryd.zeroValue3
  t4 := Tryd.underlying4
  a4 := Tryd.isAgg4
  z4 := Tryd.sizeOf4
  v4 := Tryd.zeroValue4
  t9 := Tryd.underlying9
  a9 := Tryd.isAgg9
  z9 := Tryd.sizeOf9
  v9 := Tryd.zeroValue9
  t20 := Tryd.underlying20
  a20 := Tryd.isAgg20
  z20 := Tryd.sizeOf20
  v20 := Tryd.zeroValue20
  t31 := Tryd.underlying36
  a31 := Tryd.isAgg36
  z31 := Tryd.sizeOf36
  v31 := Tryd.zeroValue36
  t37 := Tryd.underlying89
  a37 := Tryd.isAgg89
  z37 := Tryd.sizeOf89
  v37 := Tryd.zeroValue89
  t70 := Tryd.underlying88
  a70 := Tryd.isAgg88
  z70 := Tryd.sizeOf88
  v70 := Tryd.zeroValue88
  t72 := Tryd.underlying91
  a72 := Tryd.isAgg91
  z72 := Tryd.sizeOf91
  v72 := Tryd.zeroValue91
  t75 := Tryd.underlying41
  a75 := Tryd.isAgg41
  z75 := Tryd.sizeOf41
  v75 := Tryd.zeroValue41
  t76 := Tryd.underlying93
  a76 := Tryd.isAgg93
  z76 := Tryd.sizeOf93
  v76 := Tryd.zeroValue93
  t127 := Tryd.underlying120
  a127 := Tryd.isAgg120
  z127 := Tryd.sizeOf120
  v127 := Tryd.zeroValue120
  t164 := Tryd.underlying139
  a164 := Tryd.isAgg139
  z164 := Tryd.sizeOf139
  v164 := Tryd.zeroValue139 }
def Tryd.bstLays_ren : Go.Shelf.Ren := ⟨fun | 169 => 46 | n => n, fun | 70 => 88 | 9 => 9 | 0 => 0 | 72 => 91 | 37 => 89 | 127 => 120 | 3 => 3 | 5 => 5 | n => n, fun | n => n⟩
theorem Tryd.bstLays : Go.Proofs.Lays.n169 Tryd.prog Tryd.bstLays_ren := {
  mixed := by kernel_rfl
  f169 := Tryd.func46.trans (congrArg some (by kernel_rfl))
  t0 := Tryd.underlying0
  a0 := Tryd.isAgg0
  z0 := Tryd.sizeOf0
  v0 := Tryd.zeroValue0
  t3 := Tryd.underlying3
  a3 := Tryd.isAgg3
  z3 := Tryd.sizeOf3
  v3 := Tryd.zeroValue3
  t9 := Tryd.underlying9
  a9 := Tryd.isAgg9
  z9 := Tryd.sizeOf9
  v9 := Tryd.zeroValue9
  t37 := Tryd.underlying89
  a37 := Tryd.isAgg89
  z37 := Tryd.sizeOf89
  v37 := Tryd.zeroValue89
  t70 := Tryd.underlying88
  a70 := Tryd.isAgg88
  z70 := Tryd.sizeOf88
  v70 := Tryd.zeroValue88
  t72 := Tryd.underlying91
  a72 := Tryd.isAgg91
  z72 := Tryd.sizeOf91
  v72 := Tryd.zeroValue91
  t127 := Tryd.underlying120
  a127 := Tryd.isAgg120
  z127 := Tryd.sizeOf120
  v127 := Tryd.zeroValue120 }
def Tryd.parLays_ren : Go.Shelf.Ren := ⟨fun | 174 => 39 | 247 => 52 | 245 => 53 | 287 => 67 | 279 => 68 | 280 => 69 | 281 => 70 | 282 => 71 | 321 => 82 | 322 => 83 | 316 => 84 | 171 => 86 | 205 => 85 | 243 => 89 | 246 => 43 | 283 => 54 | 284 => 55 | 285 => 56 | 286 => 57 | 129 => 73 | 317 => 72 | 318 => 74 | 319 => 75 | 320 => 76 | 337 => 87 | 338 => 88 | n => n, fun | 9 => 9 | 3 => 3 | 2 => 2 | 75 => 41 | 85 => 60 | 4 => 4 | 167 => 127 | 5 => 5 | 53 => 115 | 175 => 128 | 46 => 123 | 168 => 130 | 37 => 89 | 0 => 0 | 210 => 147 | 21 => 21 | 127 => 120 | 145 => 156 | 143 => 154 | 171 => 114 | 173 => 118 | 212 => 134 | 51 => 135 | 20 => 20 | 213 => 136 | 232 => 157 | 233 => 158 | 80 => 78 | n => n, fun | 15 => 9 | 16 => 10 | 17 => 8 | 18 => 13 | 19 => 14 | n => n⟩
theorem Tryd.parLays : Go.Proofs.LaysC.n174 Tryd.prog Tryd.parLays_ren := {
  mixed := by kernel_rfl
  f129 := Tryd.func73.trans (congrArg some (by kernel_rfl))
  f171 := Tryd.func86.trans (congrArg some (by kernel_rfl))
  f174 := Tryd.func39.trans (congrArg some (by kernel_rfl))
  f205 := Tryd.func85.trans (congrArg some (by kernel_rfl))
  f243 := Tryd.func89.trans (congrArg some (by kernel_rfl))
  f245 := Tryd.func53.trans (congrArg some (by kernel_rfl))
  f246 := Tryd.func43.trans (congrArg some (by kernel_rfl))
  f247 := Tryd.func52.trans (congrArg some (by kernel_rfl))
  f279 := Tryd.func68.trans (congrArg some (by kernel_rfl))
  f280 := Tryd.func69.trans (congrArg some (by kernel_rfl))
  f281 := Tryd.func70.trans (congrArg some (by kernel_rfl))
  f282 := Tryd.func71.trans (congrArg some (by kernel_rfl))
  f283 := Tryd.func54.trans (congrArg some (by kernel_rfl))
  f284 := Tryd.func55.trans (congrArg some (by kernel_rfl))
  f285 := Tryd.func56.trans (congrArg some (by kernel_rfl))
  f286 := Tryd.func57.trans (congrArg some (by kernel_rfl))
  f287 := Tryd.func67.trans (congrArg some (by kernel_rfl))
  f316 := Tryd.func84.trans (congrArg some (by kernel_rfl))
  f317 := Tryd.func72.trans (congrArg some (by kernel_rfl))
  f318 := Tryd.func74.trans (congrArg some (by kernel_rfl))
  f319 := Tryd.func75.trans (congrArg some (by kernel_rfl))
  f320 := Tryd.func76.trans (congrArg some (by kernel_rfl))
  f321 := Tryd.func82.trans (congrArg some (by kernel_rfl))
  f322 := Tryd.func83.trans (congrArg some (by kernel_rfl))
  f337 := Tryd.func87.trans (congrArg some (by kernel_rfl))
  f338 := Tryd.func88.trans (congrArg some (by kernel_rfl))
  t0 := Tryd.underlying0
  a0 := Tryd.isAgg0
  z0 := Tryd.sizeOf0
  v0 := Tryd.zeroValue0
  t2 := Tryd.underlying2
  a2 := Tryd.isAgg2
  z2 := Tryd.sizeOf2
  v2 := Tryd.zeroValue2
  t3 := Tryd.underlying3
  a3 := Tryd.isAgg3
  z3 := Tryd.sizeOf3
  v3 := Tryd.zeroValue3
  t4 := Tryd.underlying4
  a4 := Tryd.isAgg4
  z4 := Tryd.sizeOf4
  v4 := Tryd.zeroValue4
  t5 := Tryd.underlying5
  a5 := Tryd.isAgg5
  z5 := Tryd.sizeOf5
  v5 := Tryd.zeroValue5
  t9 := Tryd.underlying9
  a9 := Tryd.isAgg9
  z9 := Tryd.sizeOf9
  v9 := Tryd.zeroValue9
  t20 := Tryd.underlying20
  a20 := Tryd.isAgg20
  z20 := Tryd.sizeOf20
  v20 := Tryd.zeroValue20
  t21 := Tryd.underlying21
  a21 := Tryd.isAgg21
  z21 := Tryd.sizeOf21
  v21 := Tryd.zeroValue21
  t37 := Tryd.underlying89
  a37 := Tryd.isAgg89
  z37 := Tryd.sizeOf89
  v37 := Tryd.zeroValue89
  t46 := Tryd.underlying123
  a46 := Tryd.isAgg123
  z46 := Tryd.sizeOf123
  v46 := Tryd.zeroValue123
  t51 := Tryd.underlying135
  a51 := Tryd.isAgg135
  z51 := Tryd.sizeOf135
  v51 := Tryd.zeroValue135
  t53 := Tryd.underlying115
  a53 := Tryd.isAgg115
  z53 := Tryd.sizeOf115
  v53 := Tryd.zeroValue115
  t75 := Tryd.underlying41
  a75 := Tryd.isAgg41
  z75 := Tryd.sizeOf41
  v75 := Tryd.zeroValue41
  t85 := Tryd.underlying60
  a85 := Tryd.isAgg60
  z85 := Tryd.sizeOf60
  v85 := Tryd.zeroValue60
  t127 := Tryd.underlying120
  a127 := Tryd.isAgg120
  z127 := Tryd.sizeOf120
  v127 := Tryd.zeroValue120
  t143 := Tryd.underlying154
  a143 := Tryd.isAgg154
  z143 := Tryd.sizeOf154
  v143 := Tryd.zeroValue154
  t145 := Tryd.underlying156
  a145 := Tryd.isAgg156
  z145 := Tryd.sizeOf156
  v145 := Tryd.zeroValue156
  t167 := Tryd.underlying127
  a167 := Tryd.isAgg127
  z167 := Tryd.sizeOf127
  v167 := Tryd.zeroValue127
  t168 := Tryd.underlying130
  a168 := Tryd.isAgg130
  z168 := Tryd.sizeOf130
  v168 := Tryd.zeroValue130
  t171 := Tryd.underlying114
  a171 := Tryd.isAgg114
  z171 := Tryd.sizeOf114
  v171 := Tryd.zeroValue114
  t173 := Tryd.underlying118
  a173 := Tryd.isAgg118
  z173 := Tryd.sizeOf118
  v173 := Tryd.zeroValue118
  t175 := Tryd.underlying128
  a175 := Tryd.isAgg128
  z175 := Tryd.sizeOf128
  v175 := Tryd.zeroValue128
  t210 := Tryd.underlying147
  a210 := Tryd.isAgg147
  z210 := Tryd.sizeOf147
  v210 := Tryd.zeroValue147
  t212 := Tryd.underlying134
  a212 := Tryd.isAgg134
  z212 := Tryd.sizeOf134
  v212 := Tryd.zeroValue134
  t213 := Tryd.underlying136
  a213 := Tryd.isAgg136
  z213 := Tryd.sizeOf136
  t232 := Tryd.underlying157
  a232 := Tryd.isAgg157
  z232 := Tryd.sizeOf157
  v232 := Tryd.zeroValue157
  t233 := Tryd.underlying158
  a233 := Tryd.isAgg158
  z233 := Tryd.sizeOf158
  v233 := Tryd.zeroValue158
  g15 := by kernel_rfl
  g16 := by kernel_rfl
  g17 := by kernel_rfl
  g18 := by kernel_rfl
  g19 := by kernel_rfl
  t80 := Tryd.underlying78
  a80 := Tryd.isAgg78
  z80 := Tryd.sizeOf78
  v80 := Tryd.zeroValue78
  i0 := by kernel_rfl
  i2 := by kernel_rfl
  i3 := by kernel_rfl
  i4 := by kernel_rfl
  i5 := by kernel_rfl
  i9 := by kernel_rfl
  i20 := by kernel_rfl
  i21 := by kernel_rfl
  i37 := by kernel_rfl
  i46 := by kernel_rfl
  i51 := by kernel_rfl
  i53 := by kernel_rfl
  i75 := by kernel_rfl
  i80 := by kernel_rfl
  i85 := by kernel_rfl
  i127 := by kernel_rfl
  i143 := by kernel_rfl
  i145 := by kernel_rfl
  i167 := by kernel_rfl
  i168 := by kernel_rfl
  i171 := by kernel_rfl
  i173 := by kernel_rfl
  i175 := by kernel_rfl
  i210 := by kernel_rfl
  i212 := by kernel_rfl
  i232 := by kernel_rfl
  i233 := by kernel_rfl
  m15 := by kernel_rfl
  m16 := by kernel_rfl
  m17 := by kernel_rfl
  m18 := by kernel_rfl
  m19 := by kernel_rfl
  c0 := by kernel_rfl
  c2 := by kernel_rfl
  c3 := by kernel_rfl
  c4 := by kernel_rfl
  c5 := by kernel_rfl
  c9 := by kernel_rfl
  c20 := by kernel_rfl
  c21 := by kernel_rfl
  c37 := by kernel_rfl
  c46 := by kernel_rfl
  c51 := by kernel_rfl
  c53 := by kernel_rfl
  c75 := by kernel_rfl
  c80 := by kernel_rfl
  c85 := by kernel_rfl
  c127 := by kernel_rfl
  c143 := by kernel_rfl
  c145 := by kernel_rfl
  c167 := by kernel_rfl
  c168 := by kernel_rfl
  c171 := by kernel_rfl
  c173 := by kernel_rfl
  c175 := by kernel_rfl
  c210 := by kernel_rfl
  c212 := by kernel_rfl
  c213 := by kernel_rfl
  c232 := by kernel_rfl
  c233 := by kernel_rfl }
def Tryd.splLays_ren : Go.Shelf.Ren := ⟨fun | 147 => 25 | 221 => 38 | 268 => 49 | 138 => 50 | 143 => 51 | 195 => 64 | 197 => 65 | 218 => 66 | 219 => 48 | 260 => 81 | 217 => 60 | 225 => 61 | 224 => 62 | 267 => 63 | 266 => 79 | 314 => 80 | n => n, fun | 9 => 9 | 3 => 3 | 31 => 36 | 4 => 4 | 0 => 0 | 105 => 125 | 21 => 21 | 5 => 5 | 46 => 123 | 119 => 150 | 139 => 153 | 138 => 152 | 146 => 142 | 51 => 135 | n => n, fun | 1 => 7 | 3 => 11 | 4 => 12 | n => n⟩
theorem Tryd.splLays : Go.Proofs.LaysM.n147 Tryd.prog Tryd.splLays_ren := {
  mixed := by kernel_rfl
  f138 := Tryd.func50.trans (congrArg some (by kernel_rfl))
  f143 := Tryd.func51.trans (congrArg some (by kernel_rfl))
  f147 := Tryd.func25.trans (congrArg some (by kernel_rfl))
  f195 := Tryd.func64.trans (congrArg some (by kernel_rfl))
  f197 := Tryd.func65.trans (congrArg some (by kernel_rfl))
  f217 := Tryd.func60.trans (congrArg some (by kernel_rfl))
  f218 := Tryd.func66.trans (congrArg some (by kernel_rfl))
  f219 := Tryd.func48.trans (congrArg some (by kernel_rfl))
  f221 := Tryd.func38.trans (congrArg some (by kernel_rfl))
  f224 := Tryd.func62.trans (congrArg some (by kernel_rfl))
  f225 := Tryd.func61.trans (congrArg some (by kernel_rfl))
  f260 := Tryd.func81.trans (congrArg some (by kernel_rfl))
  f266 := Tryd.func79.trans (congrArg some (by kernel_rfl))
  f267 := Tryd.func63.trans (congrArg some (by kernel_rfl))
  f268 := Tryd.func49.trans (congrArg some (by kernel_rfl))
  f314 := Tryd.func80.trans (congrArg some (by kernel_rfl))
  t0 := Tryd.underlying0
  a0 := Tryd.isAgg0
  z0 := Tryd.sizeOf0
  v0 := Tryd.zeroValue0
  t3 := Tryd.underlying3
  a3 := Tryd.isAgg3
  z3 := Tryd.sizeOf3
  v3 := Tryd.zeroValue3
  t4 := Tryd.underlying4
  a4 := Tryd.isAgg4
  z4 := Tryd.sizeOf4
  v4 := Tryd.zeroValue4
  t5 := Tryd.underlying5
  a5 := Tryd.isAgg5
  z5 := Tryd.sizeOf5
  v5 := Tryd.zeroValue5
  t9 := Tryd.underlying9
  a9 := Tryd.isAgg9
  z9 := Tryd.sizeOf9
  v9 := Tryd.zeroValue9
  t21 := Tryd.underlying21
  a21 := Tryd.isAgg21
  z21 := Tryd.sizeOf21
  v21 := Tryd.zeroValue21
  t31 := Tryd.underlying36
  a31 := Tryd.isAgg36
  z31 := Tryd.sizeOf36
  v31 := Tryd.zeroValue36
  t46 := Tryd.underlying123
  a46 := Tryd.isAgg123
  z46 := Tryd.sizeOf123
  v46 := Tryd.zeroValue123
  t51 := Tryd.underlying135
  a51 := Tryd.isAgg135
  z51 := Tryd.sizeOf135
  v51 := Tryd.zeroValue135
  t105 := Tryd.underlying125
  a105 := Tryd.isAgg125
  z105 := Tryd.sizeOf125
  v105 := Tryd.zeroValue125
  t119 := Tryd.underlying150
  a119 := Tryd.isAgg150
  z119 := Tryd.sizeOf150
  t138 := Tryd.underlying152
  a138 := Tryd.isAgg152
  z138 := Tryd.sizeOf152
  v138 := Tryd.zeroValue152
  t139 := Tryd.underlying153
  a139 := Tryd.isAgg153
  z139 := Tryd.sizeOf153
  v139 := Tryd.zeroValue153
  t146 := Tryd.underlying142
  a146 := Tryd.isAgg142
  z146 := Tryd.sizeOf142
  v146 := Tryd.zeroValue142
  g1 := by kernel_rfl
  g3 := by kernel_rfl
  g4 := by kernel_rfl
  i0 := by kernel_rfl
  i3 := by kernel_rfl
  i4 := by kernel_rfl
  i5 := by kernel_rfl
  i9 := by kernel_rfl
  i21 := by kernel_rfl
  i31 := by kernel_rfl
  i46 := by kernel_rfl
  i51 := by kernel_rfl
  i105 := by kernel_rfl
  i138 := by kernel_rfl
  i139 := by kernel_rfl
  i146 := by kernel_rfl
  m1 := by kernel_rfl
  s1_3 := fun w h => Go.Proofs.cell_of_shapedOpen_int (zero := #[.int .i64 0]) (t := 3) h (of_decide_eq_true (by kernel_rfl)) (by kernel_rfl) rfl (by kernel_rfl) (by kernel_rfl) Tryd.underlying3
  m3 := by kernel_rfl
  m4 := by kernel_rfl }
def Tryd.cutLays_ren : Go.Shelf.Ren := ⟨fun | 145 => 24 | 220 => 37 | 219 => 48 | 217 => 60 | 225 => 61 | 224 => 62 | 267 => 63 | 266 => 79 | 314 => 80 | n => n, fun | 9 => 9 | 4 => 4 | 59 => 57 | 3 => 3 | 5 => 5 | 46 => 123 | 146 => 142 | 51 => 135 | n => n, fun | 1 => 7 | n => n⟩
theorem Tryd.cutLays : Go.Proofs.LaysM.n145 Tryd.prog Tryd.cutLays_ren := {
  mixed := by kernel_rfl
  f145 := Tryd.func24.trans (congrArg some (by kernel_rfl))
  f217 := Tryd.func60.trans (congrArg some (by kernel_rfl))
  f219 := Tryd.func48.trans (congrArg some (by kernel_rfl))
  f220 := Tryd.func37.trans (congrArg some (by kernel_rfl))
  f224 := Tryd.func62.trans (congrArg some (by kernel_rfl))
  f225 := Tryd.func61.trans (congrArg some (by kernel_rfl))
  f266 := Tryd.func79.trans (congrArg some (by kernel_rfl))
  f267 := Tryd.func63.trans (congrArg some (by kernel_rfl))
  f314 := Tryd.func80.trans (congrArg some (by kernel_rfl))
  t3 := Tryd.underlying3
  a3 := Tryd.isAgg3
  z3 := Tryd.sizeOf3
  v3 := Tryd.zeroValue3
  t4 := Tryd.underlying4
  a4 := Tryd.isAgg4
  z4 := Tryd.sizeOf4
  v4 := Tryd.zeroValue4
  t5 := Tryd.underlying5
  a5 := Tryd.isAgg5
  z5 := Tryd.sizeOf5
  v5 := Tryd.zeroValue5
  t9 := Tryd.underlying9
  a9 := Tryd.isAgg9
  z9 := Tryd.sizeOf9
  v9 := Tryd.zeroValue9
  t46 := Tryd.underlying123
  a46 := Tryd.isAgg123
  z46 := Tryd.sizeOf123
  v46 := Tryd.zeroValue123
  t51 := Tryd.underlying135
  a51 := Tryd.isAgg135
  z51 := Tryd.sizeOf135
  v51 := Tryd.zeroValue135
  t59 := Tryd.underlying57
  a59 := Tryd.isAgg57
  z59 := Tryd.sizeOf57
  v59 := Tryd.zeroValue57
  t146 := Tryd.underlying142
  a146 := Tryd.isAgg142
  z146 := Tryd.sizeOf142
  v146 := Tryd.zeroValue142
  g1 := by kernel_rfl
  i3 := by kernel_rfl
  i4 := by kernel_rfl
  i5 := by kernel_rfl
  i9 := by kernel_rfl
  i46 := by kernel_rfl
  i51 := by kernel_rfl
  i59 := by kernel_rfl
  i146 := by kernel_rfl
  m1 := by kernel_rfl
  s1_3 := fun w h => Go.Proofs.cell_of_shapedOpen_int (zero := #[.int .i64 0]) (t := 3) h (of_decide_eq_true (by kernel_rfl)) (by kernel_rfl) rfl (by kernel_rfl) (by kernel_rfl) Tryd.underlying3 }
end Go.Proofs

/-
  Texts: numbers, spots, words in a row.
-/
namespace Go.Proofs.YtaaphdbaocjecaaDoor
open Go

/-- A string of these bytes. -/
def bs (l : List UInt8) : ByteArray := ⟨l.toArray⟩
theorem bs_size (l : List UInt8) : (bs l).size = l.length := by simp [bs, ByteArray.size]
theorem bs_append (a b : List UInt8) : bs a ++ bs b = bs (a ++ b) := ByteArray.mk_append_mk a b
theorem bs_data (l : List UInt8) : (bs l).data.toList = l := by simp [bs]
theorem cat_run {P : Program} (a b : List UInt8) (h : a.length + b.length ≤ 100000000) (W : World) : (Op.stringOp .add (bs a) (bs b)).run P W = .ok (.string (bs (a ++ b))) W := by
  rw [run_string_add_sum W _ _ (by rw [bs_size, bs_size]; omega), bs_append]

theorem ret_bs {l m : List UInt8} (h : l = m) : Ending.returned (.string (bs l)) = .returned (.string (bs m)) := by rw [h]

/-- A number's digits. -/
def numB (n : Int) : List UInt8 := Lib.decDigits n.toNat
theorem nDigits_le10 {u : Nat} (h : u < 10000000000) : Lib.nDigits u ≤ 10 := by
  have key : ∀ (k u : Nat), u < 10 ^ (k + 1) → Lib.nDigits u ≤ k + 1 := by
    intro k
    induction k with
    | zero => intro u h; rw [Lib.nDigits_small (by omega)]; omega
    | succ k ih =>
      intro u h
      by_cases h10 : u < 10
      · rw [Lib.nDigits_small h10]; omega
      · rw [Lib.nDigits_big h10]
        have := ih (u / 10) (by rw [Nat.div_lt_iff_lt_mul (by omega)]; rw [Nat.pow_succ] at h; omega)
        omega
  exact key 9 u h
theorem numB_len {n : Int} (h : n ≤ 9000000000) : (numB n).length ≤ 10 := by
  unfold numB
  rw [Lib.decDigits_length]
  exact nDigits_le10 (by omega)
/-- A spot's text. -/
def spotT (x y : Int) : List UInt8 := numB x ++ [44] ++ numB y
theorem spotT_len {x y : Int} (hx : x ≤ 9000000000) (hy : y ≤ 9000000000) : (spotT x y).length ≤ 21 := by
  have := numB_len hx
  have := numB_len hy
  simp [spotT]; omega

/-- The first n words, with a separator between them. -/
def joinT (sep : List UInt8) (f : Nat → List UInt8) (n : Nat) : List UInt8 := Lib.join ((List.range n).map f) sep
theorem joinT_zero (sep : List UInt8) (f : Nat → List UInt8) : joinT sep f 0 = [] := rfl
theorem joinT_one (sep : List UInt8) (f : Nat → List UInt8) : joinT sep f 1 = f 0 := by
  unfold joinT; exact Lib.join_one _ _
theorem join_snoc (sep y : List UInt8) : ∀ (xs : List (List UInt8)), xs ≠ [] → Lib.join (xs ++ [y]) sep = Lib.join xs sep ++ sep ++ y := by
  intro xs h
  cases xs with
  | nil => exact absurd rfl h
  | cons x r =>
    rw [List.cons_append, Lib.join_cons, Lib.join_cons]
    simp [Lib.joinTail, List.append_assoc]
theorem joinT_succ (sep : List UInt8) (f : Nat → List UInt8) {n : Nat} (h : 0 < n) : joinT sep f (n + 1) = joinT sep f n ++ sep ++ f n := by
  unfold joinT
  rw [List.range_succ, List.map_append, List.map_singleton]
  exact join_snoc sep _ _ (by cases n with | zero => omega | succ n => simp [List.range_succ])
theorem joinT_len {sep : List UInt8} {f : Nat → List UInt8} {m : Nat} : ∀ n : Nat, (∀ k, k < n → (f k).length ≤ m) → (joinT sep f n).length ≤ n * (m + sep.length)
  | 0, _ => by simp [joinT_zero]
  | n + 1, h => by
    have ih := joinT_len (sep := sep) n (fun k hk => h k (by omega))
    have hn := h n (by omega)
    by_cases h0 : n = 0
    · subst h0; rw [joinT_one]; omega
    · rw [joinT_succ sep f (by omega)]
      simp only [List.length_append]
      rw [Nat.succ_mul]; omega
end Go.Proofs.YtaaphdbaocjecaaDoor

/-
  Lists as arguments: make; what lies in memory of old; lists of elements of one cell; a number out of a reading.
-/
namespace Go.Proofs.YtaaphdbaocjecaaDoor
open Go Go.RowKit Go.BigFrame Go.ChangeShapes Go.WideShapes Go.Deep

/-! ### make -/
variable {P : Program} {ops : Array Oper} {rest : List Oper} {o : Oper} {a : Act} {w : Base} {W : World} {Q : Exit → Act → World → Prop} {L : Blocks}
theorem made_arr (m N : Nat) (z : Nat → Value) (hm : 0 < m) : madeCells (arr m z) N = arr N (fun k => z (k % m)) := by
  refine arr_ext (by simp [madeCells]) (fun k hk => ?_)
  have : k % m < m := Nat.mod_lt _ hm
  simp [madeCells, hk, arr_size, getElem!_def, arr_at this]
theorem wpList_make (hgd : o.guard = none) (t e : TypeId) (x y : Operand) (ho : o.op = .makeSlice t x y) (n : Nat) (hx : a.eval x = .int .i64 n) (hy : a.eval y = .int .i64 n) (m : Nat) (z : Nat → Value) (bs : Nat)
    (hu : P.underlying t = some (.slice e)) (hz : (P.info? e).map (fun i => (i.size, i.zero, i.bytes)) = some (m, some (.agg (arr m z)), bs)) (hm : 0 < m) (hbs : bs ≤ 1000) (hn : n ≤ 1048576) (hM : Mem w L W)
    (h : ∀ b W', w.B ≤ b → Mem w ((b, n * m, fun k => z (k % m)) :: L) W' → wpList P ops Q rest (a.put o.dst (.slice (some ⟨b, 0, none⟩) n n)) W') : wpList P ops Q (o :: rest) a W := by
  obtain ⟨ie, hie, hq⟩ := Option.map_eq_some_iff.1 hz
  simp only [Prod.mk.injEq] at hq
  obtain ⟨q1, q2, q3⟩ := hq
  refine wpList_plain hgd fun K hK => ?_
  have hb : (ie.bytes : Int) * (n : Int) ≤ 281474976710656 := by
    rw [q3]
    have : bs * n ≤ 1000 * 1048576 := Nat.mul_le_mul hbs hn
    have h2 : ((bs * n : Nat) : Int) ≤ 1000 * 1048576 := by omega
    rw [Int.natCast_mul] at h2
    omega
  have hr := run_make (P := P) W t e ie (.agg (arr m z)) hu hie q2 .i64 .i64 n n (by omega) (Int.le_refl _) hb (by omega)
  simp only [Int.toNat_natCast, Value.cells, q1, made_arr m _ z hm] at hr
  unfold Oper.wp execOp
  simp only [ho, hx, hy, Sem.run_bind, Sem.run_pure, hr, Result.andThen_ok]
  exact hK _ _ (h _ _ hM.size (hM.alloc e (n * m) _))

/-- A block of a call that lets lie all that lay, beside those that are known. -/
theorem Mem.fresh' {b0 : Base} {L : Blocks} {X X' : World} {b n : Nat} {f : Nat → Value} (hM : Mem b0 L X) (hb : Below X.heap.size X X') (ha : At X' b n f) (hge : X.heap.size ≤ b) : Mem b0 (L ++ [(b, n, f)]) X' :=
  (hM.call hb).old ha (fun i p h e => by
    have := (hM.ats i p.1 p.2.1 p.2.2 h).lt
    omega)

/-! ### What lies in memory of old -/
def Lies (W : World) (b o n : Nat) (f : Nat → Value) : Prop := ∀ k, k < n → W.cell? ⟨b, o + k, none⟩ = some (f k)
theorem Lies.below {w W : World} {b o n : Nat} {f : Nat → Value} (h : Lies w b o n f) (hb : Below w.heap.size w W) : Lies W b o n f := fun k hk => by
  have := h k hk
  rw [hb.cell (p := ⟨b, o + k, none⟩) (block_lt_of_cell this)]
  exact this
theorem wpList_getL (hgd : o.guard = none) (ty : TypeId) (x : Operand) (ho : o.op = .load ty x) (b off : Nat) (hx : a.eval x = .pointer (some ⟨b, off, none⟩)) (b0 n : Nat) {f : Nat → Value}
    (hL : Lies W b b0 n f) {m : Nat} (hT : RowT P ty m) (i : Nat) (hi : off = b0 + i) (hle : i + m ≤ n)
    (h : wpList P ops Q rest (a.put o.dst (.agg (arr m (fun k => f (i + k))))) W) : wpList P ops Q (o :: rest) a W := by
  obtain ⟨⟨d, hu, hd⟩, hm⟩ := hT
  subst hi
  have hr : W.rangeAt b (b0 + i) (arr m (fun k => f (i + k))).toList := fun j v hv => by
    rw [arr_toList] at hv
    have hj : j < m := by have := (List.getElem?_eq_some_iff.1 hv).1; simpa using this
    simp [hj] at hv
    rw [← hv, Nat.add_assoc]
    exact hL (i + j) (by omega)
  exact wpList_load_mid hgd ty x ho b (b0 + i) hx (arr m (fun k => f (i + k))).toList d hr hu hd (by rw [hm]; simp [arr_size]) (by simpa using h)

section
variable {H : Type} {enc : TypeId × Value → H} {w : World} {base : Nat} {spare : Nat → Bool} {held : Bool}
theorem trod_num {t : TypeId} {κ : IntKind} (ht : P.underlying t = some (.int κ)) {fuel : Nat} {cs : List Value} {x : DataW H × List MemPlace} (h : DataW.trod enc P w base spare held fuel t cs = some x) : ∃ n, cs = [.int κ n] ∧ κ.has n := by
  obtain ⟨n, h1, -, h2⟩ := DataW.trod_int ht h
  exact ⟨n, h1, by simpa [Lit.wf, IntKind.has] using h2⟩

/-- A list of elements of one cell, out of its reading. -/
def Arg1 (W : World) (v : Value) (n : Nat) (f : Nat → Value) : Prop :=
  (n = 0 ∧ v = .slice none 0 0) ∨ ∃ b o c, v = .slice (some ⟨b, o, none⟩) n c ∧ Lies W b o n f
theorem Arg1.below {w W : World} {v : Value} {n : Nat} {f : Nat → Value} (h : Arg1 w v n f) (hb : Below w.heap.size w W) : Arg1 W v n f := by
  rcases h with h | ⟨b, o, c, e, h⟩
  · exact .inl h
  · exact .inr ⟨b, o, c, e, h.below hb⟩
theorem spot_slice {t e : TypeId} (ht : P.underlying t = some (.slice e)) {b0 : Nat} {a : Addr} {l c : Nat} (h : Cell.okWide P w .any b0 t (.slice (some a) l c)) : a.spot = none := by
  simp only [Cell.okWide, Cell.ok, ht] at h
  exact h.2.2.2.1
theorem open_list1 {β : Type} {t e : TypeId} (ht : P.underlying t = some (.slice e)) (hc : P.cellsOf e = 1) (val : β → Value) (fits : β → Prop) (y0 : β)
    (hel : ∀ (fuel : Nat) (v : Value) (x : DataW H × List MemPlace), DataW.trod enc P w base spare held fuel e [v] = some x → ∃ y, v = val y ∧ fits y)
    {v : Value} {b0 fuel : Nat} {x : DataW H × List MemPlace} (hok : Cell.okWide P w .any b0 t v) (h : DataW.trod enc P w base spare held fuel t [v] = some x) :
    ∃ (n : Nat) (ys : Nat → β), n ≤ maxLen ∧ (∀ i, i < n → fits (ys i)) ∧ Arg1 w v n (fun i => val (ys i)) := by
  rcases open_slice1 ht hc h with ⟨h1, -⟩ | ⟨a, len, cap, m, n, V, D, Pl, hcs, hb, hl, hm, hmm, -, hi⟩
  · obtain rfl : v = .slice none 0 0 := by simpa using h1
    exact ⟨0, fun _ => y0, by decide, fun i hi => absurd hi (by omega), .inl ⟨rfl, rfl⟩⟩
  · obtain rfl : v = .slice (some a) len cap := by simpa using hcs
    have hs := spot_slice ht hok
    obtain ⟨ab, ao, asp⟩ := a
    simp only at hs
    subst hs
    have hlen : len ≤ m := by rw [hmm]; split <;> omega
    have key : ∀ i, ∃ y : β, i < len → (V i = val y ∧ fits y) := fun i => by
      by_cases hil : i < len
      · obtain ⟨y, h1, h2⟩ := hel n _ _ (hi i (by omega)).2
        exact ⟨y, fun _ => ⟨h1, h2⟩⟩
      · exact ⟨y0, fun h => absurd h hil⟩
    refine ⟨len, fun i => (key i).choose, by omega, fun i hil => ((key i).choose_spec hil).2, .inr ⟨ab, ao, cap, rfl, fun k hk => ?_⟩⟩
    have h1 := (hi k (by omega)).1
    have e2 : (⟨ab, ao, none⟩ : Addr).add k = ⟨ab, ao + k, none⟩ := by
      unfold Addr.add
      by_cases h0 : k = 0
      · simp [h0]
      · simp [h0]
    rw [e2, ((key k).choose_spec hk).1] at h1
    exact h1
theorem trod_str {t : TypeId} (ht : P.underlying t = some .string) (fuel : Nat) (v : Value) (x : DataW H × List MemPlace) (h : DataW.trod enc P w base spare held fuel t [v] = some x) : ∃ s : ByteArray, v = .string s ∧ s.size ≤ maxLen := by
  obtain ⟨s, h1, -, h2⟩ := DataW.trod_string ht h
  exact ⟨s, by simpa using h1, h2⟩
theorem trod_int1 {t : TypeId} {κ : IntKind} (ht : P.underlying t = some (.int κ)) (fuel : Nat) (v : Value) (x : DataW H × List MemPlace) (h : DataW.trod enc P w base spare held fuel t [v] = some x) : ∃ n, v = .int κ n ∧ κ.has n := by
  obtain ⟨n, h1, h2⟩ := trod_num ht h
  exact ⟨n, by simpa using h1, h2⟩
end

/-- What the size check gives: -1, or what is left. -/
def Left (n : Nat) (left : Int) (w : World) (e : Ending) (w' : World) : Prop := (∃ r : Int, e = .returned (.int .i64 r) ∧ (r = -1 ∨ (0 ≤ r ∧ r ≤ left ∧ (n : Int) ≤ left))) ∧ Below w.heap.size w w'
/-! ### Elements of one cell -/
theorem wpList_make1 (hgd : o.guard = none) (t e : TypeId) (x y : Operand) (ho : o.op = .makeSlice t x y) (n : Nat) (hx : a.eval x = .int .i64 n) (hy : a.eval y = .int .i64 n) (z : Value) (bs : Nat) (hzc : z.oneCell' = true)
    (hu : P.underlying t = some (.slice e)) (hz : (P.info? e).map (fun i => (i.size, i.zero, i.bytes)) = some (1, some z, bs)) (hbs : bs ≤ 1000) (hn : n ≤ 1048576) (hM : Mem w L W)
    (h : ∀ b W', w.B ≤ b → Mem w ((b, n, fun _ => z) :: L) W' → wpList P ops Q rest (a.put o.dst (.slice (some ⟨b, 0, none⟩) n n)) W') : wpList P ops Q (o :: rest) a W := by
  obtain ⟨ie, hie, hq⟩ := Option.map_eq_some_iff.1 hz
  simp only [Prod.mk.injEq] at hq
  obtain ⟨q1, q2, q3⟩ := hq
  refine wpList_plain hgd fun K hK => ?_
  have hb : (ie.bytes : Int) * (n : Int) ≤ 281474976710656 := by
    rw [q3]
    have : bs * n ≤ 1000 * 1048576 := Nat.mul_le_mul hbs hn
    have h2 : ((bs * n : Nat) : Int) ≤ 1000 * 1048576 := by omega
    rw [Int.natCast_mul] at h2
    omega
  have hr := run_make (P := P) W t e ie z hu hie q2 .i64 .i64 n n (by omega) (Int.le_refl _) hb (by omega)
  have hcl : z.cells = #[z] := by cases z <;> first | rfl | (simp [Value.oneCell'] at hzc)
  have hc : madeCells z.cells n = arr n (fun _ => z) := by
    refine arr_ext (by simp [madeCells]) (fun k hk => ?_)
    rw [hcl]
    simp [madeCells, hk, Nat.mod_one]
  simp only [Int.toNat_natCast, q1, Nat.mul_one, hc] at hr
  unfold Oper.wp execOp
  simp only [ho, hx, hy, Sem.run_bind, Sem.run_pure, hr, Result.andThen_ok]
  exact hK _ _ (h _ _ hM.size (hM.alloc e n _))
theorem run_load_cell {ty : TypeId} (hT : CellT P ty) {p : Addr} {v : Value} {W : World} (hc : W.cell? p = some v) : (loadVar ty p).run P W = .ok v W := by
  obtain ⟨⟨d, hu, hd⟩, _⟩ := hT
  have hagg : (isAgg ty).run P W = .ok false W := by
    unfold isAgg
    rw [Sem.run_bind, run_underlying hu W]
    cases d <;> simp_all [TypeDesc.isRow]
  have hl : (load p).run P W = .ok v W := by simp [load, Sem.run, hc]
  simp only [loadVar, Sem.run_bind, Result.andThen_ok, hagg, Bool.false_eq_true, if_false, hl]
theorem wpList_getL1 (hgd : o.guard = none) (ty : TypeId) (x : Operand) (ho : o.op = .load ty x) (b off : Nat) (hx : a.eval x = .pointer (some ⟨b, off, none⟩)) (b0 n : Nat) {f : Nat → Value}
    (hL : Lies W b b0 n f) (hT : CellT P ty) (i : Nat) (hi : off = b0 + i) (hle : i < n) (v : Value) (hv : f i = v)
    (h : wpList P ops Q rest (a.put o.dst v) W) : wpList P ops Q (o :: rest) a W := by
  refine wpList_plain hgd fun K hK => ?_
  have hc := hL i hle
  rw [← hi, hv] at hc
  unfold Oper.wp execOp
  simp only [ho, hx, Instr.loadAt, Instr.sureAddr, Sem.run_bind, Sem.run_pure, Result.andThen_ok, run_load_cell hT hc]
  exact hK _ _ h
/-- Some of the blocks, in another order: the i-th is that at f i. -/
theorem Mem.sub {b0 : Base} {L L' : Blocks} {X : World} (h : Mem b0 L X) (f : Nat → Nat) (hf : ∀ (i : Nat) (p : Nat × Nat × (Nat → Value)), L'[i]? = some p → L[f i]? = some p)
    (hinj : ((List.range L'.length).all fun i => (List.range L'.length).all fun j => i == j || f i != f j) = true) : Mem b0 L' X := by
  have inj : ∀ i j, i < L'.length → j < L'.length → i ≠ j → f i ≠ f j := fun i j hi hj hne => by
    have h1 := List.all_eq_true.1 (List.all_eq_true.1 hinj i (by simpa using hi)) j (by simpa using hj)
    rw [Bool.or_eq_true] at h1
    rcases h1 with h1 | h1
    · exact absurd (by simpa using h1) hne
    · simpa using h1
  exact ⟨h.good, fun i b n g hi => h.ats _ b n g (hf i _ hi), fun i j p q hi hj hne => h.apart _ _ p q (hf i p hi) (hf j q hj) (inj i j (List.getElem?_eq_some_iff.1 hi).1 (List.getElem?_eq_some_iff.1 hj).1 hne)⟩
/-- New blocks ahead of those that are known. -/
theorem Mem.front {b0 : Base} {L K : Blocks} {X X' : World} (hM : Mem b0 L X) (hb : Below X.heap.size X X') (hK : Mem X K X') (hge : ∀ (i : Nat) (p : Nat × Nat × (Nat → Value)), K[i]? = some p → X.heap.size ≤ p.1) : Mem b0 (K ++ L) X' := by
  have h2 := hM.call hb
  have key : ∀ (i : Nat) (p : Nat × Nat × (Nat → Value)), (K ++ L)[i]? = some p → (i < K.length ∧ K[i]? = some p) ∨ (K.length ≤ i ∧ L[i - K.length]? = some p) := fun i p hi => by
    by_cases hl : i < K.length
    · rw [List.getElem?_append_left hl] at hi; exact .inl ⟨hl, hi⟩
    · rw [List.getElem?_append_right (by omega)] at hi; exact .inr ⟨by omega, hi⟩
  have low : ∀ (i : Nat) (p : Nat × Nat × (Nat → Value)), L[i]? = some p → p.1 < X.heap.size := fun i p h => (hM.ats i p.1 p.2.1 p.2.2 h).lt
  refine ⟨h2.good, fun i b n f hi => ?_, fun i j p q hi hj hne => ?_⟩
  · rcases key i _ hi with ⟨_, h⟩ | ⟨_, h⟩
    · exact hK.ats i b n f h
    · exact h2.ats _ b n f h
  · rcases key i p hi with ⟨h1, h⟩ | ⟨h1, h⟩ <;> rcases key j q hj with ⟨g1, g⟩ | ⟨g1, g⟩
    · exact hK.apart i j p q h g hne
    · have := low _ q g; have := hge i p h; omega
    · have := low _ p h; have := hge j q g; omega
    · exact hM.apart _ _ p q h g (by omega)
/-- Three new blocks beside those that are known. -/
theorem Mem.fresh3 {b0 : Base} {L : Blocks} {X X' : World} {b c d n m k : Nat} {f g h : Nat → Value} (hM : Mem b0 L X) (hb : Below X.heap.size X X') (h3 : Mem X [(b, n, f), (c, m, g), (d, k, h)] X') (h1 : X.heap.size ≤ b) (h2 : X.heap.size ≤ c) (h4 : X.heap.size ≤ d) :
    Mem b0 (L ++ [(b, n, f), (c, m, g), (d, k, h)]) X' := by
  have e1 := hM.fresh' hb (h3.ats 0 _ _ _ rfl) h1
  have off : ∀ (y : Nat) (i : Nat) (p : Nat × Nat × (Nat → Value)), X.heap.size ≤ y → L[i]? = some p → p.1 ≠ y := fun y i p hy hp e => by
    have := (hM.ats i p.1 p.2.1 p.2.2 hp).lt
    omega
  have app : ∀ {M : Blocks} {q : Nat × Nat × (Nat → Value)} {i : Nat} {p : Nat × Nat × (Nat → Value)}, (M ++ [q])[i]? = some p → M[i]? = some p ∨ p = q := fun {M q i p} hp => by
    by_cases hl : i < M.length
    · rw [List.getElem?_append_left hl] at hp; exact .inl hp
    · rw [List.getElem?_append_right (by omega)] at hp
      cases hq : i - M.length with
      | zero => rw [hq] at hp; simp at hp; exact .inr hp.symm
      | succ j => rw [hq] at hp; simp at hp
  have e2 := e1.old (h3.ats 1 _ _ _ rfl) (fun i p hp => by
    rcases app hp with h | rfl
    · exact off c i p h2 h
    · exact h3.apart 0 1 _ _ rfl rfl (by omega))
  have e3 := e2.old (h3.ats 2 _ _ _ rfl) (fun i p hp => by
    rcases app hp with h | rfl
    · rcases app h with h | rfl
      · exact off d i p h4 h
      · exact h3.apart 0 2 _ _ rfl rfl (by omega)
    · exact h3.apart 1 2 _ _ rfl rfl (by omega))
  simpa using e3
end Go.Proofs.YtaaphdbaocjecaaDoor

/-
  spec.l00In, l01Grass, l01Is, by contracts.
-/
namespace Go.Proofs.YtaaphdbaocjecaaDoor
open Go Go.RowKit Go.BigFrame

/-- Is n from lo to hi? -/
def inB (lo hi n : Int) : Bool := decide (lo ≤ n ∧ n ≤ hi)
theorem inB_yes {lo hi n : Int} (h : lo ≤ n ∧ n ≤ hi) : inB lo hi n = true := decide_eq_true h
theorem inB_no {lo hi n : Int} (h : ¬ (lo ≤ n ∧ n ≤ hi)) : inB lo hi n = false := decide_eq_false h
theorem inB_true {lo hi n : Int} (h : inB lo hi n = true) : lo ≤ n ∧ n ≤ hi := of_decide_eq_true h
theorem ret_bool {a b : Bool} (h : a = b) : Ending.returned (.bool a) = .returned (.bool b) := by rw [h]

theorem l00In_any (n lo hi : Int) (w : World) :
    Calls Tryd.prog 31 #[.int .i64 n, .int .i64 lo, .int .i64 hi] w fun e w' => e = .returned (.bool (inB lo hi n)) ∧ Below w.heap.size w w' := by
  by_cases h1 : lo ≤ n
  · go_enter Tryd.func31, Tryd.ntmps31
    go_wp2
    go_ret
    exact ⟨ret_bool (by simp [inB, h1]), Below.refl _ _⟩
  · go_enter Tryd.func31, Tryd.ntmps31
    go_wp2
    go_ret
    exact ⟨ret_bool (inB_no (fun h => by omega)).symm, Below.refl _ _⟩
/-- Has a pasture such a cell? -/
def isB (g : Nat → Int) (x y : Int) : Bool := inB 0 (g 0 - 1) x && inB 0 (g 1 - 1) y

end Go.Proofs.YtaaphdbaocjecaaDoor

/-
  []string: laws.szStringS, toStringS, eqStringS and slices.Equal by contracts.
-/
namespace Go.Proofs.YtaaphdbaocjecaaDoor
open Go Go.RowKit Go.BigFrame Go.ChangeShapes Go.WideShapes Go.Deep

def vStringS (ys : Nat → ByteArray) : Nat → Value := fun k => .string (ys k)
theorem cellStringS : CellT Tryd.prog 9 := ⟨⟨_, Tryd.underlying9, rfl⟩, by kernel_rfl⟩
theorem infoStringS : (Tryd.prog.info? 9).map (fun i => (i.size, i.zero, i.bytes)) = some (1, some (.string ⟨#[]⟩), 16) := by kernel_rfl
def fitsStringS (y : ByteArray) : Prop := y.size ≤ maxLen
section
variable {H : Type} {enc : TypeId × Value → H} {w : World} {base : Nat} {spare : Nat → Bool} {held : Bool}
set_option maxRecDepth 100000 in
theorem openStringS {v : Value} {b0 fuel : Nat} {x : DataW H × List MemPlace} (hok : Cell.okWide Tryd.prog w .any b0 36 v) (h : DataW.trod enc Tryd.prog w base spare held fuel 36 [v] = some x) :
    ∃ (n : Nat) (ys : Nat → ByteArray), n ≤ maxLen ∧ (∀ i, i < n → fitsStringS (ys i)) ∧ Arg1 w v n (vStringS ys) :=
  open_list1 Tryd.underlying36 (by kernel_rfl) (fun y => .string (y)) fitsStringS ⟨#[]⟩ (fun fuel v x h => trod_str Tryd.underlying9 fuel v x h) hok h
end

/-! ### equal -/
def eqvStringS (a b : ByteArray) : Bool := a.toList == b.toList
def sameStringS (n n' : Nat) (ys ys' : Nat → ByteArray) : Bool := decide (n = n') && (List.range n).all fun i => eqvStringS (ys i) (ys' i)
theorem sameStringS_len {n n' : Nat} {ys ys' : Nat → ByteArray} (h : n ≠ n') : sameStringS n n' ys ys' = false := by simp [sameStringS, h]
theorem sameStringS_no {n i : Nat} {ys ys' : Nat → ByteArray} (hi : i < n) (h : eqvStringS (ys i) (ys' i) = false) : sameStringS n n ys ys' = false := by
  have : ((List.range n).all fun i => eqvStringS (ys i) (ys' i)) = false := by rw [List.all_eq_false]; exact ⟨i, by simpa using hi, by rw [h]; decide⟩
  simp [sameStringS, this]
theorem sameStringS_yes {n : Nat} {ys ys' : Nat → ByteArray} (h : ∀ i, i < n → eqvStringS (ys i) (ys' i) = true) : sameStringS n n ys ys' = true := by
  have : ((List.range n).all fun i => eqvStringS (ys i) (ys' i)) = true := by rw [List.all_eq_true]; intro i hi; exact h i (by simpa using hi)
  simp [sameStringS, this]
theorem eqvStringS_self (a : ByteArray) : eqvStringS a a = true := by simp [eqvStringS]
theorem sameStringS_self (n : Nat) (ys : Nat → ByteArray) : sameStringS n n ys ys = true := sameStringS_yes fun i _ => eqvStringS_self (ys i)
end Go.Proofs.YtaaphdbaocjecaaDoor

/-
  strconv.FormatInt, strings.Join by contracts.
-/
namespace Go.Proofs.YtaaphdbaocjecaaDoor
open Go Go.RowKit Go.BigFrame Go.Shelf

/-- The table that FormatInt reads. -/
def TabP (W : World) : Prop := Lib.TabIs Tryd.prog W "internal/strconv.uint64pow10" .u64 Lib.pow10Tab
theorem tabP_g : Tryd.prog.globalNamed "internal/strconv.uint64pow10" = some 8 := by kernel_rfl
theorem TabP.lt {W : World} (h : TabP W) : 8 < W.heap.size := by
  have h := h
  unfold TabP Lib.TabIs World.var? at h
  simp only [tabP_g, Option.bind_some] at h
  by_cases hl : 8 < W.heap.size
  · exact hl
  · rw [Array.getElem?_eq_none (by omega)] at h; cases h
theorem TabP.below {W W' : World} (h : TabP W) (hb : Below W.heap.size W W') : TabP W' := var?_below hb tabP_g h.lt h

theorem fmt_any (n : Int) (h0 : 0 ≤ n) (h1 : n ≤ 9000000000) (w : World) (hT : TabP w) :
    Calls Tryd.prog 29 #[.int .i64 n, .int .i64 10] w fun e w' => e = .returned (.string (bs (numB n))) ∧ Below w.heap.size w w' := by
  refine (Any.strconv_FormatInt_10 Tryd.fmtLays n (by omega) (by omega) w hT).mono ?_
  rintro e w' ⟨rfl, k, os, rfl⟩
  exact ⟨by rw [show Lib.itoa n = numB n from by unfold Lib.itoa numB; rw [if_neg (by omega)]]; rfl, Lib.below_grow _ _ (Nat.le_refl _) k os⟩

theorem joinExtra : Builder.Extra Tryd.prog Tryd.joinLays_ren := { sizeBuilder := by kernel_rfl, liesBuilder := by kernel_rfl, t5 := Tryd.underlying5, a5 := Tryd.isAgg5, z5 := Tryd.sizeOf5, v5 := Tryd.zeroValue5, infoByte := by kernel_rfl, cellsByte := by kernel_rfl, sizeByte := by kernel_rfl, neB5 := by decide }

/-- The strings that f tells. -/
def strF (f : Nat → List UInt8) : Nat → Value := fun k => .string (bs (f k))
theorem joinS_none (a : Option Addr) (c : Nat) (sep : List UInt8) (w : World) :
    Calls Tryd.prog 30 #[.slice a 0 c, .string (bs sep)] w fun e w' => e = .returned (.string (bs [])) ∧ Below w.heap.size w w' := by
  refine (Any.strings_Join_none Tryd.joinLays joinExtra a c (bs sep) w).mono ?_
  rintro e w' ⟨rfl, rfl⟩
  exact ⟨rfl, Below.refl _ _⟩
theorem join_any (b n N c : Nat) (f : Nat → List UInt8) (F : Nat → Value) (sep : List UInt8) (m : Nat) (hf : ∀ k, k < n → (f k).length ≤ m) (hm : n * (m + sep.length) ≤ 100000000) (hn : n ≤ 1048576) (hnN : n ≤ N) (hF : ∀ k, k < n → F k = strF f k) (hc : n ≤ c) (w : World) (hA : At w b N F) :
    Calls Tryd.prog 30 #[.slice (some ⟨b, 0, none⟩) n c, .string (bs sep)] w fun e w' => e = .returned (.string (bs (joinT sep f n))) ∧ Below w.heap.size w w' := by
  have hl : ((List.range n).map fun k => bs (f k)).length = n := by simp
  have hmap : (((List.range n).map fun k => bs (f k)).map (·.data.toList)) = (List.range n).map f := by
    rw [List.map_map]
    exact List.map_congr_left (fun k _ => bs_data (f k))
  have hx := Any.strings_Join Tryd.joinLays joinExtra b 0 c ((List.range n).map fun k => bs (f k)) (bs sep) w
    (fun j x hj => by
      rw [List.getElem?_map] at hj
      obtain ⟨i, hi, rfl⟩ := Option.map_eq_some_iff.1 hj
      rw [List.getElem?_range] at hi
      · obtain rfl := Option.some.inj hi
        have hjn : j < n := by
          have := (List.getElem?_eq_some_iff.1 (by simpa using hj : ((List.range n).map fun k => bs (f k))[j]? = some (bs (f j)))).1
          simpa using this
        rw [Nat.zero_add, hA.cell (by omega), hF j hjn]; rfl
      · have := (List.getElem?_eq_some_iff.1 hi).1
        simpa using this)
    hA.lt (by rw [hl]; omega) (by rw [hl]; exact hc)
    (by rw [hmap, bs_data]; have := joinT_len (sep := sep) n hf; unfold joinT at this; omega)
  rw [hl, hmap, bs_data] at hx
  exact hx
end Go.Proofs.YtaaphdbaocjecaaDoor

/-
  Texts read: the parts between bytes.
-/
namespace Go.Proofs.YtaaphdbaocjecaaDoor
open Go

/-- The parts of a text between the bytes c. -/
def partsC (c : UInt8) : List UInt8 → List (List UInt8)
  | [] => [[]]
  | a :: l => if a = c then [] :: partsC c l else (partsC c l).modifyHead (a :: ·)
theorem partsC_ne (c : UInt8) : ∀ l, partsC c l ≠ []
  | [] => by simp [partsC]
  | a :: l => by
    have ih := partsC_ne c l
    unfold partsC
    split
    · simp
    · cases h : partsC c l with
      | nil => exact absurd h ih
      | cons p ps => simp
theorem partsC_app {c : UInt8} : ∀ (u r : List UInt8), c ∉ u → partsC c (u ++ c :: r) = u :: partsC c r
  | [], r, _ => by simp [partsC]
  | a :: u, r, h => by
    have ha : a ≠ c := fun e => h (by simp [e])
    have hu : c ∉ u := fun e => h (by simp [e])
    rw [List.cons_append, partsC, if_neg ha, partsC_app u r hu]
    rfl
theorem partsC_free {c : UInt8} : ∀ (u : List UInt8), c ∉ u → partsC c u = [u]
  | [], _ => rfl
  | a :: u, h => by
    have ha : a ≠ c := fun e => h (by simp [e])
    have hu : c ∉ u := fun e => h (by simp [e])
    rw [partsC, if_neg ha, partsC_free u hu]
    rfl
theorem first_c (c : UInt8) (l : List UInt8) : c ∉ l ∨ ∃ u r, c ∉ u ∧ l = u ++ c :: r := by
  by_cases h : c ∈ l
  · obtain ⟨u, r, h1, h2⟩ := List.eq_append_cons_of_mem h
    exact .inr ⟨u, r, h2, h1⟩
  · exact .inl h
theorem partsC_len (c : UInt8) : ∀ l, (partsC c l).length ≤ l.length + 1
  | [] => by simp [partsC]
  | a :: l => by
    have ih := partsC_len c l
    unfold partsC
    split
    · simp only [List.length_cons]; omega
    · rw [List.length_modifyHead, List.length_cons]; omega
theorem partsC_none (c : UInt8) : ∀ l, ∀ p, p ∈ partsC c l → c ∉ p
  | [], p, h => by simp [partsC] at h; subst h; simp
  | a :: l, p, h => by
    have ih := partsC_none c l
    unfold partsC at h
    split at h
    · rcases List.mem_cons.1 h with rfl | h
      · simp
      · exact ih p h
    · rename_i hac
      cases hp : partsC c l with
      | nil => exact absurd hp (partsC_ne c l)
      | cons q qs =>
        rw [hp, List.modifyHead_cons] at h
        rcases List.mem_cons.1 h with rfl | h
        · have := ih q (by rw [hp]; simp)
          intro e
          rcases List.mem_cons.1 e with e | e
          · exact hac e.symm
          · exact this e
        · exact ih p (by rw [hp]; exact List.mem_cons_of_mem _ h)
theorem join_two (x y : List UInt8) (r : List (List UInt8)) (sep : List UInt8) : Lib.join (x :: y :: r) sep = x ++ (sep ++ Lib.join (y :: r) sep) := by
  rw [Lib.join_cons, Lib.join_cons]
  simp [Lib.joinTail, List.append_assoc]
theorem join_partsC (c : UInt8) : ∀ (n : Nat) (l : List UInt8), l.length ≤ n → Lib.join (partsC c l) [c] = l
  | 0, l, h => by
    obtain rfl : l = [] := List.eq_nil_of_length_eq_zero (by omega)
    rfl
  | n + 1, l, h => by
    rcases first_c c l with h1 | ⟨u, r, h1, rfl⟩
    · rw [partsC_free l h1]; exact Lib.join_one _ _
    · have ih := join_partsC c n r (by simp only [List.length_append, List.length_cons] at h; omega)
      rw [partsC_app u r h1]
      cases hp : partsC c r with
      | nil => exact absurd hp (partsC_ne c r)
      | cons q qs => rw [join_two, ← hp, ih]; rfl
theorem partsC_join (c : UInt8) : ∀ (ws : List (List UInt8)), ws ≠ [] → (∀ w, w ∈ ws → c ∉ w) → partsC c (Lib.join ws [c]) = ws
  | [], h, _ => absurd rfl h
  | [w], _, h => by rw [show Lib.join [w] [c] = w from Lib.join_one _ _]; exact partsC_free w (h w (by simp))
  | w :: y :: r, _, h => by
    have ih := partsC_join c (y :: r) (by simp) (fun z hz => h z (List.mem_cons_of_mem _ hz))
    rw [join_two, List.singleton_append, partsC_app w _ (h w (by simp)), ih]
theorem partsC_snoc_c (c : UInt8) : ∀ l, partsC c (l ++ [c]) = partsC c l ++ [[]]
  | [] => by simp [partsC]
  | a :: l => by
    rw [List.cons_append, partsC, partsC, partsC_snoc_c c l]
    split
    · rfl
    · cases hp : partsC c l with
      | nil => exact absurd hp (partsC_ne c l)
      | cons q qs => rfl
theorem partsC_snoc {c a : UInt8} (h : a ≠ c) : ∀ (l : List UInt8) (ps : List (List UInt8)) (p : List UInt8), partsC c l = ps ++ [p] → partsC c (l ++ [a]) = ps ++ [p ++ [a]]
  | [], ps, p, e => by
    have : ps = [] ∧ p = [] := by
      cases ps with
      | nil => simp [partsC] at e; exact ⟨rfl, e⟩
      | cons q qs => simp [partsC] at e
    obtain ⟨rfl, rfl⟩ := this
    simp [partsC, h]
  | b :: l, ps, p, e => by
    rw [List.cons_append]
    unfold partsC at e ⊢
    split at e
    · rename_i hb
      rw [if_pos hb]
      cases ps with
      | nil => simp at e; exact absurd e.2 (partsC_ne c l)
      | cons q qs =>
        simp at e
        rw [partsC_snoc h l qs p e.2]
        simp [e.1]
    · rename_i hb
      rw [if_neg hb]
      cases hp : partsC c l with
      | nil => exact absurd hp (partsC_ne c l)
      | cons q qs =>
        rw [hp, List.modifyHead_cons] at e
        cases ps with
        | nil =>
          simp at e
          obtain ⟨e1, e2⟩ := e
          subst e2
          rw [partsC_snoc h l [] q hp]
          simp [← e1]
        | cons q' qs' =>
          simp at e
          obtain ⟨e1, e2⟩ := e
          rw [partsC_snoc h l (q :: qs') p (by rw [hp, e2]; rfl)]
          simp [← e1]

/-! The library's words. -/
theorem index_free {c : UInt8} {u : List UInt8} (h : c ∉ u) : Lib.index u [c] = -1 := by
  rw [Lib.index_one]
  have h1 := Lib.indexByte_ge u c
  by_cases e : Lib.indexByte u c = -1
  · exact e
  · obtain ⟨o, ho⟩ : ∃ o : Nat, Lib.indexByte u c = o := ⟨(Lib.indexByte u c).toNat, by omega⟩
    exact absurd (List.mem_of_getElem? (Lib.indexByte_some ho).1) h
theorem index_app {c : UInt8} {u r : List UInt8} (h : c ∉ u) : Lib.index (u ++ c :: r) [c] = u.length := by
  rw [Lib.index_one]
  have h1 := Lib.indexByte_ge (u ++ c :: r) c
  by_cases e : Lib.indexByte (u ++ c :: r) c = -1
  · exact absurd (by simp) (Lib.indexByte_none e u.length)
  · obtain ⟨o, ho⟩ : ∃ o : Nat, Lib.indexByte (u ++ c :: r) c = o := ⟨(Lib.indexByte (u ++ c :: r) c).toNat, by omega⟩
    obtain ⟨h2, h3⟩ := Lib.indexByte_some ho
    rw [ho]
    by_cases h4 : o < u.length
    · rw [List.getElem?_append_left h4] at h2
      exact absurd (List.mem_of_getElem? h2) h
    · by_cases h5 : u.length < o
      · exact absurd (by simp) (h3 u.length h5)
      · omega
theorem cut_free {c : UInt8} {u : List UInt8} (h : c ∉ u) : Lib.cut u [c] = (u, [], false) := by
  unfold Lib.cut
  rw [index_free h]; rfl
theorem cut_app {c : UInt8} {u r : List UInt8} (h : c ∉ u) : Lib.cut (u ++ c :: r) [c] = (u, r, true) := by
  unfold Lib.cut
  rw [index_app h, if_pos (by omega)]
  simp
theorem splitK_few (c : UInt8) : ∀ (k : Nat) (l : List UInt8), (partsC c l).length ≤ k + 1 → Lib.splitK [c] 0 k l = partsC c l
  | 0, l, h => by
    rcases first_c c l with h1 | ⟨u, r, h1, rfl⟩
    · rw [partsC_free l h1]; rfl
    · rw [partsC_app u r h1] at h
      exact absurd (List.eq_nil_of_length_eq_zero (by simp only [List.length_cons] at h; omega)) (partsC_ne c r)
  | k + 1, l, h => by
    unfold Lib.splitK
    rcases first_c c l with h1 | ⟨u, r, h1, rfl⟩
    · rw [index_free h1, partsC_free l h1]; rfl
    · rw [partsC_app u r h1] at h ⊢
      have ih := splitK_few c k r (by simp only [List.length_cons] at h; omega)
      rw [index_app h1, if_neg (by simp)]
      simp [ih]
theorem splitK_many (c : UInt8) : ∀ (k : Nat) (l : List UInt8), k + 1 < (partsC c l).length → (Lib.splitK [c] 0 k l).length = k + 1
  | 0, l, _ => rfl
  | k + 1, l, h => by
    unfold Lib.splitK
    rcases first_c c l with h1 | ⟨u, r, h1, rfl⟩
    · rw [partsC_free l h1] at h; simp at h
    · rw [partsC_app u r h1] at h
      have ih := splitK_many c k r (by simp only [List.length_cons] at h; omega)
      rw [index_app h1, if_neg (by simp)]
      simp [ih]
end Go.Proofs.YtaaphdbaocjecaaDoor

