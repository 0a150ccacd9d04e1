/- T0 Shelf T1 T2 -/
import Derived.Shelf.Small.Utf8
import Derived.Shelf.Strconv.Itoa4
import Derived.Shelf.Strconv.ErrVarParseInt
import Derived.Shelf.Strings.Shaped
import Derived.Shelf.Strings.Prefix
import Derived.Shelf.Unicode.DecodeSlow
import Derived.Shelf.Strings.BuilderCap
import Derived.Test.YtnfhpdbbfejioaaGreatDoorProg
import Derived.Shelf.Strings.SlTrimAscii
import Derived.Deep.MidRow
import Derived.Maps.OwnSet
namespace Go.Proofs.YtnfhpdbbfejioaaGreatDoor
set_option linter.unusedVariables false
open Go
abbrev By := List UInt8
structure Tok where
 k : Nat
 t : By
 p : Nat
def digs : By := [48, 49, 50, 51, 52, 53, 54, 55, 56, 57]
def lets : By := [97, 98, 99, 100, 101, 102, 103, 104, 105, 106, 107, 108, 109, 110, 111, 112, 113, 114, 115, 116, 117, 118, 119, 120, 121, 122, 95]
def marksL : List By := [[38, 38], [124, 124], [61, 61], [33, 61], [60, 61], [62, 61], [60], [62], [61], [43], [45], [42], [47], [37], [33], [40], [41], [123], [125], [91], [93], [44], [59], [58]]
def pairsL : List (By × Nat) := [([124, 124], 1), ([38, 38], 2), ([61, 61], 3), ([33, 61], 3), ([60], 4), ([60, 61], 4), ([62], 4), ([62, 61], 4), ([43], 5), ([45], 5), ([42], 6), ([47], 6), ([37], 6)]
def zE (m : By) : Nat := ((pairsL.find? (·.1 == m)).map (·.2)).getD 0
def wordsL : List By := [[102, 110], [105, 110, 116], [97, 114, 114], [118, 97, 114], [114, 101, 116, 117, 114, 110], [112, 114, 105, 110, 116], [105, 102], [101, 108, 115, 101], [119, 104, 105, 108, 101], [110, 101, 119], [108, 101, 110], [105, 110, 112, 117, 116]]
def zN : Bool → By → By
 | _, [] => []
 | false, c :: s => if c = 32 ∨ c = 9 ∨ c = 10 then zN false s else if c = 35 then zN true s else c :: s
 | true, c :: s => if c = 10 then zN false s else zN true s
theorem qD : ∀ (b : Bool) (s : By), (zN b s).length ≤ s.length
 | _, [] => by simp [zN]
 | false, c :: s => by
  rw [zN]
  have h1 := qD false s
  have h2 := qD true s
  split
  ·simp; omega
  ·split
   ·simp; omega
   ·exact Nat.le_refl _
 | true, c :: s => by
  rw [zN]
  have h1 := qD false s
  have h2 := qD true s
  split <;> (simp; omega)
theorem skip_drop : ∀ (b : Bool) (s : By), zN b s = s.drop (s.length - (zN b s).length)
 | _, [] => by simp [zN]
 | false, c :: s => by
  have l1 := qD false s
  have l2 := qD true s
  rw [zN]
  split
  ·have h := skip_drop false s
   rw [show (c :: s).length - (zN false s).length = s.length - (zN false s).length + 1 by simp; omega, List.drop_succ_cons]
   exact h
  ·split
   ·have h := skip_drop true s
    rw [show (c :: s).length - (zN true s).length = s.length - (zN true s).length + 1 by simp; omega, List.drop_succ_cons]
    exact h
   ·simp
 | true, c :: s => by
  have l1 := qD false s
  have l2 := qD true s
  rw [zN]
  split
  ·have h := skip_drop false s
   rw [show (c :: s).length - (zN false s).length = s.length - (zN false s).length + 1 by simp; omega, List.drop_succ_cons]
   exact h
  ·have h := skip_drop true s
   rw [show (c :: s).length - (zN true s).length = s.length - (zN true s).length + 1 by simp; omega, List.drop_succ_cons]
   exact h
theorem skip_remark : ∀ s : By, zN true s = zN false (s.dropWhile (· != 10))
 | [] => rfl
 | c :: s => by
  rw [zN]
  by_cases h : c = 10
  ·subst h
   rw [if_pos rfl]
   rfl
  ·rw [if_neg h, skip_remark s, List.dropWhile_cons, if_pos (by simpa using h)]
def zL (s set : By) : By := s.takeWhile (set.contains ·)
theorem run_trim (s set : By) : s.take (s.length - (Lib.trimLeftS s set).length) = zL s set := by
 unfold Lib.trimLeftS zL
 have e := List.takeWhile_append_dropWhile (p := (set.contains ·)) (l := s)
 have hl : s.length = (s.takeWhile (set.contains ·)).length + (s.dropWhile (set.contains ·)).length := by rw [← List.length_append, e]
 have h2 : s.length - (s.dropWhile (set.contains ·)).length = (s.takeWhile (set.contains ·)).length := by omega
 rw [h2]
 have : s.take (s.takeWhile (set.contains ·)).length = (s.takeWhile (set.contains ·) ++ s.dropWhile (set.contains ·)).take (s.takeWhile (set.contains ·)).length := by rw [e]
 rw [this, List.take_left]
def oneTok (rest : By) : Option (Nat × By) :=
 if zL rest digs ≠ [] then some (2, zL rest digs)
 else if zL rest (lets ++ digs) ≠ [] then some (if wordsL.contains (zL rest (lets ++ digs)) then 1 else 0, zL rest (lets ++ digs))
 else (marksL.find? (·.isPrefixOf rest)).map fun m => (1, m)
theorem one_pos {rest : By} {k : Nat} {t : By} (h : oneTok rest = some (k, t)) : 0 < t.length ∧ t.length ≤ rest.length := by
 unfold oneTok at h
 split at h
 ·rename_i hd
  injection h with h
  injection h with _ h
  subst h
  exact ⟨List.length_pos_iff.2 hd, (List.takeWhile_prefix _).length_le⟩
 ·split at h
  ·rename_i hd
   injection h with h
   injection h with _ h
   subst h
   exact ⟨List.length_pos_iff.2 hd, (List.takeWhile_prefix _).length_le⟩
  ·obtain ⟨m, hm, he⟩ := Option.map_eq_some_iff.1 h
   injection he with _ he
   subst he
   have h1 := List.find?_some hm
   have h2 := List.mem_of_find?_eq_some hm
   refine ⟨?_, (List.isPrefixOf_iff_prefix.1 h1).length_le⟩
   have : ∀ m ∈ marksL, 0 < m.length := by decide
   exact this m h2
def cutV (n : Nat) : Nat → By → List Tok → Except (Int × Nat) (List Tok)
 | 0, _, l => .ok l
 | f + 1, rest, l =>
  if rest = [] then .ok (l ++ [⟨3, [], n⟩])
  else match oneTok rest with
   | none => .error (3, n - rest.length)
   | some (k, t) => if l.length = 1500 then .error (4, n - rest.length) else cutV n f (zN false (rest.drop t.length)) (l ++ [⟨k, t, n - rest.length⟩])
def tokV (s : By) : Except (Int × Nat) (List Tok) := cutV s.length (s.length + 1) (zN false s) []
end Go.Proofs.YtnfhpdbbfejioaaGreatDoor
namespace Go.Proofs
open Go.Shelf
def Tryz.lays161_ren : Go.Shelf.Ren := ⟨fun | 161 => 145 | 231 => 201 | 227 => 202 | 233 => 203 | 235 => 204 | 228 => 230 | 197 => 231 | 151 => 232 | 260 => 245 | 152 => 246 | 137 => 254 | 119 => 255 | 224 => 106 | 225 => 105 | 217 => 104 | 266 => 159 | n => n, fun | 9 => 9 | 4 => 4 | 3 => 3 | 5 => 5 | 117 => 282 | 116 => 281 | 0 => 0 | 124 => 285 | 105 => 299 | 21 => 21 | 119 => 316 | 46 => 56 | 139 => 319 | 138 => 318 | n => n, fun | 3 => 8 | 4 => 9 | n => n⟩
theorem Tryz.lays161 : Go.Proofs.Lays.n161 Tryz.prog Tryz.lays161_ren := {
  mixed := by kernel_rfl
  f119 := Tryz.func255.trans (congrArg some (by kernel_rfl))
  f137 := Tryz.func254.trans (congrArg some (by kernel_rfl))
  f151 := Tryz.func232.trans (congrArg some (by kernel_rfl))
  f152 := Tryz.func246.trans (congrArg some (by kernel_rfl))
  f161 := Tryz.func145.trans (congrArg some (by kernel_rfl))
  f197 := Tryz.func231.trans (congrArg some (by kernel_rfl))
  f217 := Tryz.func104.trans (congrArg some (by kernel_rfl))
  f224 := Tryz.func106.trans (congrArg some (by kernel_rfl))
  f225 := Tryz.func105.trans (congrArg some (by kernel_rfl))
  f227 := Tryz.func202.trans (congrArg some (by kernel_rfl))
  f228 := Tryz.func230.trans (congrArg some (by kernel_rfl))
  f231 := Tryz.func201.trans (congrArg some (by kernel_rfl))
  f233 := Tryz.func203.trans (congrArg some (by kernel_rfl))
  f235 := Tryz.func204.trans (congrArg some (by kernel_rfl))
  f260 := Tryz.func245.trans (congrArg some (by kernel_rfl))
  f266 := Tryz.func159.trans (congrArg some (by kernel_rfl))
  t0 := Tryz.underlying0
  a0 := Tryz.isAgg0
  z0 := Tryz.sizeOf0
  v0 := Tryz.zeroValue0
  t3 := Tryz.underlying3
  a3 := Tryz.isAgg3
  z3 := Tryz.sizeOf3
  v3 := Tryz.zeroValue3
  t4 := Tryz.underlying4
  a4 := Tryz.isAgg4
  z4 := Tryz.sizeOf4
  v4 := Tryz.zeroValue4
  t5 := Tryz.underlying5
  a5 := Tryz.isAgg5
  z5 := Tryz.sizeOf5
  v5 := Tryz.zeroValue5
  t9 := Tryz.underlying9
  a9 := Tryz.isAgg9
  z9 := Tryz.sizeOf9
  v9 := Tryz.zeroValue9
  t21 := Tryz.underlying21
  a21 := Tryz.isAgg21
  z21 := Tryz.sizeOf21
  v21 := Tryz.zeroValue21
  t46 := Tryz.underlying56
  a46 := Tryz.isAgg56
  z46 := Tryz.sizeOf56
  v46 := Tryz.zeroValue56
  t105 := Tryz.underlying299
  a105 := Tryz.isAgg299
  z105 := Tryz.sizeOf299
  v105 := Tryz.zeroValue299
  t116 := Tryz.underlying281
  a116 := Tryz.isAgg281
  z116 := Tryz.sizeOf281
  t117 := Tryz.underlying282
  a117 := Tryz.isAgg282
  z117 := Tryz.sizeOf282
  v117 := Tryz.zeroValue282
  t119 := Tryz.underlying316
  a119 := Tryz.isAgg316
  z119 := Tryz.sizeOf316
  t124 := Tryz.underlying285
  a124 := Tryz.isAgg285
  z124 := Tryz.sizeOf285
  v124 := Tryz.zeroValue285
  t138 := Tryz.underlying318
  a138 := Tryz.isAgg318
  z138 := Tryz.sizeOf318
  v138 := Tryz.zeroValue318
  t139 := Tryz.underlying319
  a139 := Tryz.isAgg319
  z139 := Tryz.sizeOf319
  v139 := Tryz.zeroValue319
  g3 := by kernel_rfl
  g4 := by kernel_rfl }
def Tryz.laysC245_ren : Go.Shelf.Ren := ⟨fun | 245 => 262 | 279 => 264 | 280 => 265 | 281 => 266 | 282 => 267 | 316 => 270 | 171 => 272 | 205 => 271 | 243 => 273 | 246 => 208 | 283 => 236 | 284 => 237 | 285 => 238 | 286 => 239 | 129 => 249 | 317 => 248 | 318 => 250 | 319 => 251 | 320 => 252 | 337 => 257 | 338 => 258 | n => n, fun | 9 => 9 | 3 => 3 | 75 => 34 | 167 => 327 | 4 => 4 | 168 => 330 | 210 => 336 | 37 => 81 | 0 => 0 | 127 => 149 | 145 => 340 | 143 => 338 | 2 => 2 | 171 => 305 | 53 => 293 | 5 => 5 | 173 => 308 | 212 => 313 | 51 => 260 | 20 => 20 | 213 => 314 | 46 => 56 | 232 => 322 | 233 => 323 | 80 => 91 | n => n, fun | 15 => 12 | 16 => 13 | 17 => 7 | 18 => 10 | 19 => 11 | n => n⟩
def Tryz.laysC174_ren : Go.Shelf.Ren := ⟨fun | 174 => 260 | 247 => 261 | 245 => 262 | 287 => 263 | 279 => 264 | 280 => 265 | 281 => 266 | 282 => 267 | 321 => 268 | 322 => 269 | 316 => 270 | 171 => 272 | 205 => 271 | 243 => 273 | 246 => 208 | 283 => 236 | 284 => 237 | 285 => 238 | 286 => 239 | 129 => 249 | 317 => 248 | 318 => 250 | 319 => 251 | 320 => 252 | 337 => 257 | 338 => 258 | n => n, fun | 9 => 9 | 3 => 3 | 2 => 2 | 75 => 34 | 85 => 324 | 4 => 4 | 167 => 327 | 5 => 5 | 53 => 293 | 175 => 328 | 46 => 56 | 168 => 330 | 37 => 81 | 0 => 0 | 210 => 336 | 21 => 21 | 127 => 149 | 145 => 340 | 143 => 338 | 171 => 305 | 173 => 308 | 212 => 313 | 51 => 260 | 20 => 20 | 213 => 314 | 232 => 322 | 233 => 323 | 80 => 91 | n => n, fun | 15 => 12 | 16 => 13 | 17 => 7 | 18 => 10 | 19 => 11 | n => n⟩
theorem Tryz.laysC174 : Go.Proofs.LaysC.n174 Tryz.prog Tryz.laysC174_ren := {
  mixed := by kernel_rfl
  f129 := Tryz.func249.trans (congrArg some (by kernel_rfl))
  f171 := Tryz.func272.trans (congrArg some (by kernel_rfl))
  f174 := Tryz.func260.trans (congrArg some (by kernel_rfl))
  f205 := Tryz.func271.trans (congrArg some (by kernel_rfl))
  f243 := Tryz.func273.trans (congrArg some (by kernel_rfl))
  f245 := Tryz.func262.trans (congrArg some (by kernel_rfl))
  f246 := Tryz.func208.trans (congrArg some (by kernel_rfl))
  f247 := Tryz.func261.trans (congrArg some (by kernel_rfl))
  f279 := Tryz.func264.trans (congrArg some (by kernel_rfl))
  f280 := Tryz.func265.trans (congrArg some (by kernel_rfl))
  f281 := Tryz.func266.trans (congrArg some (by kernel_rfl))
  f282 := Tryz.func267.trans (congrArg some (by kernel_rfl))
  f283 := Tryz.func236.trans (congrArg some (by kernel_rfl))
  f284 := Tryz.func237.trans (congrArg some (by kernel_rfl))
  f285 := Tryz.func238.trans (congrArg some (by kernel_rfl))
  f286 := Tryz.func239.trans (congrArg some (by kernel_rfl))
  f287 := Tryz.func263.trans (congrArg some (by kernel_rfl))
  f316 := Tryz.func270.trans (congrArg some (by kernel_rfl))
  f317 := Tryz.func248.trans (congrArg some (by kernel_rfl))
  f318 := Tryz.func250.trans (congrArg some (by kernel_rfl))
  f319 := Tryz.func251.trans (congrArg some (by kernel_rfl))
  f320 := Tryz.func252.trans (congrArg some (by kernel_rfl))
  f321 := Tryz.func268.trans (congrArg some (by kernel_rfl))
  f322 := Tryz.func269.trans (congrArg some (by kernel_rfl))
  f337 := Tryz.func257.trans (congrArg some (by kernel_rfl))
  f338 := Tryz.func258.trans (congrArg some (by kernel_rfl))
  t0 := Tryz.underlying0
  a0 := Tryz.isAgg0
  z0 := Tryz.sizeOf0
  v0 := Tryz.zeroValue0
  t2 := Tryz.underlying2
  a2 := Tryz.isAgg2
  z2 := Tryz.sizeOf2
  v2 := Tryz.zeroValue2
  t3 := Tryz.underlying3
  a3 := Tryz.isAgg3
  z3 := Tryz.sizeOf3
  v3 := Tryz.zeroValue3
  t4 := Tryz.underlying4
  a4 := Tryz.isAgg4
  z4 := Tryz.sizeOf4
  v4 := Tryz.zeroValue4
  t5 := Tryz.underlying5
  a5 := Tryz.isAgg5
  z5 := Tryz.sizeOf5
  v5 := Tryz.zeroValue5
  t9 := Tryz.underlying9
  a9 := Tryz.isAgg9
  z9 := Tryz.sizeOf9
  v9 := Tryz.zeroValue9
  t20 := Tryz.underlying20
  a20 := Tryz.isAgg20
  z20 := Tryz.sizeOf20
  v20 := Tryz.zeroValue20
  t21 := Tryz.underlying21
  a21 := Tryz.isAgg21
  z21 := Tryz.sizeOf21
  v21 := Tryz.zeroValue21
  t37 := Tryz.underlying81
  a37 := Tryz.isAgg81
  z37 := Tryz.sizeOf81
  v37 := Tryz.zeroValue81
  t46 := Tryz.underlying56
  a46 := Tryz.isAgg56
  z46 := Tryz.sizeOf56
  v46 := Tryz.zeroValue56
  t51 := Tryz.underlying260
  a51 := Tryz.isAgg260
  z51 := Tryz.sizeOf260
  v51 := Tryz.zeroValue260
  t53 := Tryz.underlying293
  a53 := Tryz.isAgg293
  z53 := Tryz.sizeOf293
  v53 := Tryz.zeroValue293
  t75 := Tryz.underlying34
  a75 := Tryz.isAgg34
  z75 := Tryz.sizeOf34
  v75 := Tryz.zeroValue34
  t85 := Tryz.underlying324
  a85 := Tryz.isAgg324
  z85 := Tryz.sizeOf324
  v85 := Tryz.zeroValue324
  t127 := Tryz.underlying149
  a127 := Tryz.isAgg149
  z127 := Tryz.sizeOf149
  v127 := Tryz.zeroValue149
  t143 := Tryz.underlying338
  a143 := Tryz.isAgg338
  z143 := Tryz.sizeOf338
  v143 := Tryz.zeroValue338
  t145 := Tryz.underlying340
  a145 := Tryz.isAgg340
  z145 := Tryz.sizeOf340
  v145 := Tryz.zeroValue340
  t167 := Tryz.underlying327
  a167 := Tryz.isAgg327
  z167 := Tryz.sizeOf327
  v167 := Tryz.zeroValue327
  t168 := Tryz.underlying330
  a168 := Tryz.isAgg330
  z168 := Tryz.sizeOf330
  v168 := Tryz.zeroValue330
  t171 := Tryz.underlying305
  a171 := Tryz.isAgg305
  z171 := Tryz.sizeOf305
  v171 := Tryz.zeroValue305
  t173 := Tryz.underlying308
  a173 := Tryz.isAgg308
  z173 := Tryz.sizeOf308
  v173 := Tryz.zeroValue308
  t175 := Tryz.underlying328
  a175 := Tryz.isAgg328
  z175 := Tryz.sizeOf328
  v175 := Tryz.zeroValue328
  t210 := Tryz.underlying336
  a210 := Tryz.isAgg336
  z210 := Tryz.sizeOf336
  v210 := Tryz.zeroValue336
  t212 := Tryz.underlying313
  a212 := Tryz.isAgg313
  z212 := Tryz.sizeOf313
  v212 := Tryz.zeroValue313
  t213 := Tryz.underlying314
  a213 := Tryz.isAgg314
  z213 := Tryz.sizeOf314
  t232 := Tryz.underlying322
  a232 := Tryz.isAgg322
  z232 := Tryz.sizeOf322
  v232 := Tryz.zeroValue322
  t233 := Tryz.underlying323
  a233 := Tryz.isAgg323
  z233 := Tryz.sizeOf323
  v233 := Tryz.zeroValue323
  g15 := by kernel_rfl
  g16 := by kernel_rfl
  g17 := by kernel_rfl
  g18 := by kernel_rfl
  g19 := by kernel_rfl
  t80 := Tryz.underlying91
  a80 := Tryz.isAgg91
  z80 := Tryz.sizeOf91
  v80 := Tryz.zeroValue91
  i0 := by kernel_rfl
  i2 := by kernel_rfl
  i3 := by kernel_rfl
  i4 := by kernel_rfl
  i5 := by kernel_rfl
  i9 := by kernel_rfl
  i20 := by kernel_rfl
  i21 := by kernel_rfl
  i37 := by kernel_rfl
  i46 := by kernel_rfl
  i51 := by kernel_rfl
  i53 := by kernel_rfl
  i75 := by kernel_rfl
  i80 := by kernel_rfl
  i85 := by kernel_rfl
  i127 := by kernel_rfl
  i143 := by kernel_rfl
  i145 := by kernel_rfl
  i167 := by kernel_rfl
  i168 := by kernel_rfl
  i171 := by kernel_rfl
  i173 := by kernel_rfl
  i175 := by kernel_rfl
  i210 := by kernel_rfl
  i212 := by kernel_rfl
  i232 := by kernel_rfl
  i233 := by kernel_rfl
  m15 := by kernel_rfl
  m16 := by kernel_rfl
  m17 := by kernel_rfl
  m18 := by kernel_rfl
  m19 := by kernel_rfl
  c0 := by kernel_rfl
  c2 := by kernel_rfl
  c3 := by kernel_rfl
  c4 := by kernel_rfl
  c5 := by kernel_rfl
  c9 := by kernel_rfl
  c20 := by kernel_rfl
  c21 := by kernel_rfl
  c37 := by kernel_rfl
  c46 := by kernel_rfl
  c51 := by kernel_rfl
  c53 := by kernel_rfl
  c75 := by kernel_rfl
  c80 := by kernel_rfl
  c85 := by kernel_rfl
  c127 := by kernel_rfl
  c143 := by kernel_rfl
  c145 := by kernel_rfl
  c167 := by kernel_rfl
  c168 := by kernel_rfl
  c171 := by kernel_rfl
  c173 := by kernel_rfl
  c175 := by kernel_rfl
  c210 := by kernel_rfl
  c212 := by kernel_rfl
  c213 := by kernel_rfl
  c232 := by kernel_rfl
  c233 := by kernel_rfl }
open Go.RowKit in
theorem Tryz.strconv_ParseInt_10_at64_ok (s : ByteArray) (hmax : s.size ≤ 9223372036854775806) (v : Int) (h : Lib.parseIntB 64 s.data.toList = .ok v) (w : World) :
    Calls Tryz.prog 260 #[.string s, .int .i64 10, .int .i64 64] w fun e w' => e = .returned (.tuple #[.int .i64 v, .nilIface]) ∧ (w' = w ∨ ∃ t, w' = Lib.bytesWorld w 5 t) := Any.strconv_ParseInt_10_at64_ok Tryz.laysC174 s hmax v h w
open Go.RowKit in
theorem Tryz.strconv_ParseInt_10_at64_syntax_var (s : ByteArray) (hlim : s.size ≤ 281474976710656) (h : Lib.parseIntB 64 s.data.toList = .«syntax») (tp : TypeId) (p : Value) (w : World) (hvar : w.var? Tryz.prog "strconv.ErrSyntax" = some #[.iface tp p]) :
    Calls Tryz.prog 260 #[.string s, .int .i64 10, .int .i64 64] w fun e w' => ∃ N, e = .returned (.tuple #[.int .i64 (0), .iface 330 (.pointer (some ⟨N, 0, none⟩))]) ∧ w.heap.size ≤ N ∧ w'.heap[N]? = some (.cells #[.string ⟨#[80, 97, 114, 115, 101, 73, 110, 116]⟩, .string s, .iface tp p] 336 (0, 0)) ∧ Below w.heap.size w w' := Any.strconv_ParseInt_10_at64_syntax_var Tryz.laysC174 s hlim h tp p w hvar
open Go.RowKit in
theorem Tryz.strconv_ParseInt_10_at64_range_var (s : ByteArray) (hlim : s.size ≤ 281474976710656) (h : Lib.parseIntB 64 s.data.toList = .range) (tp : TypeId) (p : Value) (w : World) (hvar : w.var? Tryz.prog "strconv.ErrRange" = some #[.iface tp p]) :
    Calls Tryz.prog 260 #[.string s, .int .i64 10, .int .i64 64] w fun e w' => ∃ N, e = .returned (.tuple #[.int .i64 (Lib.intSat 64 s.data.toList), .iface 330 (.pointer (some ⟨N, 0, none⟩))]) ∧ w.heap.size ≤ N ∧ w'.heap[N]? = some (.cells #[.string ⟨#[80, 97, 114, 115, 101, 73, 110, 116]⟩, .string s, .iface tp p] 336 (0, 0)) ∧ Below w.heap.size w w' := Any.strconv_ParseInt_10_at64_range_var Tryz.laysC174 s hlim h tp p w hvar
def Tryz.lays219_ren : Go.Shelf.Ren := ⟨fun | 219 => 67 | 217 => 104 | 225 => 105 | 224 => 106 | 267 => 107 | 266 => 159 | 314 => 160 | n => n, fun | 9 => 9 | 3 => 3 | 4 => 4 | 5 => 5 | 46 => 56 | 146 => 261 | 51 => 260 | n => n, fun | 1 => 2 | n => n⟩
def Tryz.lays145_ren : Go.Shelf.Ren := ⟨fun | 145 => 89 | 220 => 144 | 219 => 67 | 217 => 104 | 225 => 105 | 224 => 106 | 267 => 107 | 266 => 159 | 314 => 160 | n => n, fun | 9 => 9 | 4 => 4 | 59 => 187 | 3 => 3 | 5 => 5 | 46 => 56 | 146 => 261 | 51 => 260 | n => n, fun | 1 => 2 | n => n⟩
theorem Tryz.lays145 : Go.Proofs.Lays.n145 Tryz.prog Tryz.lays145_ren := {
  mixed := by kernel_rfl
  f145 := Tryz.func89.trans (congrArg some (by kernel_rfl))
  f217 := Tryz.func104.trans (congrArg some (by kernel_rfl))
  f219 := Tryz.func67.trans (congrArg some (by kernel_rfl))
  f220 := Tryz.func144.trans (congrArg some (by kernel_rfl))
  f224 := Tryz.func106.trans (congrArg some (by kernel_rfl))
  f225 := Tryz.func105.trans (congrArg some (by kernel_rfl))
  f266 := Tryz.func159.trans (congrArg some (by kernel_rfl))
  f267 := Tryz.func107.trans (congrArg some (by kernel_rfl))
  f314 := Tryz.func160.trans (congrArg some (by kernel_rfl))
  t3 := Tryz.underlying3
  a3 := Tryz.isAgg3
  z3 := Tryz.sizeOf3
  v3 := Tryz.zeroValue3
  t4 := Tryz.underlying4
  a4 := Tryz.isAgg4
  z4 := Tryz.sizeOf4
  v4 := Tryz.zeroValue4
  t5 := Tryz.underlying5
  a5 := Tryz.isAgg5
  z5 := Tryz.sizeOf5
  v5 := Tryz.zeroValue5
  t9 := Tryz.underlying9
  a9 := Tryz.isAgg9
  z9 := Tryz.sizeOf9
  v9 := Tryz.zeroValue9
  t46 := Tryz.underlying56
  a46 := Tryz.isAgg56
  z46 := Tryz.sizeOf56
  v46 := Tryz.zeroValue56
  t51 := Tryz.underlying260
  a51 := Tryz.isAgg260
  z51 := Tryz.sizeOf260
  v51 := Tryz.zeroValue260
  t59 := Tryz.underlying187
  a59 := Tryz.isAgg187
  z59 := Tryz.sizeOf187
  v59 := Tryz.zeroValue187
  t146 := Tryz.underlying261
  a146 := Tryz.isAgg261
  z146 := Tryz.sizeOf261
  v146 := Tryz.zeroValue261
  g1 := by kernel_rfl }
open Go.RowKit Go.Lib in
theorem Tryz.strings_Cut (s sep : ByteArray) (m : Int) (w : World) (hs : s.size < 4294967281) (hm : w.cell? ⟨2, 0, none⟩ = some (.int .i64 m)) :
    Calls Tryz.prog 89 #[.string s, .string sep] w fun e w' => e = .returned (.tuple #[.string ⟨(Lib.cut s.data.toList sep.data.toList).1.toArray⟩, .string ⟨(Lib.cut s.data.toList sep.data.toList).2.1.toArray⟩, .bool (Lib.cut s.data.toList sep.data.toList).2.2]) ∧ ∃ n, w' = w.drewN n := Any.strings_Cut Tryz.lays145 s sep m w hs hm
def Tryz.lays206_ren : Go.Shelf.Ren := ⟨fun | 206 => 146 | n => n, fun | 9 => 9 | 4 => 4 | 3 => 3 | n => n, fun | n => n⟩
def Tryz.lays99_ren : Go.Shelf.Ren := ⟨fun | 99 => 91 | 206 => 146 | n => n, fun | 9 => 9 | 4 => 4 | 3 => 3 | n => n, fun | n => n⟩
theorem Tryz.lays99 : Go.Proofs.Lays.n99 Tryz.prog Tryz.lays99_ren := {
  mixed := by kernel_rfl
  f99 := Tryz.func91.trans (congrArg some (by kernel_rfl))
  f206 := Tryz.func146.trans (congrArg some (by kernel_rfl))
  t3 := Tryz.underlying3
  a3 := Tryz.isAgg3
  z3 := Tryz.sizeOf3
  v3 := Tryz.zeroValue3
  t4 := Tryz.underlying4
  a4 := Tryz.isAgg4
  z4 := Tryz.sizeOf4
  v4 := Tryz.zeroValue4
  t9 := Tryz.underlying9
  a9 := Tryz.isAgg9
  z9 := Tryz.sizeOf9
  v9 := Tryz.zeroValue9 }
open Go.RowKit Go.Lib in
theorem Tryz.strings_HasPrefix (s p : ByteArray) (w : World) :
    Calls Tryz.prog 91 #[.string s, .string p] w fun e w' => e = .returned (.bool (Lib.hasPrefix s.data.toList p.data.toList)) ∧ w' = w := Any.strings_HasPrefix Tryz.lays99 s p w
end Go.Proofs
namespace Go.Proofs.YtnfhpdbbfejioaaGreatDoor
set_option linter.unusedVariables false
set_option linter.unusedSimpArgs false
set_option maxRecDepth 100000
set_option maxHeartbeats 16000000
open Go Go.RowKit
abbrev str (s : By) : Value := .string ⟨s.toArray⟩
theorem ba_inj {a b : ByteArray} (h : a.data.toList = b.data.toList) : a = b := by
 cases a
 cases b
 simp at h
 rw [h]
theorem ret_int {k : IntKind} {a b : Int} (h : a = b) : Ending.returned (.int k a) = .returned (.int k b) := by rw [h]
theorem trim_set (s set : ByteArray) (w : World) (h : set.data.toList.all (fun b => decide (b.toNat < 128)) = true) (hs : set.size < 4294967281) :
  Calls Tryz.prog 145 #[.string s, .string set] w fun e w' => e = .returned (.string ⟨(Lib.trimLeftS s.data.toList set.data.toList).toArray⟩) ∧ Below w.heap.size w w' :=
 Any.strings_TrimLeft_laid Tryz.lays161 (by kernel_rfl) s set w hs (ascii_of_all h)
theorem run_any (s set : ByteArray) (w : World) (h : set.data.toList.all (fun b => decide (b.toNat < 128)) = true) (hs : s.size ≤ 1000000) (hz : set.size < 4294967281) :
  Calls Tryz.prog 90 #[.string s, .string set] w fun e w' => e = .returned (str (zL s.data.toList set.data.toList)) ∧ Below w.heap.size w w' := by
 obtain ⟨t, ht⟩ : ∃ t : ByteArray, t = ⟨(Lib.trimLeftS s.data.toList set.data.toList).toArray⟩ := ⟨_, rfl⟩
 have HT : Hid (Calls Tryz.prog 145 #[.string s, .string set] w fun e w' => e = .returned (.string t) ∧ Below w.heap.size w w') := by rw [ht]; exact trim_set s set w h hz
 have htl : t.data.toList = Lib.trimLeftS s.data.toList set.data.toList := by rw [ht]
 have hle : t.size ≤ s.size := by
  have e1 : t.size = t.data.toList.length := by simp
  have e2 : s.size = s.data.toList.length := by simp
  rw [e1, e2, htl]
  exact (List.dropWhile_sublist _).length_le
 have HR : Hid (s.extract 0 (s.size - t.size) = ⟨(zL s.data.toList set.data.toList).toArray⟩) := by
  refine ba_inj ?_
  rw [Lib.extract_from_zero, ← run_trim]
  have e1 : t.size = t.data.toList.length := by simp
  have e2 : s.size = s.data.toList.length := by simp
  rw [e1, e2, htl]
 clear ht htl h
 go_enter Tryz.func90, Tryz.ntmps90
 go_wp2_with (go_at_call 145; refine HT.out.mono ?_; rintro e w1 ⟨rfl, hb⟩; have HB : Hid (Below w.heap.size w w1) := hb; clear hb)
 go_ret
 exact ⟨by have := HR.out; simp [this], HB.out⟩
theorem ixB_cases (l : By) (c : UInt8) : Lib.indexByte l c = -1 ∨ 0 ≤ Lib.indexByte l c := by
 induction l with
 | nil => exact .inl rfl
 | cons b l ih =>
  rw [Lib.indexByte]
  split
  ·exact .inr (by omega)
  ·split
   ·exact .inl rfl
   ·rename_i h
    rcases ih with ih | ih
    ·simp [ih] at h
    ·exact .inr (by omega)
theorem cut_fst (c : UInt8) : ∀ l : By, (Lib.cut l [c]).1 = l.takeWhile (· != c)
 | [] => rfl
 | b :: l => by
  have ih := cut_fst c l
  unfold Lib.cut at ih ⊢
  rw [Lib.index_one] at ih ⊢
  rw [Lib.indexByte]
  by_cases hb : b = c
  ·subst hb
   simp
  ·have h1 : ¬ (b == c) = true := by simp [hb]
   have h3 : (b != c) = true := by simpa using hb
   rw [if_neg h1, List.takeWhile_cons, h3, if_pos rfl, ← ih]
   rcases ixB_cases l c with h | h
   ·simp [h]
   ·have h2 : ¬ (Lib.indexByte l c == -1) = true := by simp; omega
    rw [if_neg h2, if_pos h, if_pos (by omega)]
    simp only
    rw [show (Lib.indexByte l c + 1).toNat = (Lib.indexByte l c).toNat + 1 by omega, List.take_succ_cons]
theorem drop_tw (p : UInt8 → Bool) : ∀ l : By, l.drop (l.takeWhile p).length = l.dropWhile p
 | [] => rfl
 | b :: l => by
  rw [List.takeWhile_cons, List.dropWhile_cons]
  split
  ·rw [List.length_cons, List.drop_succ_cons, drop_tw p l]
  ·rfl
structure Env (w : World) : Prop where
 max : ∃ m, w.cell? ⟨2, 0, none⟩ = some (.int .i64 m)
 marks : w.rangeAt 1 0 (marksL.map str)
 pairs : w.rangeAt 6 0 (pairsL.flatMap fun x => [str x.1, .int .i64 (x.2 : Int)])
 syn : ∃ tp p, w.var? Tryz.prog "strconv.ErrSyntax" = some #[.iface tp p]
 rng : ∃ tp p, w.var? Tryz.prog "strconv.ErrRange" = some #[.iface tp p]
theorem var_below {w w' : World} {name : String} {cs : Array Value} (h : w.var? Tryz.prog name = some cs) (hb : Below w.heap.size w w') : w'.var? Tryz.prog name = some cs := by
 unfold World.var? at *
 cases hg : Tryz.prog.globalNamed name with
 | none => simp [hg] at h
 | some g =>
  simp only [hg, Option.bind_some] at h ⊢
  have hlt : g < w.heap.size := by
   rcases Nat.lt_or_ge g w.heap.size with h1 | h1
   ·exact h1
   ·rw [Array.getElem?_eq_none h1] at h; simp at h
  rw [hb.block g hlt]
  exact h
theorem Env.below {w w' : World} (h : Env w) (hb : Below w.heap.size w w') : Env w' := by
 obtain ⟨m, hm⟩ := h.max
 obtain ⟨a, b, hs⟩ := h.syn
 obtain ⟨c, d, hr⟩ := h.rng
 refine ⟨⟨m, (hb.cell (p := ⟨2, 0, none⟩) (World.block_lt_of_cell? w _ hm)).trans hm⟩, fun j v hv => ?_, fun j v hv => ?_, ⟨a, b, var_below hs hb⟩, ⟨c, d, var_below hr hb⟩⟩
 ·have := h.marks j v hv
  exact (hb.cell (World.block_lt_of_cell? w _ this)).trans this
 ·have := h.pairs j v hv
  exact (hb.cell (World.block_lt_of_cell? w _ this)).trans this
def qm (s : By) (k : Nat) : Nat := s.length - (zN false (s.drop k)).length
theorem skip_any (s : ByteArray) (k : Nat) (w : World) (he : Env w) (hk : k ≤ s.size) (hs : s.size ≤ 1000000) :
  Calls Tryz.prog 57 #[.string s, .int .i64 k] w fun e w' => e = .returned (.int .i64 (qm s.data.toList k : Nat)) ∧ Below w.heap.size w w' := by
 have hsl : s.data.toList.length = s.size := by simp
 have HE : Hid (∀ w', Below w.heap.size w w' → Env w') := fun w' hb => he.below hb
 clear he
 go_enter Tryz.func57, Tryz.ntmps57
 go_wp2_with fail
 go_loopw [1] (fun i wr => ∃ j : Nat, j ≤ s.size ∧ i = .int .i64 j ∧ Hid (qm s.data.toList j = qm s.data.toList k) ∧ Hid (Below w.heap.size w wr)) (fun i _ => s.size - (intOf i).toNat)
 case atStart => exact ⟨k, hk, rfl, rfl, Below.refl _ _⟩
 case round =>
  obtain ⟨j, hj, rfl, HS, HB⟩ := hrel
  by_cases hlt : j < s.size
  ·have hd : s.data.toList.drop j = s[j] :: s.data.toList.drop (j + 1) := by
    rw [List.drop_eq_getElem_cons (by omega)]
    rfl
   have HD : Hid (s.data.toList.drop j = s[j] :: s.data.toList.drop (j + 1)) := hd
   clear hd hsl
   by_cases hb : s[j] = 32 ∨ s[j] = 9 ∨ s[j] = 10
   ·have HN : Hid (qm s.data.toList (j + 1) = qm s.data.toList k) := by
     show _ = _
     rw [← HS.out]
     unfold qm
     rw [HD.out, zN, if_pos hb]
    rcases hb with hb | hb | hb
    ·have e1 : (s[j].toNat : Int) = 32 := by rw [hb]; rfl
     clear hb
     go_wp2
     exact ⟨⟨j + 1, by omega, by go_num, HN, HB⟩, by simp [intOf]; omega⟩
    ·have e1 : (s[j].toNat : Int) = 9 := by rw [hb]; rfl
     clear hb
     go_wp2
     exact ⟨⟨j + 1, by omega, by go_num, HN, HB⟩, by simp [intOf]; omega⟩
    ·have e1 : (s[j].toNat : Int) = 10 := by rw [hb]; rfl
     clear hb
     go_wp2
     exact ⟨⟨j + 1, by omega, by go_num, HN, HB⟩, by simp [intOf]; omega⟩
   ·have hb1 : ¬ s[j] = 32 := fun e => hb (.inl e)
    have hb2 : ¬ s[j] = 9 := fun e => hb (.inr (.inl e))
    have hb3 : ¬ s[j] = 10 := fun e => hb (.inr (.inr e))
    have n1 : ((s[j].toNat : Int) == 32) = false := by
     have : s[j].toNat ≠ 32 := fun e => hb1 (UInt8.toNat_inj.1 e)
     simp; omega
    have n2 : ((s[j].toNat : Int) == 9) = false := by
     have : s[j].toNat ≠ 9 := fun e => hb2 (UInt8.toNat_inj.1 e)
     simp; omega
    have n3 : ((s[j].toNat : Int) == 10) = false := by
     have : s[j].toNat ≠ 10 := fun e => hb3 (UInt8.toNat_inj.1 e)
     simp; omega
    by_cases h35 : s[j] = 35
    ·obtain ⟨mx, hmx⟩ := (HE.out wr HB.out).max
     have hex : (s.extract j s.size).data.toList = s.data.toList.drop j := Lib.extract_to_end s j
     obtain ⟨ln, hln⟩ : ∃ ln : ByteArray, ln = ⟨((s.data.toList.drop j).takeWhile (· != 10)).toArray⟩ := ⟨_, rfl⟩
     have hls : ln.size = ((s.data.toList.drop j).takeWhile (· != 10)).length := by rw [hln]; simp [ByteArray.size]
     have hl1 : 1 ≤ ln.size := by
      rw [hls, HD.out, List.takeWhile_cons, if_pos (by rw [h35]; decide)]
      simp
     have hl2 : j + ln.size ≤ s.size := by
      rw [hls]
      have := (List.takeWhile_prefix (fun x : UInt8 => x != 10) (l := s.data.toList.drop j)).length_le
      rw [List.length_drop] at this
      have hsl : s.data.toList.length = s.size := by simp
      omega
     have HN : Hid (qm s.data.toList (j + ln.size) = qm s.data.toList k) := by
      show _ = _
      rw [← HS.out]
      unfold qm
      have e1 : s.data.toList.drop (j + ln.size) = (s.data.toList.drop j).dropWhile (· != 10) := by
       rw [← List.drop_drop, hls, drop_tw]
      have e2 : (s[j] != 10) = true := by simp [hb3]
      rw [e1, HD.out, zN, if_neg hb, if_pos h35, skip_remark, List.dropWhile_cons, e2, if_pos rfl]
     have HC : Hid (Calls Tryz.prog 89 #[.string (s.extract j s.size), .string ⟨#[10]⟩] wr fun e w' => (∃ (x : ByteArray) (b : Bool), e = .returned (.tuple #[.string ln, .string x, .bool b])) ∧ Below w.heap.size w w') := by
      have hz : (s.extract j s.size).size < 4294967281 := by
       have e : (s.extract j s.size).size = (s.extract j s.size).data.toList.length := by simp
       have hsl : s.data.toList.length = s.size := by simp
       rw [e, hex, List.length_drop]; omega
      refine (Tryz.strings_Cut (s.extract j s.size) ⟨#[10]⟩ mx wr hz hmx).mono ?_
      rintro e w' ⟨rfl, n, rfl⟩
      have e3 : (Lib.cut (s.extract j s.size).data.toList [10]).1 = (s.data.toList.drop j).takeWhile (· != 10) := by rw [hex, cut_fst]
      exact ⟨⟨⟨(Lib.cut (s.extract j s.size).data.toList [10]).2.1.toArray⟩, (Lib.cut (s.extract j s.size).data.toList [10]).2.2, by rw [hln, ← e3]⟩, ⟨HB.out.os, HB.out.tape, HB.out.output, HB.out.size, HB.out.block⟩⟩
     have e1 : (s[j].toNat : Int) = 35 := by rw [h35]; rfl
     clear hb hb1 hb2 hb3 h35 hex hln hls n1 n2 n3 hmx
     have hjs : j ≤ s.size := by omega
     go_wp2_with (go_at_call 89; refine HC.out.mono ?_; rintro e w1 ⟨⟨x, b, rfl⟩, hb⟩; have HB1 : Hid (Below w.heap.size w w1) := hb; clear hb)
     exact ⟨⟨j + ln.size, by omega, by go_num, HN, HB1⟩, by simp [intOf]; omega⟩
    ·have n4 : ((s[j].toNat : Int) == 35) = false := by
      have : s[j].toNat ≠ 35 := fun e => h35 (UInt8.toNat_inj.1 e)
      simp; omega
     have HN : Hid (j = qm s.data.toList k) := by
      show _ = _
      rw [← HS.out]
      unfold qm
      have hsl : s.data.toList.length = s.size := by simp
      rw [HD.out, zN, if_neg hb, if_neg h35, ← HD.out, List.length_drop]
      omega
     clear hb hb1 hb2 hb3 h35
     go_wp2
     go_ret
     exact ⟨ret_int (by rw [← HN.out]), HB.out⟩
  ·have HN : Hid (j = qm s.data.toList k) := by
    show _ = _
    rw [← HS.out]
    unfold qm
    rw [List.drop_of_length_le (by omega)]
    simp [zN]
    omega
   clear hsl
   go_wp2
   go_ret
   exact ⟨ret_int (by rw [← HN.out]), HB.out⟩
def plD : List (By × Nat) → DataW Unit
 | [] => .map []
 |(nm, i) :: ps => (plD ps).put (.string nm) (.lit (.int .i64 i))
theorem plD_map : ∀ ps, Maps.IsMap (plD ps)
 | [] => Maps.isMap_empty
 |(_, _) :: ps => (plD_map ps).put _ _
theorem key_ne {a b : By} (h : a ≠ b) : Lit.string a ≠ Lit.string b := fun e => h (by injection e)
theorem plD_at (nm : By) (z : DataW Unit) : ∀ ps, (plD ps).atKey (.string nm) z = (match ps.lookup nm with | some i => .lit (.int .i64 i) | none => z)
 | [] => rfl
 |(x, i) :: ps => by
  by_cases h : nm = x
  ·subst h
   rw [plD, Maps.atKey_put_same (plD_map ps) (by trivial)]
   simp [List.lookup]
  ·rw [plD, Maps.atKey_put_other (key_ne h), plD_at nm z ps]
   have : (nm == x) = false := by simpa using h
   simp [List.lookup, this]
def wdP : List (By × Nat) := wordsL.reverse.map fun x => (x, 1)
theorem wdP_look (v : By) : wdP.lookup v = if wordsL.contains v then some 1 else none := by
 have h : ∀ l : List By, (l.map fun x => (x, 1)).lookup v = if l.contains v then some 1 else none := fun l => by
  induction l with
  | nil => rfl
  | cons x l ih =>
   rw [List.map_cons, List.lookup_cons, List.contains_cons]
   by_cases e : v = x
   ·subst e; simp
   ·have : (v == x) = false := by simpa using e
    rw [this, ih]
    simp
 rw [wdP, h]
 have e : wordsL.reverse.contains v = wordsL.contains v := by simp
 rw [e]
def MpAt (w : World) (b n : Nat) (ps : List (By × Nat)) : Prop := w.ownsMap Tryz.prog 9 (plainElem (H := Unit) Tryz.prog 134) b n (plD ps)
theorem MpAt.below {w w' : World} {b n : Nat} {ps : List (By × Nat)} (h : MpAt w b n ps) (hb : Below w.heap.size w w') : MpAt w' b n ps :=
 World.ownsMap.kept h (row := none) ⟨hb.os, hb.tape, hb.output, hb.size, fun j hj _ => hb.block j hj⟩ (by simp)
theorem zero73 (w : World) : (zeroValue 134).run Tryz.prog w = .ok (.int .i64 0) w := Tryz.zeroValue134 w
theorem mp_put {w : World} {b n : Nat} {ps : List (By × Nat)} (h : MpAt w b n ps) (hn : n < 100) (x : ByteArray) (hx : x.size ≤ 100) :
  ∃ w', (Instr.mapUpdate 131 (.map (some b)) (.string x) (.int .i64 1)).run Tryz.prog w = .ok () w' ∧ MpAt w' b (n + 1) ((x.data.toList, 1) :: ps) ∧ w.grownBy w' (some b) := by
 have hK : keyOf Tryz.prog 9 (.string x) = some (.string x.data.toList) := Go.WideMaps.keyOf_string_mk Tryz.underlying9 (by unfold maxLen; omega)
 have hV : plainElem (H := Unit) Tryz.prog 134 (.int .i64 ((1 : Nat) : Int)) = some (.lit (.int .i64 ((1 : Nat) : Int)), []) := plainElem_int Tryz.underlying134 (by decide)
 exact World.ownsMap.update h (Maps.string_keyed Tryz.underlying9) Tryz.underlying131 (by unfold maxLen; omega) hK hV
theorem mp_look {w : World} {b n : Nat} (h : MpAt w b n wdP) (s : ByteArray) (hs : s.size ≤ maxLen) :
  (Instr.lookup 131 (.map (some b)) (.string s) false).run Tryz.prog w = .ok (.int .i64 (if wordsL.contains s.data.toList then 1 else 0 : Nat)) w := by
 obtain ⟨c, hrun, hat, hwc⟩ := World.ownsMap.lookup_int h (Maps.string_keyed Tryz.underlying9) Tryz.underlying131 Tryz.underlying134 (zero73 w) (Go.WideMaps.keyOf_string_mk Tryz.underlying9 hs)
 rw [hrun]
 rw [plD_at, wdP_look] at hat
 by_cases hc : wordsL.contains s.data.toList = true
 ·rw [if_pos hc] at hat ⊢
  simp at hat
  rw [← hat]
  rfl
 ·rw [if_neg hc] at hat ⊢
  simp at hat
  rw [← hat]
  rfl
theorem words_any (w : World) : Calls Tryz.prog 56 #[] w fun e w' => e = .returned (.map (some w.heap.size)) ∧ MpAt w' w.heap.size 12 wdP ∧ Below w.heap.size w w' := by
 have hmm := @run_makeMap Tryz.prog
 have m0 : MpAt (w.alloc (.map #[] 0)) w.heap.size 0 [] := World.ownsMap_made w Tryz.prog 9 (plainElem (H := Unit) Tryz.prog 134)
 obtain ⟨w1, r1, m1, g1⟩ := mp_put m0 (by omega) ⟨#[102, 110]⟩ (by decide)
 obtain ⟨w2, r2, m2, g2⟩ := mp_put m1 (by omega) ⟨#[105, 110, 116]⟩ (by decide)
 obtain ⟨w3, r3, m3, g3⟩ := mp_put m2 (by omega) ⟨#[97, 114, 114]⟩ (by decide)
 obtain ⟨w4, r4, m4, g4⟩ := mp_put m3 (by omega) ⟨#[118, 97, 114]⟩ (by decide)
 obtain ⟨w5, r5, m5, g5⟩ := mp_put m4 (by omega) ⟨#[114, 101, 116, 117, 114, 110]⟩ (by decide)
 obtain ⟨w6, r6, m6, g6⟩ := mp_put m5 (by omega) ⟨#[112, 114, 105, 110, 116]⟩ (by decide)
 obtain ⟨w7, r7, m7, g7⟩ := mp_put m6 (by omega) ⟨#[105, 102]⟩ (by decide)
 obtain ⟨w8, r8, m8, g8⟩ := mp_put m7 (by omega) ⟨#[101, 108, 115, 101]⟩ (by decide)
 obtain ⟨w9, r9, m9, g9⟩ := mp_put m8 (by omega) ⟨#[119, 104, 105, 108, 101]⟩ (by decide)
 obtain ⟨w10, r10, m10, g10⟩ := mp_put m9 (by omega) ⟨#[110, 101, 119]⟩ (by decide)
 obtain ⟨w11, r11, m11, g11⟩ := mp_put m10 (by omega) ⟨#[108, 101, 110]⟩ (by decide)
 obtain ⟨w12, r12, m12, g12⟩ := mp_put m11 (by omega) ⟨#[105, 110, 112, 117, 116]⟩ (by decide)
 have HM : Hid (MpAt w12 w.heap.size 12 wdP) := m12
 have HB : Hid (Below w.heap.size w w12) := by
  have b0 : Below w.heap.size w (w.alloc (.map #[] 0)) := (Below.refl _ _).alloc (Nat.le_refl _) _
  have st : ∀ {a b : World}, Below w.heap.size w a → a.grownBy b (some w.heap.size) → Below w.heap.size w b := fun ha hg => ha.grown hg ha.size (fun k e => by injection e with e; omega)
  exact st (st (st (st (st (st (st (st (st (st (st (st b0 g1) g2) g3) g4) g5) g6) g7) g8) g9) g10) g11) g12
 clear m0 m1 m2 m3 m4 m5 m6 m7 m8 m9 m10 m11 m12 g1 g2 g3 g4 g5 g6 g7 g8 g9 g10 g11 g12
 go_enter Tryz.func56, Tryz.ntmps56
 go_wp2
 go_ret
 exact ⟨rfl, HM.out, HB.out⟩
end Go.Proofs.YtnfhpdbbfejioaaGreatDoor
