/- Shelf HY T0 T1 T2 T3 T4 T5 T6 T7 T8 T9 TA -/
import Derived.Test.YtnfhpdbbfejioaaGreatDoorJA
import Derived.Shelf.Small.Utf8
import Derived.Shelf.Strconv.Itoa4
import Derived.Shelf.Strconv.ErrVarParseInt
import Derived.Shelf.Strings.Shaped
import Derived.Shelf.Strings.Prefix
import Derived.Shelf.Unicode.DecodeSlow
import Derived.Shelf.Strings.BuilderCap
import Derived.Shelf.Strings.SlTrimAscii
import Derived.Deep.MidRow
import Derived.WalkLawsBesides
import Derived.Deep.AppendLies
set_option linter.unusedVariables false
set_option linter.unusedSimpArgs false
set_option maxRecDepth 100000
set_option maxHeartbeats 16000000
namespace Go.Proofs
open Go.Shelf
def Tryz.lays161_ren:Go.Shelf.Ren:=⟨fun|161=>145|231=>201|227=>202|233=>203|235=>204|228=>230|197=>231|151=>232|260=>245|152=>246|137=>254|119=>255|224=>106|225=>105|217=>104|266=>159|n=>n,fun|9=>9|4=>4|3=>3|5=>5|117=>282|116=>281|0=>0|124=>285|105=>299|21=>21|119=>316|46=>56|139=>319|138=>318|n=>n,fun|3=>8|4=>9|n=>n⟩
theorem Tryz.lays161:Go.Proofs.Lays.n161 Tryz.prog Tryz.lays161_ren:={
 mixed:=by kernel_rfl
 f119:=Tryz.func255.trans (congrArg some (by kernel_rfl))
 f137:=Tryz.func254.trans (congrArg some (by kernel_rfl))
 f151:=Tryz.func232.trans (congrArg some (by kernel_rfl))
 f152:=Tryz.func246.trans (congrArg some (by kernel_rfl))
 f161:=Tryz.func145.trans (congrArg some (by kernel_rfl))
 f197:=Tryz.func231.trans (congrArg some (by kernel_rfl))
 f217:=Tryz.func104.trans (congrArg some (by kernel_rfl))
 f224:=Tryz.func106.trans (congrArg some (by kernel_rfl))
 f225:=Tryz.func105.trans (congrArg some (by kernel_rfl))
 f227:=Tryz.func202.trans (congrArg some (by kernel_rfl))
 f228:=Tryz.func230.trans (congrArg some (by kernel_rfl))
 f231:=Tryz.func201.trans (congrArg some (by kernel_rfl))
 f233:=Tryz.func203.trans (congrArg some (by kernel_rfl))
 f235:=Tryz.func204.trans (congrArg some (by kernel_rfl))
 f260:=Tryz.func245.trans (congrArg some (by kernel_rfl))
 f266:=Tryz.func159.trans (congrArg some (by kernel_rfl))
 t0:=Tryz.underlying0
 a0:=Tryz.isAgg0
 z0:=Tryz.sizeOf0
 v0:=Tryz.zeroValue0
 t3:=Tryz.underlying3
 a3:=Tryz.isAgg3
 z3:=Tryz.sizeOf3
 v3:=Tryz.zeroValue3
 t4:=Tryz.underlying4
 a4:=Tryz.isAgg4
 z4:=Tryz.sizeOf4
 v4:=Tryz.zeroValue4
 t5:=Tryz.underlying5
 a5:=Tryz.isAgg5
 z5:=Tryz.sizeOf5
 v5:=Tryz.zeroValue5
 t9:=Tryz.underlying9
 a9:=Tryz.isAgg9
 z9:=Tryz.sizeOf9
 v9:=Tryz.zeroValue9
 t21:=Tryz.underlying21
 a21:=Tryz.isAgg21
 z21:=Tryz.sizeOf21
 v21:=Tryz.zeroValue21
 t46:=Tryz.underlying56
 a46:=Tryz.isAgg56
 z46:=Tryz.sizeOf56
 v46:=Tryz.zeroValue56
 t105:=Tryz.underlying299
 a105:=Tryz.isAgg299
 z105:=Tryz.sizeOf299
 v105:=Tryz.zeroValue299
 t116:=Tryz.underlying281
 a116:=Tryz.isAgg281
 z116:=Tryz.sizeOf281
 t117:=Tryz.underlying282
 a117:=Tryz.isAgg282
 z117:=Tryz.sizeOf282
 v117:=Tryz.zeroValue282
 t119:=Tryz.underlying316
 a119:=Tryz.isAgg316
 z119:=Tryz.sizeOf316
 t124:=Tryz.underlying285
 a124:=Tryz.isAgg285
 z124:=Tryz.sizeOf285
 v124:=Tryz.zeroValue285
 t138:=Tryz.underlying318
 a138:=Tryz.isAgg318
 z138:=Tryz.sizeOf318
 v138:=Tryz.zeroValue318
 t139:=Tryz.underlying319
 a139:=Tryz.isAgg319
 z139:=Tryz.sizeOf319
 v139:=Tryz.zeroValue319
 g3:=by kernel_rfl
 g4:=by kernel_rfl}
def Tryz.laysC174_ren:Go.Shelf.Ren:=⟨fun|174=>260|247=>261|245=>262|287=>263|279=>264|280=>265|281=>266|282=>267|321=>268|322=>269|316=>270|171=>272|205=>271|243=>273|246=>208|283=>236|284=>237|285=>238|286=>239|129=>249|317=>248|318=>250|319=>251|320=>252|337=>257|338=>258|n=>n,fun|9=>9|3=>3|2=>2|75=>34|85=>324|4=>4|167=>327|5=>5|53=>293|175=>328|46=>56|168=>330|37=>81|0=>0|210=>336|21=>21|127=>149|145=>340|143=>338|171=>305|173=>308|212=>313|51=>260|20=>20|213=>314|232=>322|233=>323|80=>91|n=>n,fun|15=>12|16=>13|17=>7|18=>10|19=>11|n=>n⟩
theorem Tryz.laysC174:Go.Proofs.LaysC.n174 Tryz.prog Tryz.laysC174_ren:={
 mixed:=by kernel_rfl
 f129:=Tryz.func249.trans (congrArg some (by kernel_rfl))
 f171:=Tryz.func272.trans (congrArg some (by kernel_rfl))
 f174:=Tryz.func260.trans (congrArg some (by kernel_rfl))
 f205:=Tryz.func271.trans (congrArg some (by kernel_rfl))
 f243:=Tryz.func273.trans (congrArg some (by kernel_rfl))
 f245:=Tryz.func262.trans (congrArg some (by kernel_rfl))
 f246:=Tryz.func208.trans (congrArg some (by kernel_rfl))
 f247:=Tryz.func261.trans (congrArg some (by kernel_rfl))
 f279:=Tryz.func264.trans (congrArg some (by kernel_rfl))
 f280:=Tryz.func265.trans (congrArg some (by kernel_rfl))
 f281:=Tryz.func266.trans (congrArg some (by kernel_rfl))
 f282:=Tryz.func267.trans (congrArg some (by kernel_rfl))
 f283:=Tryz.func236.trans (congrArg some (by kernel_rfl))
 f284:=Tryz.func237.trans (congrArg some (by kernel_rfl))
 f285:=Tryz.func238.trans (congrArg some (by kernel_rfl))
 f286:=Tryz.func239.trans (congrArg some (by kernel_rfl))
 f287:=Tryz.func263.trans (congrArg some (by kernel_rfl))
 f316:=Tryz.func270.trans (congrArg some (by kernel_rfl))
 f317:=Tryz.func248.trans (congrArg some (by kernel_rfl))
 f318:=Tryz.func250.trans (congrArg some (by kernel_rfl))
 f319:=Tryz.func251.trans (congrArg some (by kernel_rfl))
 f320:=Tryz.func252.trans (congrArg some (by kernel_rfl))
 f321:=Tryz.func268.trans (congrArg some (by kernel_rfl))
 f322:=Tryz.func269.trans (congrArg some (by kernel_rfl))
 f337:=Tryz.func257.trans (congrArg some (by kernel_rfl))
 f338:=Tryz.func258.trans (congrArg some (by kernel_rfl))
 t0:=Tryz.underlying0
 a0:=Tryz.isAgg0
 z0:=Tryz.sizeOf0
 v0:=Tryz.zeroValue0
 t2:=Tryz.underlying2
 a2:=Tryz.isAgg2
 z2:=Tryz.sizeOf2
 v2:=Tryz.zeroValue2
 t3:=Tryz.underlying3
 a3:=Tryz.isAgg3
 z3:=Tryz.sizeOf3
 v3:=Tryz.zeroValue3
 t4:=Tryz.underlying4
 a4:=Tryz.isAgg4
 z4:=Tryz.sizeOf4
 v4:=Tryz.zeroValue4
 t5:=Tryz.underlying5
 a5:=Tryz.isAgg5
 z5:=Tryz.sizeOf5
 v5:=Tryz.zeroValue5
 t9:=Tryz.underlying9
 a9:=Tryz.isAgg9
 z9:=Tryz.sizeOf9
 v9:=Tryz.zeroValue9
 t20:=Tryz.underlying20
 a20:=Tryz.isAgg20
 z20:=Tryz.sizeOf20
 v20:=Tryz.zeroValue20
 t21:=Tryz.underlying21
 a21:=Tryz.isAgg21
 z21:=Tryz.sizeOf21
 v21:=Tryz.zeroValue21
 t37:=Tryz.underlying81
 a37:=Tryz.isAgg81
 z37:=Tryz.sizeOf81
 v37:=Tryz.zeroValue81
 t46:=Tryz.underlying56
 a46:=Tryz.isAgg56
 z46:=Tryz.sizeOf56
 v46:=Tryz.zeroValue56
 t51:=Tryz.underlying260
 a51:=Tryz.isAgg260
 z51:=Tryz.sizeOf260
 v51:=Tryz.zeroValue260
 t53:=Tryz.underlying293
 a53:=Tryz.isAgg293
 z53:=Tryz.sizeOf293
 v53:=Tryz.zeroValue293
 t75:=Tryz.underlying34
 a75:=Tryz.isAgg34
 z75:=Tryz.sizeOf34
 v75:=Tryz.zeroValue34
 t85:=Tryz.underlying324
 a85:=Tryz.isAgg324
 z85:=Tryz.sizeOf324
 v85:=Tryz.zeroValue324
 t127:=Tryz.underlying149
 a127:=Tryz.isAgg149
 z127:=Tryz.sizeOf149
 v127:=Tryz.zeroValue149
 t143:=Tryz.underlying338
 a143:=Tryz.isAgg338
 z143:=Tryz.sizeOf338
 v143:=Tryz.zeroValue338
 t145:=Tryz.underlying340
 a145:=Tryz.isAgg340
 z145:=Tryz.sizeOf340
 v145:=Tryz.zeroValue340
 t167:=Tryz.underlying327
 a167:=Tryz.isAgg327
 z167:=Tryz.sizeOf327
 v167:=Tryz.zeroValue327
 t168:=Tryz.underlying330
 a168:=Tryz.isAgg330
 z168:=Tryz.sizeOf330
 v168:=Tryz.zeroValue330
 t171:=Tryz.underlying305
 a171:=Tryz.isAgg305
 z171:=Tryz.sizeOf305
 v171:=Tryz.zeroValue305
 t173:=Tryz.underlying308
 a173:=Tryz.isAgg308
 z173:=Tryz.sizeOf308
 v173:=Tryz.zeroValue308
 t175:=Tryz.underlying328
 a175:=Tryz.isAgg328
 z175:=Tryz.sizeOf328
 v175:=Tryz.zeroValue328
 t210:=Tryz.underlying336
 a210:=Tryz.isAgg336
 z210:=Tryz.sizeOf336
 v210:=Tryz.zeroValue336
 t212:=Tryz.underlying313
 a212:=Tryz.isAgg313
 z212:=Tryz.sizeOf313
 v212:=Tryz.zeroValue313
 t213:=Tryz.underlying314
 a213:=Tryz.isAgg314
 z213:=Tryz.sizeOf314
 t232:=Tryz.underlying322
 a232:=Tryz.isAgg322
 z232:=Tryz.sizeOf322
 v232:=Tryz.zeroValue322
 t233:=Tryz.underlying323
 a233:=Tryz.isAgg323
 z233:=Tryz.sizeOf323
 v233:=Tryz.zeroValue323
 g15:=by kernel_rfl
 g16:=by kernel_rfl
 g17:=by kernel_rfl
 g18:=by kernel_rfl
 g19:=by kernel_rfl
 t80:=Tryz.underlying91
 a80:=Tryz.isAgg91
 z80:=Tryz.sizeOf91
 v80:=Tryz.zeroValue91
 i0:=by kernel_rfl
 i2:=by kernel_rfl
 i3:=by kernel_rfl
 i4:=by kernel_rfl
 i5:=by kernel_rfl
 i9:=by kernel_rfl
 i20:=by kernel_rfl
 i21:=by kernel_rfl
 i37:=by kernel_rfl
 i46:=by kernel_rfl
 i51:=by kernel_rfl
 i53:=by kernel_rfl
 i75:=by kernel_rfl
 i80:=by kernel_rfl
 i85:=by kernel_rfl
 i127:=by kernel_rfl
 i143:=by kernel_rfl
 i145:=by kernel_rfl
 i167:=by kernel_rfl
 i168:=by kernel_rfl
 i171:=by kernel_rfl
 i173:=by kernel_rfl
 i175:=by kernel_rfl
 i210:=by kernel_rfl
 i212:=by kernel_rfl
 i232:=by kernel_rfl
 i233:=by kernel_rfl
 m15:=by kernel_rfl
 m16:=by kernel_rfl
 m17:=by kernel_rfl
 m18:=by kernel_rfl
 m19:=by kernel_rfl
 c0:=by kernel_rfl
 c2:=by kernel_rfl
 c3:=by kernel_rfl
 c4:=by kernel_rfl
 c5:=by kernel_rfl
 c9:=by kernel_rfl
 c20:=by kernel_rfl
 c21:=by kernel_rfl
 c37:=by kernel_rfl
 c46:=by kernel_rfl
 c51:=by kernel_rfl
 c53:=by kernel_rfl
 c75:=by kernel_rfl
 c80:=by kernel_rfl
 c85:=by kernel_rfl
 c127:=by kernel_rfl
 c143:=by kernel_rfl
 c145:=by kernel_rfl
 c167:=by kernel_rfl
 c168:=by kernel_rfl
 c171:=by kernel_rfl
 c173:=by kernel_rfl
 c175:=by kernel_rfl
 c210:=by kernel_rfl
 c212:=by kernel_rfl
 c213:=by kernel_rfl
 c232:=by kernel_rfl
 c233:=by kernel_rfl}
open Go.RowKit in
theorem Tryz.strconv_ParseInt_10_at64_ok(s:ByteArray)(a:s.size<=9223372036854775806)(v:Int)(h:Lib.parseIntB 64 s.data.toList= .ok v)(w:World):
  Calls Tryz.prog 260 #[.string s,.int .i64 10,.int .i64 64] w λe w'=>e= .returned (.tuple #[.int .i64 v,.nilIface])/\(w'=w\/∃t,w'=Lib.bytesWorld w 5 t):=Any.strconv_ParseInt_10_at64_ok Tryz.laysC174 s a v h w
open Go.RowKit in
theorem Tryz.strconv_ParseInt_10_at64_syntax_var (s:ByteArray) (b:s.size≤281474976710656) (h:Lib.parseIntB 64 s.data.toList= .«syntax») (c:TypeId) (p:Value) (w:World) (a:w.var? Tryz.prog "strconv.ErrSyntax" =some #[.iface c p]):
  Calls Tryz.prog 260 #[.string s,.int .i64 10,.int .i64 64] w λe w'=>∃N,e= .returned (.tuple #[.int .i64 (0),.iface 330 (.pointer (some ⟨N,0,none⟩))])/\w.heap.size<=N/\w'.heap[N]?=some (.cells #[.string ⟨#[80,97,114,115,101,73,110,116]⟩,.string s,.iface c p] 336 (0,0))/\Below w.heap.size w w':=Any.strconv_ParseInt_10_at64_syntax_var Tryz.laysC174 s b h c p w a
open Go.RowKit in
theorem Tryz.strconv_ParseInt_10_at64_range_var (s:ByteArray) (b:s.size≤281474976710656) (h:Lib.parseIntB 64 s.data.toList= .range) (c:TypeId) (p:Value) (w:World) (a:w.var? Tryz.prog "strconv.ErrRange" =some #[.iface c p]):
  Calls Tryz.prog 260 #[.string s,.int .i64 10,.int .i64 64] w λe w'=>∃N,e= .returned (.tuple #[.int .i64 (Lib.intSat 64 s.data.toList),.iface 330 (.pointer (some ⟨N,0,none⟩))])/\w.heap.size<=N/\w'.heap[N]?=some (.cells #[.string ⟨#[80,97,114,115,101,73,110,116]⟩,.string s,.iface c p] 336 (0,0))/\Below w.heap.size w w':=Any.strconv_ParseInt_10_at64_range_var Tryz.laysC174 s b h c p w a
def Tryz.lays145_ren:Go.Shelf.Ren:=⟨fun|145=>89|220=>144|219=>67|217=>104|225=>105|224=>106|267=>107|266=>159|314=>160|n=>n,fun|9=>9|4=>4|59=>187|3=>3|5=>5|46=>56|146=>261|51=>260|n=>n,fun|1=>2|n=>n⟩
theorem Tryz.lays145:Go.Proofs.Lays.n145 Tryz.prog Tryz.lays145_ren:={
 mixed:=by kernel_rfl
 f145:=Tryz.func89.trans (congrArg some (by kernel_rfl))
 f217:=Tryz.func104.trans (congrArg some (by kernel_rfl))
 f219:=Tryz.func67.trans (congrArg some (by kernel_rfl))
 f220:=Tryz.func144.trans (congrArg some (by kernel_rfl))
 f224:=Tryz.func106.trans (congrArg some (by kernel_rfl))
 f225:=Tryz.func105.trans (congrArg some (by kernel_rfl))
 f266:=Tryz.func159.trans (congrArg some (by kernel_rfl))
 f267:=Tryz.func107.trans (congrArg some (by kernel_rfl))
 f314:=Tryz.func160.trans (congrArg some (by kernel_rfl))
 t3:=Tryz.underlying3
 a3:=Tryz.isAgg3
 z3:=Tryz.sizeOf3
 v3:=Tryz.zeroValue3
 t4:=Tryz.underlying4
 a4:=Tryz.isAgg4
 z4:=Tryz.sizeOf4
 v4:=Tryz.zeroValue4
 t5:=Tryz.underlying5
 a5:=Tryz.isAgg5
 z5:=Tryz.sizeOf5
 v5:=Tryz.zeroValue5
 t9:=Tryz.underlying9
 a9:=Tryz.isAgg9
 z9:=Tryz.sizeOf9
 v9:=Tryz.zeroValue9
 t46:=Tryz.underlying56
 a46:=Tryz.isAgg56
 z46:=Tryz.sizeOf56
 v46:=Tryz.zeroValue56
 t51:=Tryz.underlying260
 a51:=Tryz.isAgg260
 z51:=Tryz.sizeOf260
 v51:=Tryz.zeroValue260
 t59:=Tryz.underlying187
 a59:=Tryz.isAgg187
 z59:=Tryz.sizeOf187
 v59:=Tryz.zeroValue187
 t146:=Tryz.underlying261
 a146:=Tryz.isAgg261
 z146:=Tryz.sizeOf261
 v146:=Tryz.zeroValue261
 g1:=by kernel_rfl}
open Go.RowKit Go.Lib in
theorem Tryz.strings_Cut(s sep:ByteArray)(m:Int)(w:World)(b:s.size<4294967281)(a:w.cell? ⟨2,0,none⟩=some (.int .i64 m)):
  Calls Tryz.prog 89 #[.string s,.string sep] w λe w'=>e= .returned (.tuple #[.string ⟨(Lib.cut s.data.toList sep.data.toList).1.toArray⟩,.string ⟨(Lib.cut s.data.toList sep.data.toList).2.1.toArray⟩,.bool (Lib.cut s.data.toList sep.data.toList).2.2])/\∃n,w'=w.drewN n:=Any.strings_Cut Tryz.lays145 s sep m w b a
def Tryz.lays99_ren:Go.Shelf.Ren:=⟨fun|99=>91|206=>146|n=>n,fun|9=>9|4=>4|3=>3|n=>n,fun|n=>n⟩
theorem Tryz.lays99:Go.Proofs.Lays.n99 Tryz.prog Tryz.lays99_ren:={
 mixed:=by kernel_rfl
 f99:=Tryz.func91.trans (congrArg some (by kernel_rfl))
 f206:=Tryz.func146.trans (congrArg some (by kernel_rfl))
 t3:=Tryz.underlying3
 a3:=Tryz.isAgg3
 z3:=Tryz.sizeOf3
 v3:=Tryz.zeroValue3
 t4:=Tryz.underlying4
 a4:=Tryz.isAgg4
 z4:=Tryz.sizeOf4
 v4:=Tryz.zeroValue4
 t9:=Tryz.underlying9
 a9:=Tryz.isAgg9
 z9:=Tryz.sizeOf9
 v9:=Tryz.zeroValue9}
open Go.RowKit Go.Lib in
theorem Tryz.strings_HasPrefix(s p:ByteArray)(w:World):
  Calls Tryz.prog 91 #[.string s,.string p] w λe w'=>e= .returned (.bool (Lib.hasPrefix s.data.toList p.data.toList))/\w'=w:=Any.strings_HasPrefix Tryz.lays99 s p w
end Go.Proofs
namespace Go.Proofs.YtnfhpdbbfejioaaGreatDoor
open Go Go.RowKit
variable {w w':jW}{g b B e z n q i a B6:Nat}{cs:Array Value}{t:TypeId}{v:jU}{l:jE}
abbrev By:=List UInt8
theorem ea(h:w.heap[g]?=some (.cells cs t))(i:Nat):w.frozen? (jB g i)=false:=by simp[World.frozen?,h]
theorem gC{b:Func}{p:Tmp}{ty:TypeId}(h:b.results=#[.cell p ty])(c:Array Value)(P:Program)(w:jW):
  (results b c).run P w=((asAddr (c.getD p undef)).run P w).andThen λa w₁=>(loadVar ty a).run P w₁:=by
 simp only[results,h];simp[dU,Result.andThen]
theorem eh{W:jW}(h:W.ownsRow B e z v n l):∃q c,v=jL q n c:=by
 rcases h.2 with⟨rfl,rfl⟩|⟨g,a,b,rfl,_⟩
 ·exact⟨_,_,rfl⟩
 ·exact⟨_,_,rfl⟩
theorem ed{A:Obj}(h:g<w.heap.size):(w.alloc A).heap[g]?=w.heap[g]?:=((aJ w.heap.size w).alloc (aD _) A).block g h
theorem lT(h:w.ownsRow B e z v n l)(i:Nat)(a:v.ownBlock=some i):i<w.heap.size:=(h.lt i a).2
theorem eo(h:w.heap[q]?=some (.cells cs t))(a:cs[i]?=some v):w.cell? (jB q i)=some v:=by
 rw[cell_of_row _ _ _ _ _ _ h];exact a
abbrev Vl:=Int×Option Nat
abbrev uF(n:Int)(q:jU):jU:= .agg #[jV n,q]
theorem my(y:ByteArray):y.data.toList=y.toList:=(ByteArray.toList_eq y).symm
theorem xx{a b:Bool}(h:a=b):Ending.returned (.bool a)=jR (.bool b):=by rw[h]
def Rv(v:jU):Option (DataW jU×List MemPlace):=some (.held v,[])
abbrev fI(l:List Int):jE:=l.map (.int .i64)
def Mo(w0:jW)(P:Nat)(a:jU)(l:List Int):Prop:=
 ∃q c,a=jL q l.length c/\(l=[]\/∃g o,q=some (jB g o)/\g<w0.heap.size/\g≠P/\l.length<=c/\∀j x,l[j]?=some x->w0.cell? (jB g (o+j))=some (jV x))
abbrev iL:Nat->Prop:=λ_=>False
theorem fX{ys:jE}(h:w.ownsRow B e z v n ys)(hk:∀i,v.ownBlock=some i->w'.heap[i]?=w.heap[i]?):w'.ownsRow B e z v n ys:=by
 refine⟨h.1,?_⟩;rcases h.2 with a|⟨g',b,c,d,f,g,j⟩
 ·exact .inl a
 ·exact .inr ⟨g',b,c,d,f,by rw[hk g' (by rw[d];rfl)];exact g,j⟩
def pA(a:List (Nat×Nat)):Option Nat->jU->Prop
 |none,v=>v=jS
 |some i,v=>∃b n,a[i]?=some (b,n)/\v=jL (some (jA b)) n n
def SS(a:List (Nat×Nat))(x:Vl)(v:jU):Prop:=∃q,v=uF x.1 q/\pA a x.2 q
theorem eN{α:Type}{a b:List α}(h:a<+:b){x:α}(d:a[i]?=some x):b[i]?=some x:=by
 obtain⟨c,rfl⟩:=h;rw[aW (aK.1 d).1];exact d
theorem pA.mono{a b:List (Nat×Nat)}(h:a<+:b){i:Option Nat}(c:pA a i v):pA b i v:=by
 cases i with
 |none=>exact c
 |some i=>
  obtain⟨k,n,h1,h2⟩:=c;exact⟨k,n,eN h h1,h2⟩
theorem SS.mono{a b:List (Nat×Nat)}(h:a<+:b){x:Vl}(c:SS a x v):SS b x v:=by
 obtain⟨q,h1,h2⟩:=c;exact⟨q,h1,h2.mono h⟩
abbrev ptr(b:Nat):jU:=jP b
theorem kU{o:Obj}(h:w.heap[b]?=some o)(c:b≠a):(w.setCell (jA a) v).heap[b]?=some o:=by
 rw[aG _ _ _ _ c];exact h
theorem AW:(Tryz.prog.info? 2).map (λi=>(i.zero,i.size,i.bytes))=some (some (jV 0),1,8):=by kernel_rfl
theorem sD(n:Nat):madeCells (Value.int .i64 0).cells (n*1)=(fI (List.replicate n 0)).toArray:=by
 apply cT;rw[dX];show(madeCells #[Value.int .i64 0] n).toList=_;rw[toList_madeCells_one];simp[fI]
theorem eL(w:jW)(A:Obj):az w (w.alloc A):=(aJ _ _).alloc (aD _) A
def iX(P:Nat)(w:jW):Nat:=match w.cell? (jB P 3) with|some (.int _ n)=>n.toNat|_=>0
abbrev Lo(C:Nat):Nat->Prop:=λb=>b<C
theorem JM(a b:jU):(#[a,b]:Array Value)++Array.replicate (16-(#[a,b]:Array Value).size) undef=#[a,b,undef,undef,undef,undef,undef,undef,undef,undef,undef,undef,undef,undef,undef,undef]:=by kernel_rfl
def oW(w:jW)(a:jU)(l:List Int):Prop:=∃q c,a=jL q l.length c/\(l=[]\/∃g o,q=some (jB g o)/\g<w.heap.size/\l.length<=c/\∀j x,l[j]?=some x->w.cell? (jB g (o+j))=some (jV x))
theorem oW.below{a:jU}{l:List Int}(h:oW w a l)(b:az w w'):oW w' a l:=by
 obtain⟨q,c,e,h⟩:=h;refine⟨q,c,e,?_⟩;rcases h with h|⟨g,o,d,h1,h2,f⟩
 ·exact .inl h
 ·exact .inr ⟨g,o,d,aO h1 b.size,h2,λj x i=>by rw[b.cell (p:=(jB g (o+j))) h1];exact f j x i⟩
def AK(r:Int×Int×List Int)(w:jW)(e:Ending)(w':jW):Prop:=∃p c,e=jR (.agg #[jV r.1,jV r.2.1,jL p r.2.2.length c])/\w'.ownsRow w.heap.size 2 1 (jL p r.2.2.length c) r.2.2.length (fI r.2.2)/\az w w'
theorem EL{x y z a c d:jU}(h:w.heap[b]?=some (jC #[x,y,z] t)):(((w.setCell (jA b) a).setCell (jB b 1) c).setCell (jB b 2) d).heap[b]?=some (jC #[a,c,d] t):=
 aH _ _ _ _ _ _ (aH _ _ _ _ _ _ (aH _ _ _ _ _ _ h))
def xy(B6:Nat)(ds:List Deferred)(W:List PanicEntry->jW->Prop)(Q:Exit->Act->jW->Prop):Exit->Act->jW->Prop
 | .panic c,a,w=>a.defers=ds/\a.tmps.getD 6 undef=ptr B6/\W c w
 |e,a,w=>Q e a w
theorem AY{ds:List Deferred}{W:List PanicEntry->jW->Prop}{Q:Exit->Act->jW->Prop}(h:∀c a w,a.defers=ds->a.tmps.getD 6 undef=ptr B6->W c w->Q (.panic c) a w):∀e a w,xy B6 ds W Q e a w->Q e a w:=λe a w b=>by
 cases e<;>first|exact b|exact h _ _ _ b.1 b.2.1 b.2.2
theorem JN{ds:List Deferred}{W:List PanicEntry->jW->Prop}{Q:Exit->Act->jW->Prop}{c:List PanicEntry}{a:Act}{d:Nat}(hd:d≠6)(h:xy B6 ds W Q (.panic c) (a.put (some d) v) w):xy B6 ds W Q (.panic c) a w:=by
 obtain⟨h1,h2,b⟩:=h;refine⟨h1,?_,b⟩;have e:(a.put (some d) v).tmps.getD 6 undef=a.tmps.getD 6 undef:=by
  simp only[Act.put,dF,Array.getElem?_setIfInBounds];rw[if_neg hd]
 rw[<-e];exact h2
theorem sF{x:PanicEntry}{a:List PanicEntry}(b:x.recovered=true)(h:∀z∈a,z.goexit=false):settle (.panicking (x::a))= .returning:=by
 have e:a.dropWhile (!·.goexit)=[]:=by
  induction a with
  |nil=>rfl
  |cons y c d=>rw[cW,h y (by simp)];simpa using d λz f=>h z (by simp[f])
 obtain⟨v,r,g⟩:=x;simp only at b;subst b;simp only[settle,e]
theorem jf{cs:jE}(h:(cs.drop a).take b=l)(j:Nat)(v:jU)(c:l[j]?=some v):cs[a+j]?=some v:=by
 subst h;rw[bZ]at c;split at c
 ·rw[dh]at c;exact c
 ·cases c
theorem sG:Tryz.prog.cellsOf 3=1:=by kernel_rfl
theorem vD:Tryz.prog.cellsOf 9=1:=by kernel_rfl
theorem rX{k:IntKind}{a b:Int}(h:a=b):Ending.returned (.int k a)=jR (.int k b):=by rw[h]
theorem j3{p q r:Prop}(a:p)(b:q)(c:r):Hid p/\Hid q/\Hid r:=⟨a,b,c⟩
theorem j4{p q r s:Prop}(a:p)(b:q)(c:r)(d:s):Hid p/\Hid q/\Hid r/\Hid s:=⟨a,b,c,d⟩
theorem j5{p q r s t:Prop}(a:p)(b:q)(c:r)(d:s)(e:t):Hid p/\Hid q/\Hid r/\Hid s/\Hid t:=⟨a,b,c,d,e⟩
theorem j6{p q r s t u:Prop}(a:p)(b:q)(c:r)(d:s)(e:t)(f:u):Hid p/\Hid q/\Hid r/\Hid s/\Hid t/\Hid u:=⟨a,b,c,d,e,f⟩
theorem j7{p q r s t u v:Prop}(a:p)(b:q)(c:r)(d:s)(e:t)(f:u)(g:v):Hid p/\Hid q/\Hid r/\Hid s/\Hid t/\Hid u/\Hid v:=⟨a,b,c,d,e,f,g⟩
theorem j8{p q r s t u v x:Prop}(a:p)(b:q)(c:r)(d:s)(e:t)(f:u)(g:v)(h:x):Hid p/\Hid q/\Hid r/\Hid s/\Hid t/\Hid u/\Hid v/\Hid x:=⟨a,b,c,d,e,f,g,h⟩
theorem j9{p q r s t u v x y:Prop}(a:p)(b:q)(c:r)(d:s)(e:t)(f:u)(g:v)(h:x)(i:y):Hid p/\Hid q/\Hid r/\Hid s/\Hid t/\Hid u/\Hid v/\Hid x/\Hid y:=⟨a,b,c,d,e,f,g,h,i⟩
theorem jc(i:Nat)(h:w.heap[q]?=some (.cells cs t))(a:cs[i]?=some v:=by exact rfl):w.cell? (jB q i)=some v:=eo h a
end Go.Proofs.YtnfhpdbbfejioaaGreatDoor
namespace Go.Proofs.YtnfhpdbbfejioaaGreatDoor
open Go
structure eD where
 k:Nat
 t:By
 p:Nat
def js:By:=[48,49,50,51,52,53,54,55,56,57]
def lets:By:=[97,98,99,100,101,102,103,104,105,106,107,108,109,110,111,112,113,114,115,116,117,118,119,120,121,122,95]
def eY:List By:=[[38,38],[124,124],[61,61],[33,61],[60,61],[62,61],[60],[62],[61],[43],[45],[42],[47],[37],[33],[40],[41],[123],[125],[91],[93],[44],[59],[58]]
def gA:List (By×Nat):=[([124,124],1),([38,38],2),([61,61],3),([33,61],3),([60],4),([60,61],4),([62],4),([62,61],4),([43],5),([45],5),([42],6),([47],6),([37],6)]
def fT(m:By):Nat:=((gA.find? (·.1==m)).map (·.2)).getD 0
def lw:List By:=[[102,110],[105,110,116],[97,114,114],[118,97,114],[114,101,116,117,114,110],[112,114,105,110,116],[105,102],[101,108,115,101],[119,104,105,108,101],[110,101,119],[108,101,110],[105,110,112,117,116]]
def gm:Bool->By->By
 |_,[]=>[]
 |false,c::s=>if c=32\/c=9\/c=10 then gm false s else if c=35 then gm true s else c::s
 |true,c::s=>if c=10 then gm false s else gm true s
theorem g_:∀(b:Bool)(s:By),(gm b s).length<=s.length
 |_,[]=>by simp[gm]
 |false,c::s=>by
  rw[gm];have h1:=g_ false s;have h2:=g_ true s;split
  ·simp;omega
  ·split
   ·simp;omega
   ·exact aD _
 |true,c::s=>by
  rw[gm];have h1:=g_ false s;have h2:=g_ true s;split<;>(simp;omega)
theorem mz:∀(b:Bool)(s:By),gm b s=s.drop (s.length-(gm b s).length)
 |_,[]=>by simp[gm]
 |false,c::s=>by
  have a:=g_ false s;have d:=g_ true s;rw[gm];split
  ·have h:=mz false s;rw[show(c::s).length-(gm false s).length=s.length-(gm false s).length+1 by simp;omega,cH];exact h
  ·split
   ·have h:=mz true s;rw[show(c::s).length-(gm true s).length=s.length-(gm true s).length+1 by simp;omega,cH];exact h
   ·simp
 |true,c::s=>by
  have a:=g_ false s;have d:=g_ true s;rw[gm];split
  ·have h:=mz false s;rw[show(c::s).length-(gm false s).length=s.length-(gm false s).length+1 by simp;omega,cH];exact h
  ·have h:=mz true s;rw[show(c::s).length-(gm true s).length=s.length-(gm true s).length+1 by simp;omega,cH];exact h
theorem rx:∀s:By,gm true s=gm false (s.dropWhile (·!=10))
 |[]=>rfl
 |c::s=>by
  rw[gm];by_cases h:c=10
  ·subst h;rw[if_pos rfl];rfl
  ·rw[if_neg h,rx s,cW,if_pos (by simpa using h)]
def gO(s a:By):By:=s.takeWhile (a.contains ·)
theorem E_(s set:By):s.take (s.length-(Lib.trimLeftS s set).length)=gO s set:=by
 unfold Lib.trimLeftS gO;have e:=List.takeWhile_append_dropWhile (p:=(set.contains ·)) (l:=s);have a:s.length=(s.takeWhile (set.contains ·)).length+(s.dropWhile (set.contains ·)).length:=by rw[<-bh,e]
 have h2:s.length-(s.dropWhile (set.contains ·)).length=(s.takeWhile (set.contains ·)).length:=by omega
 rw[h2];have:s.take (s.takeWhile (set.contains ·)).length=(s.takeWhile (set.contains ·)++s.dropWhile (set.contains ·)).take (s.takeWhile (set.contains ·)).length:=by rw[e]
 rw[this,List.take_left]
def kG(a:By):Option (Nat×By):=
 if gO a js≠[] then some (2,gO a js)
 else if gO a (lets++js)≠[] then some (if lw.contains (gO a (lets++js)) then 1 else 0,gO a (lets++js))
 else(eY.find? (·.isPrefixOf a)).map λm=>(1,m)
theorem vJ{a:By}{k:Nat}{t:By}(h:kG a=some (k,t)):0<t.length/\t.length<=a.length:=by
 unfold kG at h;split at h
 ·rename_i hd;injection h with h;injection h with _ h;subst h;exact⟨cG.2 hd,(cS _).length_le⟩
 ·split at h
  ·rename_i hd;injection h with h;injection h with _ h;subst h;exact⟨cG.2 hd,(cS _).length_le⟩
  ·obtain⟨m,c,b⟩:=bA.1 h;injection b with _ b;subst b;have h1:=dB c;have h2:=bu c;refine⟨?_,(List.isPrefixOf_iff_prefix.1 h1).length_le⟩;have:∀m∈eY,0<m.length:=by decide
   exact this m h2
def oZ(n:Nat):Nat->By->List eD->Except (Int×Nat) (List eD)
 |0,_,l=> .ok l
 |f+1,a,l=>
  if a=[] then .ok (l++[⟨3,[],n⟩])
  else match kG a with
   |none=> .error (3,n-a.length)
   |some (k,t)=>if l.length=1500 then .error (4,n-a.length) else oZ n f (gm false (a.drop t.length)) (l++[⟨k,t,n-a.length⟩])
def qW(s:By):Except (Int×Nat) (List eD):=oZ s.length (s.length+1) (gm false s) []
end Go.Proofs.YtnfhpdbbfejioaaGreatDoor
namespace Go.Proofs.YtnfhpdbbfejioaaGreatDoor
open Go Go.RowKit
variable {a b n g o c j P e:Nat}{w w' W:jW}{s:By}{t:eD}{v:jU}
abbrev str(s:By):jU:=jT ⟨s.toArray⟩
theorem zQ{a b:ByteArray}(h:a.data.toList=b.data.toList):a=b:=by
 cases a;cases b;simp at h;rw[h]
theorem FL(s a:ByteArray)(w:jW)(h:a.data.toList.all (λb=>decide (b.toNat<128))=true)(c:a.size<4294967281):
  aA 145 #[jT s,jT a] w λe w'=>e=jR (jT ⟨(Lib.trimLeftS s.data.toList a.data.toList).toArray⟩)/\az w w':=
 Any.strings_TrimLeft_laid Tryz.lays161 (by kernel_rfl) s a w c (ascii_of_all h)
theorem r4(s a:ByteArray)(w:jW)(h:a.data.toList.all (λb=>decide (b.toNat<128))=true)(c:s.size<=1000000)(d:a.size<4294967281):
  aA 90 #[jT s,jT a] w λe w'=>e=jR (str (gO s.data.toList a.data.toList))/\az w w':=by
 obtain⟨t,f⟩:∃t:ByteArray,t=⟨(Lib.trimLeftS s.data.toList a.data.toList).toArray⟩:=⟨_,rfl⟩;have g:Hid (aA 145 #[jT s,jT a] w λe w'=>e=jR (jT t)/\az w w'):=by rw[f];exact FL s a w h d
 have i:t.data.toList=Lib.trimLeftS s.data.toList a.data.toList:=by rw[f]
 have j:t.size<=s.size:=by
  have k:t.size=t.data.toList.length:=by simp
  have l:s.size=s.data.toList.length:=by simp
  rw[k,l,i];exact(List.dropWhile_sublist _).length_le
 have m:Hid (s.extract 0 (s.size-t.size)=⟨(gO s.data.toList a.data.toList).toArray⟩):=by
  refine zQ ?_;rw[Lib.extract_from_zero,<-E_];have k:t.size=t.data.toList.length:=by simp
  have l:s.size=s.data.toList.length:=by simp
  rw[k,l,i]
 clear f i h;go_enter Tryz.func90,Tryz.ntmps90
 go_wp2_with(go_at_call 145;refine g.mono ?_;rintro e w1 ⟨rfl,n⟩;have o:Hid (az w w1):=n;clear n)
 go_ret;exact⟨by have:=m.out;simp[this],o⟩
theorem Dk(l:By)(c:UInt8):Lib.indexByte l c= -1\/0<=Lib.indexByte l c:=by
 induction l with
 |nil=>exact .inl rfl
 |cons b l a=>
  rw[Lib.indexByte];split
  ·exact .inr (by omega)
  ·split
   ·exact .inl rfl
   ·rename_i h;rcases a with a|a
    ·simp[a]at h
    ·exact .inr (by omega)
theorem BB(c:UInt8):∀l:By,(Lib.cut l [c]).1=l.takeWhile (·!=c)
 |[]=>rfl
 |b::l=>by
  have a:=BB c l;unfold Lib.cut at a⊢;rw[Lib.index_one]at a⊢;rw[Lib.indexByte];by_cases d:b=c
  ·subst d;simp
  ·have h1:¬(b==c)=true:=by simp[d]
   have e:(b !=c)=true:=by simpa using d
   rw[if_neg h1,cI,e,if_pos rfl,<-a];rcases Dk l c with h|h
   ·simp[h]
   ·have h2:¬(Lib.indexByte l c== -1)=true:=by simp;omega
    rw[if_neg h2,if_pos h,if_pos (by omega)];simp only;rw[show(Lib.indexByte l c+1).toNat=(Lib.indexByte l c).toNat+1 by omega,List.take_succ_cons]
theorem BC(p:UInt8->Bool):∀l:By,l.drop (l.takeWhile p).length=l.dropWhile p
 |[]=>rfl
 |b::l=>by
  rw[cI,cW];split
  ·rw[aZ,cH,BC p l]
  ·rfl
structure oF (w:jW):Prop where
 max:∃m,w.cell? (jA 2)=some (jV m)
 marks:w.rangeAt 1 0 (eY.map str)
 pairs:w.rangeAt 6 0 (gA.flatMap λx=>[str x.1,jV (x.2:Int)])
 syn:∃tp p,w.var? Tryz.prog "strconv.ErrSyntax" =some #[.iface tp p]
 rng:∃tp p,w.var? Tryz.prog "strconv.ErrRange" =some #[.iface tp p]
theorem uL{a:String}{cs:Array Value}(h:w.var? Tryz.prog a=some cs)(b:az w w'):w'.var? Tryz.prog a=some cs:=by
 unfold World.var? at*;cases c:Tryz.prog.globalNamed a with
 |none=>simp[c]at h
 |some g=>
  simp only[c,cJ]at h⊢;have d:g<w.heap.size:=by
   rcases bG g w.heap.size with h1|h1
   ·exact h1
   ·rw[bH h1]at h;simp at h
  rw[b.block g d];exact h
theorem oF.below(h:oF w)(e:az w w'):oF w':=by
 obtain⟨m,f⟩:=h.max;obtain⟨a,b,g⟩:=h.syn;obtain⟨c,d,i⟩:=h.rng;refine⟨⟨m,(e.cell (p:=(jA 2)) (aV w _ f)).trans f⟩,λj v k=>?_,λj v k=>?_,⟨a,b,uL g e⟩,⟨c,d,uL i e⟩⟩
 ·have:=h.marks j v k;exact(e.cell (aV w _ this)).trans this
 ·have:=h.pairs j v k;exact(e.cell (aV w _ this)).trans this
def il(s:By)(k:Nat):Nat:=s.length-(gm false (s.drop k)).length
theorem FM(s:ByteArray)(k:Nat)(w:jW)(a:oF w)(hk:k<=s.size)(c:s.size<=1000000):
  aA 57 #[jT s,jV k] w λe w'=>e=jR (jV (il s.data.toList k:Nat))/\az w w':=by
 have d:s.data.toList.length=s.size:=by simp
 have f:=jI (λw' (g:az w w')=>a.below g);clear a;go_enter Tryz.func57,Tryz.ntmps57
 go_wp2_with fail
 go_loopw [1] (λi wr=>∃j:Nat,j<=s.size/\i=jV j/\Hid (il s.data.toList j=il s.data.toList k)/\Hid (az w wr)) (λi _=>s.size-(intOf i).toNat)
 case atStart=>exact⟨k,hk,rfl,rfl,aJ _ _⟩
 case round=>
  obtain⟨j,h,rfl,m,o⟩:=hrel;by_cases p:j<s.size
  ·have hd:s.data.toList.drop j=s[j]::s.data.toList.drop (j+1):=by
    rw[bn (by omega)];rfl
   have q:=jI hd;clear hd d;by_cases g:s[j]=32\/s[j]=9\/s[j]=10
   ·have r:Hid (il s.data.toList (j+1)=il s.data.toList k):=by
     show _=_;rw[<-m.out];unfold il;rw[q.out,gm,if_pos g]
    rcases g with g|g|g
    ·have t:(s[j].toNat:Int)=32:=by rw[g];rfl
     clear g;go_wp2;exact⟨⟨j+1,by omega,by go_num,r,o⟩,by simp[intOf];omega⟩
    ·have t:(s[j].toNat:Int)=9:=by rw[g];rfl
     clear g;go_wp2;exact⟨⟨j+1,by omega,by go_num,r,o⟩,by simp[intOf];omega⟩
    ·have t:(s[j].toNat:Int)=10:=by rw[g];rfl
     clear g;go_wp2;exact⟨⟨j+1,by omega,by go_num,r,o⟩,by simp[intOf];omega⟩
   ·have u:¬s[j]=32:=λe=>g (.inl e);have v:¬s[j]=9:=λe=>g (.inr (.inl e));have y:¬s[j]=10:=λe=>g (.inr (.inr e));have z:((s[j].toNat:Int)==32)=false:=by
     have:s[j].toNat≠32:=λe=>u (df.1 e);simp;omega
    have A:((s[j].toNat:Int)==9)=false:=by
     have:s[j].toNat≠9:=λe=>v (df.1 e);simp;omega
    have B:((s[j].toNat:Int)==10)=false:=by
     have:s[j].toNat≠10:=λe=>y (df.1 e);simp;omega
    by_cases C:s[j]=35
    ·obtain⟨mx,D⟩:=(f wr o).max;have E:=Lib.extract_to_end s j;obtain⟨ln,F⟩:∃ln:ByteArray,ln=⟨((s.data.toList.drop j).takeWhile (·!=10)).toArray⟩:=⟨_,rfl⟩;have G:ln.size=((s.data.toList.drop j).takeWhile (·!=10)).length:=by rw[F];simp[ByteArray.size]
     have H:1<=ln.size:=by
      rw[G,q.out,cI,if_pos (by rw[C];decide)];simp
     have I:j+ln.size<=s.size:=by
      rw[G];have:=(cS (λx:UInt8=>x !=10) (l:=s.data.toList.drop j)).length_le;rw[bK]at this;have d:s.data.toList.length=s.size:=by simp
      omega
     have r:Hid (il s.data.toList (j+ln.size)=il s.data.toList k):=by
      show _=_;rw[<-m.out];unfold il;have t:s.data.toList.drop (j+ln.size)=(s.data.toList.drop j).dropWhile (·!=10):=by
       rw[<-dZ,G,BC]
      have J:(s[j] !=10)=true:=by simp[y]
      rw[t,q.out,gm,if_neg g,if_pos C,rx,cW,J,if_pos rfl]
     have K:Hid (aA 89 #[jT (s.extract j s.size),jT ⟨#[10]⟩] wr λe w'=>(∃(x:ByteArray)(b:Bool),e=jR (.tuple #[jT ln,jT x,.bool b]))/\az w w'):=by
      have L:(s.extract j s.size).size<4294967281:=by
       have e:(s.extract j s.size).size=(s.extract j s.size).data.toList.length:=by simp
       have d:s.data.toList.length=s.size:=by simp
       rw[e,E,bK];omega
      refine(Tryz.strings_Cut (s.extract j s.size) ⟨#[10]⟩ mx wr L D).mono ?_;rintro e w' ⟨rfl,n,rfl⟩;have M:(Lib.cut (s.extract j s.size).data.toList [10]).1=(s.data.toList.drop j).takeWhile (·!=10):=by rw[E,BB]
      exact⟨⟨⟨(Lib.cut (s.extract j s.size).data.toList [10]).2.1.toArray⟩,(Lib.cut (s.extract j s.size).data.toList [10]).2.2,by rw[F,<-M]⟩,⟨o.os,o.tape,o.output,o.size,o.block⟩⟩
     have t:(s[j].toNat:Int)=35:=by rw[C];rfl
     clear g u v y C E F G z A B D;have N:j<=s.size:=by omega
     go_wp2_with(go_at_call 89;refine K.mono ?_;rintro e w1 ⟨⟨x,b,rfl⟩,g⟩;have O:Hid (az w w1):=g;clear g)
     exact⟨⟨j+ln.size,by omega,by go_num,r,O⟩,by simp[intOf];omega⟩
    ·have P:((s[j].toNat:Int)==35)=false:=by
      have:s[j].toNat≠35:=λe=>C (df.1 e);simp;omega
     have r:Hid (j=il s.data.toList k):=by
      show _=_;rw[<-m.out];unfold il;have d:s.data.toList.length=s.size:=by simp
      rw[q.out,gm,if_neg g,if_neg C,<-q.out,bK];omega
     clear g u v y C;go_wp2;go_ret;exact⟨rX (by rw[<-r.out]),o⟩
  ·have r:Hid (j=il s.data.toList k):=by
    show _=_;rw[<-m.out];unfold il;rw[bg (by omega)];simp[gm];omega
   clear d;go_wp2;go_ret;exact⟨rX (by rw[<-r.out]),o⟩
def IE:List (By×Nat)->DataW Unit
 |[]=> .map []
 |(nm,i)::ps=>(IE ps).put (.string nm) (.lit (.int .i64 i))
theorem vY:∀a,Maps.IsMap (IE a)
 |[]=>Maps.isMap_empty
 |(_,_)::a=>(vY a).put _ _
theorem GD{a b:By}(h:a≠b):Lit.string a≠Lit.string b:=λe=>h (by injection e)
theorem vZ(nm:By)(z:DataW Unit):∀a,(IE a).atKey (.string nm) z=(match a.lookup nm with|some i=> .lit (.int .i64 i)|none=>z)
 |[]=>rfl
 |(x,i)::a=>by
  by_cases h:nm=x
  ·subst h;rw[IE,Maps.atKey_put_same (vY a) (by trivial)];simp[List.lookup]
  ·rw[IE,Maps.atKey_put_other (GD h),vZ nm z a];have:(nm==x)=false:=by simpa using h
   simp[List.lookup,this]
def Pk:List (By×Nat):=lw.reverse.map λx=>(x,1)
theorem GF(v:By):Pk.lookup v=if lw.contains v then some 1 else none:=by
 have h:∀l:List By,(l.map λx=>(x,1)).lookup v=if l.contains v then some 1 else none:=λl=>by
  induction l with
  |nil=>rfl
  |cons x l a=>
   rw[bO,bU,dI];by_cases e:v=x
   ·subst e;simp
   ·have:(v==x)=false:=by simpa using e
    rw[this,a];simp
 rw[Pk,h];have e:lw.reverse.contains v=lw.contains v:=by simp
 rw[e]
def tL(w:jW)(b n:Nat)(a:List (By×Nat)):Prop:=w.ownsMap Tryz.prog 9 (plainElem (H:=Unit) Tryz.prog 134) b n (IE a)
theorem tL.below{ps:List (By×Nat)}(h:tL w b n ps)(a:az w w'):tL w' b n ps:=
 World.ownsMap.kept h (row:=none) ⟨a.os,a.tape,a.output,a.size,λj c _=>a.block j c⟩ (by simp)
theorem Pl(w:jW):(zeroValue 134).run Tryz.prog w= .ok (jV 0) w:=Tryz.zeroValue134 w
theorem kJ{w:World}{a:List (By×Nat)}(h:tL w b n a)(c:n<100)(x:ByteArray)(d:x.size<=100):
  ∃w',(Instr.mapUpdate 131 (.map (some b)) (.string x) (jV 1)).run Tryz.prog w= .ok () w'/\tL w' b (n+1) ((x.data.toList,1)::a)/\w.grownBy w' (some b):=by
 have e:keyOf Tryz.prog 9 (.string x)=some (.string x.data.toList):=Go.WideMaps.keyOf_string_mk Tryz.underlying9 (by unfold maxLen;omega);have f:plainElem (H:=Unit) Tryz.prog 134 (jV ((1:Nat):Int))=some (.lit (.int .i64 ((1:Nat):Int)),[]):=plainElem_int Tryz.underlying134 (by decide);exact World.ownsMap.update h (Maps.string_keyed Tryz.underlying9) Tryz.underlying131 (by unfold maxLen;omega) e f
theorem KI(h:tL w b n Pk)(s:ByteArray)(a:s.size<=maxLen):
  (Instr.lookup 131 (.map (some b)) (jT s) false).run Tryz.prog w= .ok (jV (if lw.contains s.data.toList then 1 else 0:Nat)) w:=by
 obtain⟨c,d,e,f⟩:=World.ownsMap.lookup_int h (Maps.string_keyed Tryz.underlying9) Tryz.underlying131 Tryz.underlying134 (Pl w) (Go.WideMaps.keyOf_string_mk Tryz.underlying9 a);rw[d];rw[vZ,GF]at e;by_cases hc:lw.contains s.data.toList=true
 ·rw[if_pos hc]at e⊢;simp at e;rw[<-e];rfl
 ·rw[if_neg hc]at e⊢;simp at e;rw[<-e];rfl
theorem Do(w:jW):aA 56 #[] w λe w'=>e=jR (.map (some w.heap.size))/\tL w' w.heap.size 12 Pk/\az w w':=by
 have c:= @run_makeMap Tryz.prog;have d:tL (w.alloc (.map #[] 0)) w.heap.size 0 []:=World.ownsMap_made w Tryz.prog 9 (plainElem (H:=Unit) Tryz.prog 134);obtain⟨w1,f,g,h⟩:=kJ d (by omega) ⟨#[102,110]⟩ (by decide);obtain⟨i,j,l,m⟩:=kJ g (by omega) ⟨#[105,110,116]⟩ (by decide);obtain⟨n,o,p,q⟩:=kJ l (by omega) ⟨#[97,114,114]⟩ (by decide);obtain⟨r,s,t,u⟩:=kJ p (by omega) ⟨#[118,97,114]⟩ (by decide);obtain⟨v,x,y,z⟩:=kJ t (by omega) ⟨#[114,101,116,117,114,110]⟩ (by decide);obtain⟨A,B,C,D⟩:=kJ y (by omega) ⟨#[112,114,105,110,116]⟩ (by decide);obtain⟨E,F,G,I⟩:=kJ C (by omega) ⟨#[105,102]⟩ (by decide);obtain⟨J,K,L,M⟩:=kJ G (by omega) ⟨#[101,108,115,101]⟩ (by decide);obtain⟨N,O,P,Q⟩:=kJ L (by omega) ⟨#[119,104,105,108,101]⟩ (by decide);obtain⟨S,T,U,V⟩:=kJ P (by omega) ⟨#[110,101,119]⟩ (by decide);obtain⟨W,Y,Z,c⟩:=kJ U (by omega) ⟨#[108,101,110]⟩ (by decide);obtain⟨f,i,j,n⟩:=kJ Z (by omega) ⟨#[105,110,112,117,116]⟩ (by decide);have o:=jI j;have r:Hid (az w f):=by
  have s:az w (w.alloc (.map #[] 0)):=(aJ _ _).alloc (aD _) _;have st:∀{a b:jW},az w a->a.grownBy b (some w.heap.size)->az w b:=λv x=>v.grown x v.size (λk e=>by injection e with e;omega);exact st (st (st (st (st (st (st (st (st (st (st (st s h) m) q) u) z) D) I) M) Q) V) c) n
 clear d g l p t y C G L P U Z j h m q u z D I M Q V c n;go_enter Tryz.func56,Tryz.ntmps56;go_wp2;go_ret;exact⟨rfl,o,r⟩
def fQ(k:Int)(p:Nat)(e:Ending)(w':jW):Prop:=∃a,e= .panicked [{v:= .iface 72 (jP a),recovered:=false}]/\w'.heap[a]?=some (jC #[jV k,jV (p:Int)] 139)
theorem Bw(j:Nat)(a:j<24)(W:jW):(Instr.index 190 (.agg (eY.map str).toArray) (jV (j:Int))).run Tryz.prog W= .ok (str (eY.getD j [])) W:=by
 have hc:j=0\/j=1\/j=2\/j=3\/j=4\/j=5\/j=6\/j=7\/j=8\/j=9\/j=10\/j=11\/j=12\/j=13\/j=14\/j=15\/j=16\/j=17\/j=18\/j=19\/j=20\/j=21\/j=22\/j=23:=by omega
 rcases hc with rfl|rfl|rfl|rfl|rfl|rfl|rfl|rfl|rfl|rfl|rfl|rfl|rfl|rfl|rfl|rfl|rfl|rfl|rfl|rfl|rfl|rfl|rfl|rfl<;>rfl
theorem ox{b s:ByteArray}(h:¬b=s):(b.toList==s.toList)=false:=by
 rw[Lib.toList_data,Lib.toList_data];simp only[beq_eq_false_iff_ne,ne_eq];intro e;exact h (zQ e)
theorem Rl(x:ByteArray)(h:¬x=⟨#[]⟩):x.toList.isEmpty=false:=by
 have h1:=ox h;have e:(⟨#[]⟩:ByteArray).toList=[]:=by simp
 rw[e]at h1;cases a:x.toList with
 |nil=>rw[a]at h1;simp at h1
 |cons _ _=>rfl
theorem zG{l:By}(h:¬l=[]):(⟨l.toArray⟩:ByteArray).toList.isEmpty=false:=Rl _ (λe=>h (by
 have:(⟨l.toArray⟩:ByteArray).data.toList=[]:=by rw[e]
 simpa using this))
def xN:ByteArray:=⟨#[97,98,99,100,101,102,103,104,105,106,107,108,109,110,111,112,113,114,115,116,117,118,119,120,121,122,95,48,49,50,51,52,53,54,55,56,57]⟩
def xO:ByteArray:=⟨#[48,49,50,51,52,53,54,55,56,57]⟩
theorem ez{o:Obj}(h:w.heap[g]?=some o)(A:Obj):(w.alloc A).heap[g]?=some o:=by
 rw[((aJ w.heap.size w).alloc (aD _) A).block g (aC.1 h).1];exact h
structure TQ (w:jW) (g:Nat) (a b c:jU):Prop where
 h:w.heap[g]?=some (jC #[a,b,c] 136)
 c0:w.cell? (jA g)=some a
 c1:w.cell? (jB g 1)=some b
 c2:w.cell? (jB g 2)=some c
 f0:w.frozen? (jA g)=false
 f1:w.frozen? (jB g 1)=false
 f2:w.frozen? (jB g 2)=false
theorem Fw{a b c:jU}(h:w.heap[g]?=some (jC #[a,b,c] 136)):TQ w g a b c:=
 ⟨h,by rw[cell_of_row _ _ _ _ _ _ h];rfl,by rw[cell_of_row _ _ _ _ _ _ h];rfl,by rw[cell_of_row _ _ _ _ _ _ h];rfl,ea h 0,ea h 1,ea h 2⟩
theorem vP{a b c:jU}(h:w.heap[g]?=some (jC #[a,b,c] 136))(x y z:jU):(((w.setCell (jA g) x).setCell (jB g 1) y).setCell (jB g 2) z).heap[g]?=some (jC #[x,y,z] 136):=
 aH _ _ _ _ _ _ (aH _ _ _ _ _ _ (aH _ _ _ _ _ _ h))
theorem o8{B:Nat}(h:Below B w w')(a:B<=g)(x y z:jU):Below B w (((w'.setCell (jA g) x).setCell (jB g 1) y).setCell (jB g 2) z):=
 ((h.setCell (p:=(jA g)) a _).setCell (p:=(jB g 1)) a _).setCell (p:=(jB g 2)) a _
theorem sT{d:Func}{p:Tmp}(h:d.results=#[.cell p 136])(e:Array Value)(w:jW)(g:Nat)(a b c:jU)(f:e.getD p undef=jP g)(i:w.heap[g]?=some (jC #[a,b,c] 136)):
  (results d e).run Tryz.prog w= .ok (.agg #[a,b,c]) w:=by
 rw[gC h,f];have h1:(loadVar 136 (jA g)).run Tryz.prog w= .ok (.agg #[a,b,c]) w:=cm w g 136 136 _ (0,0) _ i Tryz.underlying136 rfl (by kernel_rfl);simp only[asAddr,dT,dr,h1]
theorem pT(s:ByteArray)(k b:Nat)(w:jW)(a c:ByteArray)(d:Int)(f:oF w)(hk:k<=s.size)
  (g:Hid (∀W,aA 90 #[jT (s.extract k s.size),jT xO] W λe w'=>e=jR (jT a)/\az W w'))
  (i:Hid (∀W,aA 90 #[jT (s.extract k s.size),jT xN] W λe w'=>e=jR (jT c)/\az W w'))
  (j:Hid (∀W,az w W->(Instr.lookup 131 (.map (some b)) (jT c) false).run Tryz.prog W= .ok (jV d) W))
  (h:a.toList.isEmpty=false\/(a=⟨#[]⟩/\c.toList.isEmpty=false)):
  aA 58 #[jT s,jV k,.map (some b)] w λe w'=>(e=jR (if a.toList.isEmpty=false then .agg #[jV 2,jT a,jV k] else .agg #[jV d,jT c,jV k]))/\az w w':=by
 unfold xO xN at*;rcases h with h|⟨rfl,h⟩
 ·rw[if_pos h];go_enter Tryz.func58,Tryz.ntmps58
  go_wp2_with(go_at_call 90;refine(g _).mono ?_;rintro e w1 ⟨rfl,l⟩;have m:Hid (az w w1):=((aJ _ _).alloc (aD _) _).trans (l.mono (by simp));have n:w1.heap[w.heap.size]?=some (jC #[jV 0,jT ⟨#[]⟩,jV 0] 136):=(by rw[l.block _ (by simp)];exact heap_alloc_last w _);have o:Hid (w1.heap[w.heap.size]?=some (jC #[jV 0,jT ⟨#[]⟩,jV 0] 136)):=n;obtain⟨_,p,q,r,t,u,v⟩:=Fw n;clear l n)
  exact bodyPost_ret (sT Tryz.results58 _ _ w.heap.size _ _ _ rfl (vP o _ _ _)) rfl ⟨rfl,o8 m (aD _) _ _ _⟩
 ·have x:¬(⟨#[]⟩:ByteArray).toList.isEmpty=false:=by simp
  rw[if_neg x];clear x;go_enter Tryz.func58,Tryz.ntmps58
  go_wp2_with(go_at_call 90;fail)
  refine(g _).mono ?_;rintro e w1 ⟨rfl,y⟩;have z:=jI (((aJ _ _).alloc (aD _) _).trans (y.mono (by simp)));have A:Hid (w1.heap[w.heap.size]?=some (jC #[jV 0,jT ⟨#[]⟩,jV 0] 136)):=by show _=_;rw[y.block _ (by simp)];exact heap_alloc_last w _
  clear y
  go_wp2_with(go_at_call 90;fail)
  refine(i _).mono ?_;rintro e B ⟨rfl,C⟩;have D:=jI (z.trans (C.mono z.size));have E:Hid (B.heap[w.heap.size]?=some (jC #[jV 0,jT ⟨#[]⟩,jV 0] 136)):=by show _=_;rw[C.block _ (aC.1 A.out).1];exact A
  obtain⟨_,p,q,r,t,u,v⟩:=Fw E;have F:=j.out B D;clear C;go_wp2;exact bodyPost_ret (sT Tryz.results58 _ _ w.heap.size _ _ _ rfl (vP E _ _ _)) rfl ⟨rfl,o8 D (aD _) _ _ _⟩
theorem B_:∀(l:List By)(r m:By),l.find? (·.isPrefixOf r)=some m->∃a,a<l.length/\l.getD a []=m/\m.isPrefixOf r=true/\∀j,j<a->(l.getD j []).isPrefixOf r=false
 |[],r,m,h=>by simp at h
 |x::l,r,m,h=>by
  rw[bX]at h;cases b:x.isPrefixOf r with
  |true=>
   rw[b]at h;injection h with h;subst h;exact⟨0,by simp,rfl,b,λj c=>by omega⟩
  |false=>
   rw[b]at h;obtain⟨a,h1,h2,d,e⟩:=B_ l r m h;refine⟨a+1,by simp;omega,by simpa using h2,d,λj c=>?_⟩;cases j with
   |zero=>simpa using b
   |succ j=>simpa using e j (by omega)
theorem Ca:∀(l:List By)(r:By),l.find? (·.isPrefixOf r)=none->∀j,j<l.length->(l.getD j []).isPrefixOf r=false
 |[],r,h,j,a=>by simp at a
 |x::l,r,h,j,a=>by
  rw[bX]at h;cases b:x.isPrefixOf r with
  |true=>rw[b]at h;cases h
  |false=>
   rw[b]at h;cases j with
   |zero=>simpa using b
   |succ j=>simpa using Ca l r h j (by simpa using a)
def pu(a k:Nat)(e:Ending)(w':jW):Prop:=if a<24 then e=jR (.agg #[jV 1,str (eY.getD a []),jV k]) else fQ 3 k e w'
theorem qu(s:ByteArray)(k b:Nat)(w:World)(a:oF w)(hk:k<=s.size)(J:Nat)(c:J<=24)
  (d:Hid (∀W,aA 90 #[.string (s.extract k s.size),.string xO] W λe w'=>e= .returned (.string ⟨#[]⟩)/\az W w'))
  (f:Hid (∀W,aA 90 #[.string (s.extract k s.size),.string xN] W λe w'=>e= .returned (.string ⟨#[]⟩)/\az W w'))
  (g:∀j,j<J->(eY.getD j []).isPrefixOf (s.extract k s.size).data.toList=false)
  (l:J<24->(eY.getD J []).isPrefixOf (s.extract k s.size).data.toList=true):
  aA 58 #[.string s,jV k,.map (some b)] w λe w'=>pu J k e w'/\az w w':=by
 unfold xO xN at*;have m:=jI g;have n:=jI l;have o:Hid (∀w',az w w'->oF w'):=λw' p=>a.below p;have q:Hid (∀(j:Nat)(W:World),aA 91 #[.string (s.extract k s.size),str (eY.getD j [])] W λe w'=>e= .returned (.bool ((eY.getD j []).isPrefixOf (s.extract k s.size).data.toList))/\w'=W):=λj W=>Tryz.strings_HasPrefix (s.extract k s.size) ⟨(eY.getD j []).toArray⟩ W;clear g l a;go_enter Tryz.func58,Tryz.ntmps58
 go_wp2_with(go_at_call 90;fail)
 refine(d _).mono ?_;rintro e w1 ⟨rfl,r⟩;have t:=jI (((aJ _ _).alloc (aD _) _).trans (r.mono (by simp)));have u:Hid (w1.heap[w.heap.size]?=some (.cells #[jV 0,.string ⟨#[]⟩,jV 0] 136)):=by show _=_;rw[r.block _ (by simp)];exact heap_alloc_last w _
 clear r
 go_wp2_with(go_at_call 90;fail)
 refine(f _).mono ?_;rintro e v ⟨rfl,x⟩;have y:=jI (t.trans (x.mono t.size));have z:Hid (v.heap[w.heap.size]?=some (.cells #[jV 0,.string ⟨#[]⟩,jV 0] 136)):=by show _=_;rw[x.block _ (aC.1 u.out).1];exact u
 have A:=jI ((o v y).marks);obtain⟨_,B,C,D,E,F,G⟩:=Fw z;have H:w.heap.size<v.heap.size:=(aC.1 z).1;clear x u t
 go_wp2_with(refine wpList_load_mid rfl 190 _ rfl 1 0 rfl _ _ A Tryz.underlying190 rfl (by kernel_rfl) ?_)
 clear A
 go_loopw [33] (λi wr=>∃j:Nat,j<=J/\i=jV j/\wr=v) (λi _=>24-(intOf i).toNat)
 case atStart=>exact⟨0,aQ _,rfl,rfl⟩
 case round=>
  obtain⟨j,I,rfl,rfl⟩:=hrel;by_cases K:j<J
  ·have L:j<24:=by omega
   have M:=Bw j L;have N:Hid (∀W,aA 91 #[.string (s.extract k s.size),str (eY.getD j [])] W λe w'=>e= .returned (.bool false)/\w'=W):=λW=>by
    have:=q j W;rw[m.out j K]at this;exact this
   generalize eY.getD j []=mj at*
   go_wp2_with(go_at_call 91;refine(N _).mono ?_;rintro e O ⟨rfl,rfl⟩)
   exact⟨⟨j+1,by omega,by go_num,trivial⟩,by simp[intOf];omega⟩
  ·obtain rfl:j=J:=by omega
   by_cases L:j<24
   ·have P:Hid (∀e w',e= .returned (.agg #[jV 1,str (eY.getD j []),jV k])->pu j k e w'):=λe w' h=>by unfold pu;rw[if_pos L];exact h
    have M:=Bw j L;have N:Hid (∀W,aA 91 #[.string (s.extract k s.size),str (eY.getD j [])] W λe w'=>e= .returned (.bool true)/\w'=W):=λW=>by
     have:=q j W;rw[n.out L]at this;exact this
    generalize eY.getD j []=mj at*
    go_wp2_with(go_at_call 91;refine(N _).mono ?_;rintro e O ⟨rfl,rfl⟩)
    exact bodyPost_ret (sT Tryz.results58 _ _ w.heap.size _ _ _ rfl (vP z _ _ _)) rfl ⟨P _ _ rfl,o8 y (aD _) _ _ _⟩
   ·obtain rfl:j=24:=by omega
    have P:Hid (∀e w',fQ 3 k e w'->pu 24 k e w'):=λe w' h=>by unfold pu;rw[if_neg (by omega)];exact h
    go_wp2;exact⟨rfl,P _ _ ⟨_,rfl,heap_alloc_last wr _⟩,y.alloc (aL H) _⟩
theorem yA(s:ByteArray)(k b:Nat)(w:jW)(c:oF w)(d:tL w b 12 Pk)(hk:k<=s.size)(f:s.size<=1000000)(g:Nat)(t:By)(h:kG (s.data.toList.drop k)=some (g,t)):
  aA 58 #[jT s,jV k,.map (some b)] w λe w'=>e=jR (.agg #[jV (g:Int),str t,jV k])/\az w w':=by
 have i:=Lib.extract_to_end s k;have l:(s.extract k s.size).size<=1000000:=by
  have e:(s.extract k s.size).size=(s.extract k s.size).data.toList.length:=by simp
  have n:s.data.toList.length=s.size:=by simp
  rw[e,i,bK];omega
 have o:Hid (∀W,aA 90 #[jT (s.extract k s.size),jT xO] W λe w'=>e=jR (str (gO (s.data.toList.drop k) js))/\az W w'):=λW=>by
  rw[<-i];exact r4 (s.extract k s.size) xO W (by decide) l (by decide)
 have p:Hid (∀W,aA 90 #[jT (s.extract k s.size),jT xN] W λe w'=>e=jR (str (gO (s.data.toList.drop k) (lets++js)))/\az W w'):=λW=>by
  rw[<-i];exact r4 (s.extract k s.size) xN W (by decide) l (by decide)
 have q:∀W,az w W->(Instr.lookup 131 (.map (some b)) (jT ⟨(gO (s.data.toList.drop k) (lets++js)).toArray⟩) false).run Tryz.prog W= .ok (jV ((if lw.contains (gO (s.data.toList.drop k) (lets++js)) then 1 else 0:Nat):Int)) W:=λW r=>by
  have:=KI (d.below r) ⟨(gO (s.data.toList.drop k) (lets++js)).toArray⟩ (by
   have h1:(gO (s.data.toList.drop k) (lets++js)).length<=(s.data.toList.drop k).length:=(cS _).length_le;have n:s.data.toList.length=s.size:=by simp
   rw[bK]at h1;simp[ByteArray.size];unfold maxLen;omega)
  simpa using this
 unfold kG at h;by_cases hd:gO (s.data.toList.drop k) js=[]
 ·rw[if_neg (by simpa using hd)]at h;have u:str (gO (s.data.toList.drop k) js)=jT ⟨#[]⟩:=by rw[hd]
  by_cases v:gO (s.data.toList.drop k) (lets++js)=[]
  ·rw[if_neg (by simpa using v)]at h;obtain⟨m,x,y⟩:=bA.1 h;injection y with h1 h2;subst h1;subst h2;obtain⟨z,A,B,C,D⟩:=B_ _ _ _ x;have E:str (gO (s.data.toList.drop k) (lets++js))=jT ⟨#[]⟩:=by rw[v]
   rw[u]at o;rw[E]at p;have F:z<24:=A;refine(qu s k b w c hk z (by omega) o p (λj G=>by rw[i];exact D j G) (λ_=>by rw[i,B];exact C)).mono ?_;rintro e w' ⟨a,b⟩;unfold pu at a;rw[if_pos F,B]at a;exact⟨a,b⟩
  ·rw[if_pos v]at h;injection h with h;injection h with h1 h2;subst h1;subst h2;rw[u]at o;refine(pT s k b w ⟨#[]⟩ _ _ c hk o p q (.inr ⟨rfl,zG v⟩)).mono ?_;rintro e w' ⟨a,b⟩;rw[if_neg (by simp)]at a;exact⟨a,b⟩
 ·rw[if_pos hd]at h;injection h with h;injection h with h1 h2;subst h1;subst h2;refine(pT s k b w _ _ _ c hk o p q (.inl (zG hd))).mono ?_;rintro e w' ⟨a,b⟩;rw[if_pos (zG hd)]at a;exact⟨a,b⟩
theorem z_(s:ByteArray)(k b:Nat)(w:jW)(c:oF w)(hk:k<=s.size)(d:s.size<=1000000)(h:kG (s.data.toList.drop k)=none):
  aA 58 #[jT s,jV k,.map (some b)] w λe w'=>fQ 3 k e w'/\az w w':=by
 have f:=Lib.extract_to_end s k;have g:(s.extract k s.size).size<=1000000:=by
  have e:(s.extract k s.size).size=(s.extract k s.size).data.toList.length:=by simp
  have i:s.data.toList.length=s.size:=by simp
  rw[e,f,bK];omega
 have l:Hid (∀W,aA 90 #[jT (s.extract k s.size),jT xO] W λe w'=>e=jR (str (gO (s.data.toList.drop k) js))/\az W w'):=λW=>by
  rw[<-f];exact r4 (s.extract k s.size) xO W (by decide) g (by decide)
 have m:Hid (∀W,aA 90 #[jT (s.extract k s.size),jT xN] W λe w'=>e=jR (str (gO (s.data.toList.drop k) (lets++js)))/\az W w'):=λW=>by
  rw[<-f];exact r4 (s.extract k s.size) xN W (by decide) g (by decide)
 unfold kG at h;by_cases hd:gO (s.data.toList.drop k) js=[]
 ·rw[if_neg (by simpa using hd)]at h;by_cases n:gO (s.data.toList.drop k) (lets++js)=[]
  ·rw[if_neg (by simpa using n)]at h;have o:eY.find? (·.isPrefixOf (s.data.toList.drop k))=none:=by simpa using h
   have p:str (gO (s.data.toList.drop k) js)=jT ⟨#[]⟩:=by rw[hd]
   have q:str (gO (s.data.toList.drop k) (lets++js))=jT ⟨#[]⟩:=by rw[n]
   rw[p]at l;rw[q]at m;refine(qu s k b w c hk 24 (by omega) l m (λj r=>by rw[f];exact Ca _ _ o j r) (λh=>by omega)).mono ?_;rintro e w' ⟨a,b⟩;unfold pu at a;rw[if_neg (by omega)]at a;exact⟨a,b⟩
  ·rw[if_pos n]at h;cases h
 ·rw[if_pos hd]at h;cases h
theorem info_parts{t:TypeId}{z:jU}(h:(Tryz.prog.info? t).map (λi=>(i.zero,i.size,i.bytes))=some (some z,a,b)):∃i,Tryz.prog.info? t=some i/\i.zero=some z/\i.size=a/\i.bytes=b:=by
 obtain⟨i,c,d⟩:=bA.1 h;injection d with h1 h2;injection h2 with h2 h3;exact⟨i,c,h1,h2,h3⟩
theorem OE:(Tryz.prog.info? 136).map (λi=>(i.zero,i.size,i.bytes))=some (some (.agg #[jV 0,jT ⟨#[]⟩,jV 0]),3,32):=by kernel_rfl
def zK(l:List eD):jE:=l.flatMap λt=>[jV (t.k:Int),str t.t,jV (t.p:Int)]
theorem xT(l:List eD)(t:eD):zK (l++[t])=zK l++[jV (t.k:Int),str t.t,jV (t.p:Int)]:=by simp[zK]
theorem iN(a:az w w'):w.grownBy w' none:=⟨a.os,a.tape,a.output,a.size,λj b _=>a.block j b⟩
theorem rZ(s:By)(j:Nat)(a:j<=s.length):s.drop (il s j)=gm false (s.drop j)/\il s j<=s.length/\j<=il s j:=by
 have h1:=mz false (s.drop j);have h2:=g_ false (s.drop j);rw[bK]at h1 h2;unfold il;refine⟨?_,by omega,by omega⟩;have b:s.drop (s.length-(gm false (s.drop j)).length)=(s.drop j).drop (s.length-j-(gm false (s.drop j)).length):=by
  rw[dZ];congr 1;omega
 exact b.trans h1.symm
structure CI (w:jW) (s:By) (j n:Nat) (l:List eD) (v:jU) (W:jW):Prop where
 cut:∃f,(s.drop j).length+1<=f/\oZ s.length f (s.drop j) l=qW s
 len:n=l.length
 max:l.length<=1500
 row:W.ownsRow (w.heap.size+1) 136 3 v n (zK l)
 map:tL W w.heap.size 12 Pk
 low:az w W
theorem CI.kept{W':jW}{l:List eD}(h:CI w s j n l v W)(a:az W W'):CI w s j n l v W':=
 ⟨h.cut,h.len,h.max,h.row.kept (iN a) (by cases v.ownBlock<;>simp),h.map.below a,h.low.trans (a.mono h.low.size)⟩
theorem CI.lt{l:List eD}(h:CI w s j n l v W):w.heap.size<W.heap.size:=World.ownsMap.lt h.map
def Ki(w:jW)(x:Except (Int×Nat) (List eD))(e:Ending)(w':jW):Prop:=
 match x with
 | .ok l=>∃v,e=jR v/\w'.ownsRow (w.heap.size+1) 136 3 v l.length (zK l)
 | .error (c,p)=>fQ c p e w'
theorem Kj(s:ByteArray)(w:World)(b:oF w)(d:s.size<=1000000):
  aA 32 #[.string s] w λe w'=>Ki w (qW s.data.toList) e w'/\az w w':=by
 obtain⟨g,h,m,o,p⟩:=info_parts OE;have r:s.data.toList.length=s.size:=by simp
 have v:Hid (∀w',az w w'->oF w'):=λw' y=>b.below y;have z:=jI (Do w);have A:Hid (∀(k:Nat) W,k<=s.size->az w W->aA 57 #[.string s,.int .i64 (k:Int)] W λe w'=>e= .returned (.int .i64 (il s.data.toList k:Nat))/\az W w'):=λk W hk y=>FM s k W (v W y) hk d;have B:=jI r;clear b r;go_enter Tryz.func32,Tryz.ntmps32
 go_wp2_with(go_at_call 56;fail)
 refine z.mono ?_;rintro e w1 ⟨rfl,C,D⟩;have E:=jI C;have F:=jI D;clear C D
 go_wp2_with(go_at_call 57;fail)
 refine(A 0 w1 (aQ _) F).mono ?_;rintro e G ⟨rfl,H⟩;have I:Hid (CI w s.data.toList (il s.data.toList 0) 0 [] (.slice none 0 0) G):=by
  obtain⟨J,K,L⟩:=rZ s.data.toList 0 (aQ _);refine⟨⟨s.data.toList.length+1,?_,?_⟩,rfl,by simp,bj _ _ _ _,E.below H,F.trans (H.mono F.size)⟩
  ·rw[bK];omega
  ·rw[J];rfl
 have M:il s.data.toList 0<=s.size:=by rw[<-B.out];exact(rZ s.data.toList 0 (aQ _)).2.1
 generalize il s.data.toList 0=j0 at*;clear H
 go_wp2_with fail
 go_loopw [3,5] (λN i wr=>∃(j n:Nat)(l:List eD)(q:Option Addr)(c:Nat),j<=s.size/\i= .int .i64 j/\N= .slice q n c/\Hid (CI w s.data.toList j n l (.slice q n c) wr)) (λ_ i _=>s.size-(intOf i).toNat)
 case atStart=>exact⟨j0,0,[],none,0,M,rfl,rfl,I⟩
 case round=>
  obtain⟨j,n,l,q,c,O,rfl,rfl,P⟩:=hrel;have Q:n<=1500:=by rw[P.len];exact P.max
  by_cases S:j<s.size
  ·have T:(s.data.toList.drop j).length=s.size-j:=by rw[bK,B.out]
   have U:¬s.data.toList.drop j=[]:=λe=>by rw[e]at T;simp at T;omega
   cases V:kG (s.data.toList.drop j) with
   |none=>
    have Y:=jI (z_ s j w.heap.size wr (v wr P.low) (by omega) d V);have Z:Hid (qW s.data.toList= .error (3,j)):=by
     show _=_;obtain⟨f,y,b⟩:=P.cut;obtain⟨r,rfl⟩:∃r,f=r+1:=⟨f-1,by omega⟩;rw[<-b,oZ,if_neg U,V,T,B.out];show Except.error (3,s.size-(s.size-j))=_;rw[show s.size-(s.size-j)=j by omega]
    clear V U T
    go_wp2_with(go_at_call 58;fail)
    refine Y.mono ?_;rintro e z ⟨⟨a,rfl,C⟩,D⟩;refine⟨rfl,?_,P.low.trans (D.mono P.low.size)⟩;rw[Z.out];exact⟨a,rfl,C⟩
   |some G=>
    obtain⟨K,t⟩:=G;obtain⟨tx,E⟩:∃tx:ByteArray,tx=⟨t.toArray⟩:=⟨_,rfl⟩;have F:str t= .string tx:=by rw[E]
    have J:tx.size=t.length:=by rw[E];simp[ByteArray.size]
    obtain⟨L,H⟩:=vJ V;have Y:Hid (aA 58 #[.string s,.int .i64 (j:Int),.map (some w.heap.size)] wr λe w'=>e= .returned (.agg #[.int .i64 (K:Int),.string tx,.int .i64 (j:Int)])/\az wr w'):=by
     have:=yA s j w.heap.size wr (v wr P.low) P.map (by omega) d K t V;rw[F]at this;exact this
    have I:Hid (∀f,oZ s.data.toList.length (f+1) (s.data.toList.drop j) l=if l.length=1500 then .error (4,j) else oZ s.data.toList.length f (s.data.toList.drop (il s.data.toList (j+tx.size))) (l++[⟨K,t,j⟩])):=λf=>by
     have M:s.data.toList.length-(s.data.toList.drop j).length=j:=by rw[T,B.out];omega
     rw[oZ,if_neg U,V];simp only;rw[M,(rZ s.data.toList (j+tx.size) (by rw[B.out,J];omega)).1,dZ,J]
    have N:j+tx.size<=s.size:=by rw[J];omega
    have O:1<=tx.size:=by rw[J];omega
    have Q:=jI F;clear V U T E F J L H;by_cases S:n=1500
    ·have Z:Hid (qW s.data.toList= .error (4,j)):=by
      show _=_;obtain⟨f,y,b⟩:=P.cut;obtain⟨r,rfl⟩:∃r,f=r+1:=⟨f-1,by omega⟩;rw[<-b,I.out,if_pos (by rw[<-P.len];exact S)]
     subst S
     go_wp2_with(go_at_call 58;fail)
     refine Y.mono ?_;rintro e z ⟨rfl,D⟩;have C:=jI D;clear D;go_wp2;have G:=P.lt
     have d:w.heap.size<=z.heap.size:=by have:=C.size;omega
     have v:=P.low.trans (C.mono P.low.size);refine⟨rfl,?_,(v.alloc d _).alloc (by simp;omega) _⟩;rw[Z.out];refine⟨_,rfl,?_⟩;have:=heap_alloc_last (z.alloc (.cells #[.int .i64 (K:Int),.string tx,.int .i64 (j:Int)] 136)) (.cells #[.int .i64 4,.int .i64 (j:Int)] 139);simpa using this
    ·have M:((n:Int)==1500)=false:=by simp;omega
     go_wp2_with(go_at_call 58;fail)
     refine Y.mono ?_;rintro e z ⟨rfl,D⟩;have O:=P.kept D;have G:=O.lt;have T:=jI O;have U:Hid (((z.alloc (.cells #[.int .i64 (K:Int),.string tx,.int .i64 (j:Int)] 136)).alloc (.cells #[.int .i64 (K:Int),.string tx,.int .i64 (j:Int)] 136)).ownsRow (w.heap.size+1) 136 3 (.slice q n c) n (zK l)):=(O.row.alloc _).alloc _;have V:Hid (∀(i:Nat)(x:Value),([.int .i64 (K:Int),.string tx,.int .i64 (j:Int)]:List Value)[i]?=some x->((z.alloc (.cells #[.int .i64 (K:Int),.string tx,.int .i64 (j:Int)] 136)).alloc (.cells #[.int .i64 (K:Int),.string tx,.int .i64 (j:Int)] 136)).cell? ((⟨z.heap.size+1,0,none⟩:Addr).add i)=some x):=World.news_of_block (cs:=#[.int .i64 (K:Int),.string tx,.int .i64 (j:Int)]) (t:=136) (fr:=(0,0)) (by
      have:=heap_alloc_last (z.alloc (.cells #[.int .i64 (K:Int),.string tx,.int .i64 (j:Int)] 136)) (.cells #[.int .i64 (K:Int),.string tx,.int .i64 (j:Int)] 136);simpa using this)
     have E:Hid (∀u∈([.int .i64 (K:Int),.string tx,.int .i64 (j:Int)]:List Value),u.oneCell'=true):=λu F=>by simp at F;rcases F with rfl|rfl|rfl<;>rfl
     have J:Hid (w.heap.size+1<=((z.alloc (.cells #[.int .i64 (K:Int),.string tx,.int .i64 (j:Int)] 136)).alloc (.cells #[.int .i64 (K:Int),.string tx,.int .i64 (j:Int)] 136)).heap.size):=by show _<=_;simp;omega
     clear D O
     go_wp2_with(at_builtin;refine wpList_append_own _ rfl _ _ 75 rfl (w.heap.size+1) 136 g _ 3 32 Tryz.underlying75 h m o p rfl (by decide) _ n _ rfl U ⟨z.heap.size+1,0,none⟩ 1 1 [.int .i64 (K:Int),.string tx,.int .i64 (j:Int)] rfl rfl V E (by unfold maxLen;omega) (by omega) J ?_)
     intro L w4 H C _;obtain⟨d,v,rfl⟩:=eh H;have Y:∀i,Value.ownBlock (.slice q n c)=some i->i<z.heap.size:=λi e=>(T.row.lt i e).2;have M:w4.heap[z.heap.size]?=some (.cells #[.int .i64 (K:Int),.string tx,.int .i64 (j:Int)] 136):=by
      rw[C.block z.heap.size (by simp;omega) (λe=>by have:=Y _ e.symm;omega)];exact ez (heap_alloc_last z _) _
     obtain⟨_,D,O,z,_,_,_⟩:=Fw M;have D:az w w4:=((T.low.alloc (aL G) _).alloc (by simp;omega) _).grown C (by have:=J.out;omega) (λi e=>by have:=(U.lt i e).1;omega);have O:tL w4 w.heap.size 12 Pk:=World.ownsMap.kept (World.ownsMap.alloc (World.ownsMap.alloc T.map _) _) C (λe=>by have:=(U.lt _ e.symm).1;omega);have z:Hid (aA 57 #[.string s,.int .i64 ((j:Int)+(tx.size:Int))] w4 λe w'=>e= .returned (.int .i64 (il s.data.toList (j+tx.size):Nat))/\az w4 w'):=by
      have:=A (j+tx.size) w4 N D;rw[show((j+tx.size:Nat):Int)=(j:Int)+(tx.size:Int) by omega]at this;exact this
     obtain⟨A,A0,A1⟩:=j3 D O H;clear Y M D O H C U V E J
     go_wp2_with(go_at_call 57;fail)
     refine z.mono ?_;rintro e Y ⟨rfl,M⟩;obtain⟨D,O,z⟩:=rZ s.data.toList (j+tx.size) (by rw[B.out];exact N);have N:Hid (CI w s.data.toList (il s.data.toList (j+tx.size)) (n+1) (l++[⟨K,t,j⟩]) (.slice d (n+1) v) Y):=by
      have A2:=T.len;have A3:¬l.length=1500:=by rw[<-A2];exact S
      have S:=T.max;refine⟨?_,by simp[A2],by simp;omega,?_,A0.below M,A.trans (M.mono A.size)⟩
      ·obtain⟨f,y,b⟩:=T.cut;obtain⟨r,rfl⟩:∃r,f=r+1:=⟨f-1,by omega⟩;refine⟨r,?_,?_⟩
       ·rw[bK]at y⊢;rw[B.out]at*;omega
       ·rw[<-b,I.out,if_neg A3]
      ·have:=A1.kept (iN M) (by cases (Value.slice d (n+1) v).ownBlock<;>simp);rw[xT];show Y.ownsRow _ _ _ _ _ (zK l++[.int .i64 (K:Int),str t,.int .i64 (j:Int)]);rw[Q.out];exact this
     have K:il s.data.toList (j+tx.size)<=s.size:=by rw[<-B.out];exact O
     have I:=z;clear M D O z;generalize il s.data.toList (j+tx.size)=j' at*;go_wp2;exact⟨⟨j',n+1,_,d,v,K,rfl,rfl,N⟩,by simp[intOf];omega⟩
  ·obtain rfl:j=s.size:=by omega
   have Z:Hid (qW s.data.toList= .ok (l++[⟨3,[],s.size⟩])):=by
    show _=_;obtain⟨f,y,b⟩:=P.cut;obtain⟨r,rfl⟩:∃r,f=r+1:=⟨f-1,by omega⟩;rw[<-b,oZ,if_pos (by rw[bg (by rw[B.out];exact aD _)]),B]
   have G:=P.lt;have U:Hid ((wr.alloc (.cells #[.int .i64 3,.string ⟨#[]⟩,.int .i64 (s.size:Int)] 136)).ownsRow (w.heap.size+1) 136 3 (.slice q n c) n (zK l)):=P.row.alloc _;have V:=jI (World.news_of_block (cs:=#[.int .i64 3,.string ⟨#[]⟩,.int .i64 (s.size:Int)]) (t:=136) (fr:=(0,0)) (heap_alloc_last wr _));have E:Hid (∀u∈([.int .i64 3,.string ⟨#[]⟩,.int .i64 (s.size:Int)]:List Value),u.oneCell'=true):=λu F=>by simp at F;rcases F with rfl|rfl|rfl<;>rfl
   have J:Hid (w.heap.size+1<=(wr.alloc (.cells #[.int .i64 3,.string ⟨#[]⟩,.int .i64 (s.size:Int)] 136)).heap.size):=by show _<=_;simp;omega
   go_wp2_with(at_builtin;refine wpList_append_own _ rfl _ _ 75 rfl (w.heap.size+1) 136 g _ 3 32 Tryz.underlying75 h m o p rfl (by decide) _ n _ rfl U ⟨wr.heap.size,0,none⟩ 1 1 [.int .i64 3,.string ⟨#[]⟩,.int .i64 (s.size:Int)] rfl rfl V E (by unfold maxLen;omega) (by omega) J ?_)
   intro L w4 H C _;have A1:=jI H;have A:Hid (az w w4):=(P.low.alloc (aL G) _).grown C (by have:=J.out;omega) (λi e=>by have:=(U.lt i e).1;omega);clear H C;go_wp2;go_ret;refine⟨?_,A⟩
   rw[Z.out];refine⟨L,rfl,?_⟩;have:=A1.out;rw[P.len]at this;rw[xT,bh];exact this
abbrev Gr(P:Nat)(w w':jW):Prop:=w.grownBy w' (some P)
theorem Gr.refl(P:Nat)(w:jW):Gr P w w:=⟨rfl,rfl,rfl,aD _,λ_ _ _=>rfl⟩
theorem Gr.trans{a b c:jW}(h:Gr P a b)(g:Gr P b c):Gr P a c:=
 ⟨g.os.trans h.os,g.tape.trans h.tape,g.output.trans h.output,aP h.size g.size,λk hk d=>(g.block k (aO hk h.size) d).trans (h.block k hk d)⟩
theorem em(h:az w w'):Gr P w w':=⟨h.os,h.tape,h.output,h.size,λk hk _=>h.block k hk⟩
theorem Gr.alloc(h:Gr P w w')(A:Obj):Gr P w (w'.alloc A):=h.trans (em ((aJ _ _).alloc (aD _) A))
structure PS (w:jW) (P T o c:Nat) (l:List eD):Prop where
 own:w.heap[P]?=some (jC #[jL (some (jB T o)) l.length c] 78)
 cap:l.length<=c
 ne:T≠P
 tok:∀(j:Nat)(t:eD),l[j]?=some t->w.cell? (jB T (o+j*3))=some (jV (t.k:Int))/\w.cell? (jB T (o+j*3+1))=some (str t.t)/\w.cell? (jB T (o+j*3+2))=some (jV (t.p:Int))
theorem PS.below{l:List eD}(h:PS w P e o c l)(f:az w w'):PS w' P e o c l:=by
 refine⟨by rw[f.block P (aC.1 h.own).1];exact h.own,h.cap,h.ne,λj t g=>?_⟩;obtain⟨a,b,d⟩:=h.tok j t g;have i:=aV w _ a;exact⟨(f.cell (p:=(jB e (o+j*3))) i).trans a,(f.cell (p:=(jB e (o+j*3+1))) i).trans b,(f.cell (p:=(jB e (o+j*3+2))) i).trans d⟩
theorem PS.of{l:List eD}(h:PS w P e o c l)(h1:w'.heap[P]?=w.heap[P]?)(h2:w'.heap[e]?=w.heap[e]?):PS w' P e o c l:=by
 refine⟨by rw[h1];exact h.own,h.cap,h.ne,λj t f=>?_⟩;obtain⟨a,b,d⟩:=h.tok j t f;exact⟨(bB (a:=(jB e _)) h2).trans a,(bB (a:=(jB e _)) h2).trans b,(bB (a:=(jB e _)) h2).trans d⟩
theorem PS.ltT{l:List eD}(h:PS w P a o c (t::l)):a<w.heap.size:=aV w _ (h.tok 0 t rfl).1
theorem PS.next{T:Nat}{l:List eD}(h:PS w P T o c (t::l)):PS (w.setCell (jA P) (jL (some (jB T (o+3))) l.length (c-1))) P T (o+3) (c-1) l:=by
 have hc:=h.cap;rw[aZ]at hc;refine⟨aH _ _ _ _ _ _ h.own,by omega,h.ne,λj g f=>?_⟩;obtain⟨a,b,d⟩:=h.tok (j+1) g (by simpa using f);have k:∀x,(w.setCell (jA P) (jL (some (jB T (o+3))) l.length (c-1))).cell? (jB T x)=w.cell? (jB T x):=λx=>bq _ _ _ _ (by intro e;injection e with e;exact h.ne e.symm);rw[k,k,k];rw[show o+3+j*3=o+(j+1)*3 by omega];exact⟨a,b,d⟩
theorem Dp(w:jW)(P f o c:Nat)(t:eD)(l:List eD)(h:PS w P f o c (t::l)):
  aA 59 #[jP P] w λe w'=>e=jR (.agg #[jV (t.k:Int),str t.t,jV (t.p:Int)])/\az w w':=by
 obtain⟨y,g⟩:∃y:ByteArray,y=⟨t.t.toArray⟩:=⟨_,rfl⟩;have i:str t.t=jT y:=by rw[g]
 obtain⟨a,b,d⟩:=h.tok 0 t rfl;rw[Nat.zero_mul,cn]at a b d;rw[i]at b⊢;have own:=h.own;rw[aZ]at own;have j:=(aC.1 own).1;have m:=aV w _ a;have q:w.cell? (jA P)=some (jL (some (jB f o)) (l.length+1) c):=by rw[cell_of_row _ _ _ _ _ _ own];rfl
 clear own h g i;generalize l.length=n at*;go_enter Tryz.func59,Tryz.ntmps59;go_wp2;exact bodyPost_ret (sT Tryz.results59 _ _ w.heap.size _ _ _ rfl (heap_alloc_last w _)) rfl ⟨rfl,(aJ _ _).alloc (aD _) _⟩
theorem iI(w:jW)(P a o c:Nat)(t:eD)(l:List eD)(h:PS w P a o c (t::l))(y:ByteArray)(b:str t.t=jT y):
  aA 59 #[jP P] w λe w'=>e=jR (.agg #[jV (t.k:Int),jT y,jV (t.p:Int)])/\az w w':=by
 rw[<-b];exact Dp w P a o c t l h
theorem fU(l:By):∃y:ByteArray,str l=jT y/\y.data.toList=l:=⟨⟨l.toArray⟩,rfl,by simp⟩
theorem GH(k p:Int)(y:ByteArray)(W:jW):(Instr.field 136 (.agg #[jV k,jT y,jV p]) 0).run Tryz.prog W= .ok (jV k) W:=by kernel_rfl
theorem zW(k p:Int)(y:ByteArray)(W:jW):(Instr.field 136 (.agg #[jV k,jT y,jV p]) 1).run Tryz.prog W= .ok (jT y) W:=by kernel_rfl
theorem GI(k p:Int)(y:ByteArray)(W:jW):(Instr.field 136 (.agg #[jV k,jT y,jV p]) 2).run Tryz.prog W= .ok (jV p) W:=by kernel_rfl
theorem kZ(w:jW)(P b o c:Nat)(t:eD)(l:List eD)(h:PS w P b o c (t::l))(k:Int):
  aA 60 #[jP P,jV k] w λe w'=>(∃a,e=jR (jP a)/\w'.heap[a]?=some (jC #[jV k,jV (t.p:Int)] 139))/\az w w':=by
 obtain⟨y,d,_⟩:=fU t.t;have f:=jI (iI w P b o c t l h y d);clear h d;have h2:=GI;go_enter Tryz.func60,Tryz.ntmps60
 go_wp2_with(go_at_call 59;refine f.mono ?_;rintro e w1 ⟨rfl,g⟩;have i:Hid (az w w1):=g;clear g)
 go_ret;exact⟨⟨_,rfl,heap_alloc_last w1 _⟩,i.alloc i.size _⟩
theorem p_(w:jW)(P T o c:Nat)(t:eD)(l:List eD)(h:PS w P T o c (t::l))(U:1<=l.length):
  aA 147 #[jP P] w λe w'=>e=jR (.agg #[jV (t.k:Int),str t.t,jV (t.p:Int)])/\PS w' P T (o+3) (c-1) l/\Gr P w w':=by
 obtain⟨y,q,_⟩:=fU t.t;rw[q];have D:Hid (aA 59 #[jP P] (w.alloc (jC #[jV 0,jT ⟨#[]⟩,jV 0] 136)) λe w'=>e=jR (.agg #[jV (t.k:Int),jT y,jV (t.p:Int)])/\Below (w.alloc (jC #[jV 0,jT ⟨#[]⟩,jV 0] 136)).heap.size (w.alloc (jC #[jV 0,jT ⟨#[]⟩,jV 0] 136)) w'):=
  iI _ P T o c t l (h.below ((aJ _ _).alloc (aD _) _)) y q
 have j:=jI h;obtain⟨f,rfl⟩:∃f,c=f+2:=⟨c-2,by have:=h.cap;rw[aZ]at this;omega⟩;have g:=h.cap;rw[aZ]at g;have Z:P<w.heap.size:=(aC.1 h.own).1;clear h q;go_enter Tryz.func147,Tryz.ntmps147
 go_wp2_with(go_at_call 59;fail)
 refine D.mono ?_;rintro e w1 ⟨rfl,m⟩;have z:=m.size;simp at z;have d:=((aJ _ _).alloc (aD _) _).trans (m.mono (by simp));have s:w1.heap[w.heap.size]?=some (jC #[jV 0,jT ⟨#[]⟩,jV 0] 136):=by rw[m.block _ (by simp)];exact heap_alloc_last w _
 have a:=j.below d;have iP:=a.own;rw[aZ]at iP;have V:w1.cell? (jA P)=some (jL (some (jB T o)) (l.length+1) (f+2)):=by rw[cell_of_row _ _ _ _ _ _ iP];rfl
 have Q:=ea iP 0;have J:P<w1.heap.size:=by omega
 obtain⟨_,c0,S,M,N,Y,W⟩:=Fw s;obtain⟨u,r,b⟩:=j3 s a d;have K:¬w.heap.size=P:=by omega
 have L:∀v i,(w1.setCell (jA P) v).cell? (jB w.heap.size i)=w1.cell? (jB w.heap.size i):=λv i=>bq _ _ _ _ (by intro e;injection e with e;omega);have H:∀v i,(w1.setCell (jA P) v).frozen? (jB w.heap.size i)=w1.frozen? (jB w.heap.size i):=λv i=>by
  have:(w1.setCell (jA P) v).heap[w.heap.size]?=w1.heap[w.heap.size]?:=aG _ _ _ _ (by show w.heap.size≠P;omega);simp[World.frozen?,this]
 have I:w.heap.size<w1.heap.size:=by omega
 clear m d s a iP D;generalize F:l.length=n at*;have A:=jI F;clear F;go_wp2;have G:(jL (some (jB T (o+3))) n (f+1):jU)=jL (some (jB T (o+3))) l.length (f+2-1):=by rw[A.out];rfl
 have E:=r.next;rw[<-G]at E;have x:(w1.setCell (jA P) (jL (some (jB T (o+3))) n (f+1))).heap[w.heap.size]?=some (jC #[jV 0,jT ⟨#[]⟩,jV 0] 136):=by
  rw[aG _ _ _ _ (by show w.heap.size≠P;omega)];exact u
 have O:=j.ltT;refine bodyPost_ret (sT Tryz.results147 _ _ w.heap.size _ _ _ rfl (ez (vP x _ _ _) _)) rfl ⟨rfl,?_,?_⟩
 ·refine E.of ?_ ?_
  ·rw[ed (by simp;omega)];rw[aG _ _ _ _ (by show P≠w.heap.size;omega),aG _ _ _ _ (by show P≠w.heap.size;omega),aG _ _ _ _ (by show P≠w.heap.size;omega)]
  ·rw[ed (by simp;omega)];rw[aG _ _ _ _ (by show T≠w.heap.size;omega),aG _ _ _ _ (by show T≠w.heap.size;omega),aG _ _ _ _ (by show T≠w.heap.size;omega)]
 ·refine⟨b.os,b.tape,b.output,by simp;omega,λk hk B=>?_⟩;have C:k≠P:=λe=>B (by rw[e]);rw[ed (by simp;omega),aG _ _ _ _ (by show k≠w.heap.size;omega),aG _ _ _ _ (by show k≠w.heap.size;omega),aG _ _ _ _ (by show k≠w.heap.size;omega),aG _ _ _ _ (by show k≠P;exact C)];exact b.block k hk
theorem mR(w:jW)(P f o c:Nat)(t:eD)(l:List eD)(h:PS w P f o c (t::l))(g:1<=l.length)(x:ByteArray)(i:t.t=x.data.toList):
  aA 94 #[jP P,jT x] w λe w'=>e=jR (.bool true)/\PS w' P f (o+3) (c-1) l/\Gr P w w':=by
 have j:str t.t=jT x:=by rw[i]
 have m:=jI (iI w P f o c t l h x j);have n:Hid (∀W,az w W->aA 147 #[jP P] W λe w'=>e=jR (.agg #[jV (t.k:Int),jT x,jV (t.p:Int)])/\PS w' P f (o+3) (c-1) l/\Gr P w w'):=λW q=>by
  rw[<-j];exact(p_ W P f o c t l (h.below q) g).mono λe w' ⟨a,b,d⟩=>⟨a,b,(em q).trans d⟩
 have h1:=zW;clear h j i;go_enter Tryz.func94,Tryz.ntmps94
 go_wp2_with(first
  |(go_at_call 59;refine m.mono ?_;rintro e w1 ⟨rfl,q⟩;have r:Hid (az w w1):=q;clear q)
  |(go_at_call 147;refine(n _ r).mono ?_;rintro e s ⟨rfl,u,v⟩;have y:Hid (PS s P f (o+3) (c-1) l):=u;have z:Hid (Gr P w s):=v;clear u v))
 go_ret;exact⟨rfl,y,z⟩
theorem mC(w:jW)(P a o c:Nat)(t:eD)(l:List eD)(h:PS w P a o c (t::l))(x:ByteArray)(d:t.t≠x.data.toList):
  aA 94 #[jP P,jT x] w λe w'=>e=jR (.bool false)/\az w w':=by
 obtain⟨y,f,g⟩:=fU t.t;have i:=jI (iI w P a o c t l h y f);have j:=ox (b:=y) (s:=x) (λe=>d (by rw[<-g,e]));have h1:=zW;clear h f d g;go_enter Tryz.func94,Tryz.ntmps94
 go_wp2_with(go_at_call 59;refine i.mono ?_;rintro e w1 ⟨rfl,k⟩;have m:Hid (az w w1):=k;clear k)
 go_ret;exact⟨rfl,m⟩
theorem nZ(w:jW)(P a o c:Nat)(t:eD)(l:List eD)(h:PS w P a o c (t::l))(b:1<=l.length)(x:ByteArray)(d:t.t=x.data.toList):
  aA 92 #[jP P,jT x] w λe w'=>e=jR (.tuple #[])/\PS w' P a (o+3) (c-1) l/\Gr P w w':=by
 have f:=jI (mR w P a o c t l h b x d);clear h d;go_enter Tryz.func92,Tryz.ntmps92
 go_wp2_with(go_at_call 94;refine f.mono ?_;rintro e g ⟨rfl,i,j⟩;have k:Hid (PS g P a (o+3) (c-1) l):=i;have m:Hid (Gr P w g):=j;clear i j)
 go_end0;exact⟨rfl,k,m⟩
theorem v_(w:jW)(P d o c:Nat)(t:eD)(l:List eD)(h:PS w P d o c (t::l))(x:ByteArray)(f:t.t≠x.data.toList):
  aA 92 #[jP P,jT x] w λe w'=>fQ 3 t.p e w'/\az w w':=by
 have g:=jI (mC w P d o c t l h x f);have i:Hid (∀W,az w W->aA 60 #[jP P,jV 3] W λe w'=>(∃a,e=jR (jP a)/\w'.heap[a]?=some (jC #[jV 3,jV (t.p:Int)] 139))/\az w w'):=λW j=>(kZ W P d o c t l (h.below j) 3).mono λe w' ⟨a,b⟩=>⟨a,j.trans (b.mono j.size)⟩;clear h f;go_enter Tryz.func92,Tryz.ntmps92
 go_wp2_with(first
  |(go_at_call 94;refine g.mono ?_;rintro e w1 ⟨rfl,j⟩;have k:Hid (az w w1):=j;clear j)
  |(go_at_call 60;refine(i _ k).mono ?_;rintro e m ⟨⟨a,rfl,n⟩,j⟩;have q:Hid (m.heap[a]?=some (jC #[jV 3,jV (t.p:Int)] 139)):=n;have r:Hid (az w m):=j;clear n j))
 exact⟨rfl,⟨a,rfl,q⟩,r⟩
theorem ym(w:jW)(P f o c:Nat)(t:eD)(l:List eD)(h:PS w P f o c (t::l))(d:Nat)(hd:12<d)(g:d<1000000)(hk:t.k≠3):
  aA 148 #[jP P,jV (d:Int)] w λe w'=>fQ 4 t.p e w'/\az w w':=by
 obtain⟨y,i,j⟩:=fU t.t;have m:=jI (iI w P f o c t l h y i);have n:Hid (∀W,az w W->aA 60 #[jP P,jV 4] W λe w'=>(∃a,e=jR (jP a)/\w'.heap[a]?=some (jC #[jV 4,jV (t.p:Int)] 139))/\az w w'):=λW q=>(kZ W P f o c t l (h.below q) 4).mono λe w' ⟨a,b⟩=>⟨a,q.trans (b.mono q.size)⟩;have r:((t.k:Int) !=3)=true:=by simp;omega
 have s:(12:Int)<d:=by omega
 have u:=GH;clear h i j hk hd;go_enter Tryz.func148,Tryz.ntmps148
 go_wp2_with(first
  |(go_at_call 59;refine m.mono ?_;rintro e w1 ⟨rfl,q⟩;have v:Hid (az w w1):=q;clear q)
  |(go_at_call 60;refine(n _ v).mono ?_;rintro e x ⟨⟨a,rfl,z⟩,q⟩;have A:Hid (x.heap[a]?=some (jC #[jV 4,jV (t.p:Int)] 139)):=z;have B:Hid (az w x):=q;clear z q))
 exact⟨rfl,⟨a,rfl,A⟩,B⟩
theorem Dq(w:jW)(P a o c:Nat)(t:eD)(l:List eD)(h:PS w P a o c (t::l))(d:Nat)(b:d<1000000)(hk:d<=12\/t.k=3):
  aA 148 #[jP P,jV (d:Int)] w λe w'=>e=jR (.tuple #[])/\az w w':=by
 obtain⟨y,f,g⟩:=fU t.t;have i:=jI (iI w P a o c t l h y f);have j:=GH;clear h f g;by_cases hd:d<=12
 ·have m:¬(12:Int)<d:=by omega
  clear hk hd;go_enter Tryz.func148,Tryz.ntmps148
  go_wp2_with fail
  go_end0;exact⟨rfl,aJ _ _⟩
 ·have m:(12:Int)<d:=by omega
  have n:((t.k:Int) !=3)=false:=by
   rcases hk with hk|hk
   ·omega
   ·rw[hk];rfl
  clear hk hd;go_enter Tryz.func148,Tryz.ntmps148
  go_wp2_with(go_at_call 59;refine i.mono ?_;rintro e w1 ⟨rfl,p⟩;have q:Hid (az w w1):=p;clear p)
  go_end0;exact⟨rfl,q⟩
theorem GJ(w:jW)(P f o c:Nat)(t:eD)(l:List eD)(h:PS w P f o c (t::l))(g:1<=l.length)(hk:t.k=0)(i:t.t.length<=12):
  aA 93 #[jP P] w λe w'=>e=jR (str t.t)/\PS w' P f (o+3) (c-1) l/\Gr P w w':=by
 obtain⟨y,j,m⟩:=fU t.t;rw[j];have n:y.size=t.t.length:=by rw[<-m];simp
 have q:Hid (aA 59 #[jP P] w λe w'=>e=jR (.agg #[jV 0,jT y,jV (t.p:Int)])/\az w w'):=by
  have:=iI w P f o c t l h y j;rw[hk]at this;exact this
 have r:Hid (∀W,az w W->aA 147 #[jP P] W λe w'=>e=jR (.agg #[jV (t.k:Int),jT y,jV (t.p:Int)])/\PS w' P f (o+3) (c-1) l/\Gr P w w'):=λW s=>by
  rw[<-j];exact(p_ W P f o c t l (h.below s) g).mono λe w' ⟨a,b,d⟩=>⟨a,b,(em s).trans d⟩
 have u:¬(12:Int)<y.size:=by omega
 have h1:=zW;clear h j m hk i n;go_enter Tryz.func93,Tryz.ntmps93
 go_wp2_with(first
  |(go_at_call 59;refine q.mono ?_;rintro e w1 ⟨rfl,s⟩;have v:Hid (∀A:Obj,az w (w1.alloc A)):=(λA=>s.alloc s.size A);clear s)
  |(go_at_call 147;refine(r _ (v _)).mono ?_;rintro e x ⟨rfl,z,B⟩;have C:Hid (PS x P f (o+3) (c-1) l):=z;have D:Hid (Gr P w x):=B;clear z B))
 go_ret;exact⟨rfl,C,D⟩
theorem BO(w:jW)(P d o c:Nat)(t:eD)(l:List eD)(h:PS w P d o c (t::l))(f:Int)(hk:(t.k≠0/\f=3)\/(t.k=0/\12<t.t.length/\f=4))(g:t.t.length<1000000000):
  aA 93 #[jP P] w λe w'=>fQ f t.p e w'/\az w w':=by
 obtain⟨y,i,j⟩:=fU t.t;have m:y.size=t.t.length:=by rw[<-j];simp
 have n:=jI (iI w P d o c t l h y i);have q:Hid (∀W k,az w W->aA 60 #[jP P,jV k] W λe w'=>(∃a,e=jR (jP a)/\w'.heap[a]?=some (jC #[jV k,jV (t.p:Int)] 139))/\az w w'):=λW k r=>(kZ W P d o c t l (h.below r) k).mono λe w' ⟨a,b⟩=>⟨a,r.trans (b.mono r.size)⟩;have h1:=zW;clear h i j;rcases hk with⟨hk,rfl⟩|⟨hk,s,rfl⟩
 ·have u:((t.k:Int) !=0)=true:=by simp;omega
  clear hk g m;go_enter Tryz.func93,Tryz.ntmps93
  go_wp2_with(first
   |(go_at_call 59;refine n.mono ?_;rintro e w1 ⟨rfl,r⟩;have v:Hid (∀A:Obj,az w (w1.alloc A)):=(λA=>r.alloc r.size A);clear r)
   |(go_at_call 60;refine(q _ _ (v _)).mono ?_;rintro e x ⟨⟨a,rfl,z⟩,r⟩;have B:Hid (x.heap[a]?=some (jC #[jV 3,jV (t.p:Int)] 139)):=z;have C:Hid (az w x):=r;clear z r))
  exact⟨rfl,⟨a,rfl,B⟩,C⟩
 ·have u:((t.k:Int) !=0)=false:=by rw[hk];rfl
  have D:(12:Int)<y.size:=by omega
  clear hk s g m;go_enter Tryz.func93,Tryz.ntmps93
  go_wp2_with(first
   |(go_at_call 59;refine n.mono ?_;rintro e w1 ⟨rfl,r⟩;have v:Hid (∀A:Obj,az w (w1.alloc A)):=(λA=>r.alloc r.size A);clear r)
   |(go_at_call 60;refine(q _ _ (v _)).mono ?_;rintro e x ⟨⟨a,rfl,z⟩,r⟩;have B:Hid (x.heap[a]?=some (jC #[jV 4,jV (t.p:Int)] 139)):=z;have C:Hid (az w x):=r;clear z r))
  exact⟨rfl,⟨a,rfl,B⟩,C⟩
abbrev Sw:jE:=gA.flatMap λx=>[str x.1,jV (x.2:Int)]
theorem Cn(j:Nat)(a:j<13)(W:jW):(Instr.index 289 (.agg Sw.toArray) (jV (j:Int))).run Tryz.prog W= .ok (.agg #[str (gA.getD j ([],0)).1,jV ((gA.getD j ([],0)).2:Int)]) W:=by
 have hc:j=0\/j=1\/j=2\/j=3\/j=4\/j=5\/j=6\/j=7\/j=8\/j=9\/j=10\/j=11\/j=12:=by omega
 rcases hc with rfl|rfl|rfl|rfl|rfl|rfl|rfl|rfl|rfl|rfl|rfl|rfl|rfl<;>rfl
theorem Co:∀(l:List (By×Nat)) (m:By),(∃a,a<l.length/\(l.getD a ([],0)).1=m/\(∀j,j<a->(l.getD j ([],0)).1≠m)/\((l.find? (·.1==m)).map (·.2)).getD 0=(l.getD a ([],0)).2)\/((∀j,j<l.length->(l.getD j ([],0)).1≠m)/\((l.find? (·.1==m)).map (·.2)).getD 0=0)
 |[],m=> .inr ⟨λj b=>by simp at b,rfl⟩
 |x::l,m=>by
  by_cases c:x.1=m
  ·refine .inl ⟨0,by simp,c,λj b=>by omega,?_⟩;rw[bX];simp[c]
  ·have d:(x.1==m)=false:=by simpa using c
   rcases Co l m with⟨a,h1,h2,e,f⟩|⟨h1,h2⟩
   ·refine .inl ⟨a+1,by simp;omega,by simpa using h2,λj b=>?_,?_⟩
    ·cases j with
     |zero=>simpa using c
     |succ j=>simpa using e j (by omega)
    ·rw[bX,d];simpa using f
   ·refine .inr ⟨λj b=>?_,?_⟩
    ·cases j with
     |zero=>simpa using c
     |succ j=>simpa using h1 j (by simpa using b)
    ·rw[bX,d];exact h2
theorem Hz(m:ByteArray)(w:jW)(a:oF w):
  aA 152 #[jT m] w λe w'=>e=jR (jV (fT m.data.toList:Nat))/\az w w':=by
 have c:=jI a.pairs;have d:∃J,J<=13/\(∀j,j<J->(gA.getD j ([],0)).1≠m.data.toList)/\(J<13->(gA.getD J ([],0)).1=m.data.toList/\fT m.data.toList=(gA.getD J ([],0)).2)/\(J=13->fT m.data.toList=0):=by
  rcases Co gA m.data.toList with⟨J,h1,h2,f,g⟩|⟨h1,h2⟩
  ·exact⟨J,aL h1,f,λ_=>⟨h2,g⟩,λe=>by have:J<13:=h1;omega⟩
  ·exact⟨13,aD _,h1,λh=>by omega,λ_=>h2⟩
 obtain⟨J,k,l,n,o⟩:=d;obtain⟨p,q,r⟩:=j3 l n o;clear a l n o;go_enter Tryz.func152,Tryz.ntmps152
 go_wp2_with(refine wpList_load_mid rfl 289 _ rfl 6 0 rfl _ _ c Tryz.underlying289 rfl (by kernel_rfl) ?_)
 go_loopw [6] (λi wr=>∃j:Nat,j<=J/\i=jV j/\Hid (az w wr)) (λi _=>13-(intOf i).toNat)
 case atStart=>exact⟨0,aQ _,rfl,aJ _ _⟩
 case round=>
  obtain⟨j,t,rfl,u⟩:=hrel;by_cases v:j<J
  ·have x:j<13:=by omega
   have z:=Cn j x;obtain⟨y,A,B⟩:=fU (gA.getD j ([],0)).1;rw[A]at z;have C:=ox (b:=y) (s:=m) (λe=>p j v (by rw[<-B,e]));clear A B;generalize ((gA.getD j ([],0)).2:Int)=nr at*;go_wp2;exact⟨⟨j+1,by omega,by go_num,u.alloc u.size _⟩,by simp[intOf];omega⟩
  ·obtain rfl:j=J:=by omega
   by_cases x:j<13
   ·have z:=Cn j x;obtain⟨h1,h2⟩:=q x;have A:str (gA.getD j ([],0)).1=jT m:=by rw[h1]
    have D:Hid ((fT m.data.toList:Int)=((gA.getD j ([],0)).2:Int)):=by show _=_;rw[h2]
    rw[A]at z;clear A h1 h2;generalize ((gA.getD j ([],0)).2:Int)=nr at*;go_wp2;go_ret;exact⟨rX D.symm,u.alloc u.size _⟩
   ·obtain rfl:j=13:=by omega
    have D:Hid (fT m.data.toList=0):=r rfl;go_wp2;go_ret;exact⟨rX (by rw[D.out];rfl),u⟩
theorem PS.gr{l:List eD}(h:PS w P a o c l)(b:az w w'):PS w' P a o c l/\Gr P w w':=⟨h.below b,em b⟩
theorem Ar(w:jW)(P a o c:Nat)(t:eD)(l:List eD)(h:PS w P a o c (t::l))(b:1<=l.length)(d:t.t=[44]):
  aA 95 #[jP P] w λe w'=>e=jR (.bool true)/\PS w' P a (o+3) (c-1) l/\Gr P w w':=by
 have f:Hid (aA 94 #[jP P,jT ⟨#[44]⟩] w λe w'=>e=jR (.bool true)/\PS w' P a (o+3) (c-1) l/\Gr P w w'):=mR w P a o c t l h b _ d;clear h d;go_enter Tryz.func95,Tryz.ntmps95
 go_wp2_with(go_at_call 94;refine f.mono ?_;rintro e g ⟨rfl,i,j⟩;have k:Hid (PS g P a (o+3) (c-1) l):=i;have m:Hid (Gr P w g):=j;clear i j)
 go_ret;exact⟨rfl,k,m⟩
theorem HL(w:jW)(P f o c:Nat)(t:eD)(l:List eD)(h:PS w P f o c (t::l))(g:1<=l.length)(i:t.t=[41]):
  aA 95 #[jP P] w λe w'=>e=jR (.bool false)/\PS w' P f (o+3) (c-1) l/\Gr P w w':=by
 have j:Hid (aA 94 #[jP P,jT ⟨#[44]⟩] w λe w'=>e=jR (.bool false)/\az w w'):=mC w P f o c t l h _ (by rw[i];decide);have k:Hid (∀W,az w W->aA 92 #[jP P,jT ⟨#[41]⟩] W λe w'=>e=jR (.tuple #[])/\PS w' P f (o+3) (c-1) l/\Gr P w w'):=λW m=>(nZ W P f o c t l (h.below m) g _ i).mono λe w' ⟨a,b,d⟩=>⟨a,b,(em m).trans d⟩;clear h i;go_enter Tryz.func95,Tryz.ntmps95
 go_wp2_with(first
  |(go_at_call 94;refine j.mono ?_;rintro e w1 ⟨rfl,m⟩;have n:Hid (az w w1):=m;clear m)
  |(go_at_call 92;refine(k _ n).mono ?_;rintro e p ⟨rfl,q,r⟩;have s:Hid (PS p P f (o+3) (c-1) l):=q;have u:Hid (Gr P w p):=r;clear q r))
 go_ret;exact⟨rfl,s,u⟩
theorem Lu(w:jW)(P d o c:Nat)(t:eD)(l:List eD)(h:PS w P d o c (t::l))(h1:t.t≠[44])(h2:t.t≠[41]):
  aA 95 #[jP P] w λe w'=>fQ 3 t.p e w'/\az w w':=by
 have f:Hid (aA 94 #[jP P,jT ⟨#[44]⟩] w λe w'=>e=jR (.bool false)/\az w w'):=mC w P d o c t l h _ h1;have g:Hid (∀W,az w W->aA 92 #[jP P,jT ⟨#[41]⟩] W λe w'=>fQ 3 t.p e w'/\az w w'):=λW i=>(v_ W P d o c t l (h.below i) _ h2).mono λe w' ⟨a,b⟩=>⟨a,i.trans (b.mono i.size)⟩;clear h h1 h2;go_enter Tryz.func95,Tryz.ntmps95
 go_wp2_with(first
  |(go_at_call 94;refine f.mono ?_;rintro e w1 ⟨rfl,i⟩;have j:Hid (az w w1):=i;clear i)
  |(go_at_call 92;refine(g _ j).mono ?_;rintro e k ⟨⟨a,rfl,m⟩,i⟩;have n:Hid (k.heap[a]?=some (jC #[jV 3,jV (t.p:Int)] 139)):=m;have q:Hid (az w k):=i;clear m i))
 exact⟨rfl,⟨a,rfl,n⟩,q⟩
theorem Au(w:jW)(P f o c:Nat)(t:eD)(l:List eD)(h:PS w P f o c (t::l))(g:1<=l.length)(i:t.t.length<1000000000)(v:Int)(j:Lib.parseIntB 64 t.t= .ok v):
  aA 259 #[jP P] w λe w'=>e=jR (jV v)/\PS w' P f (o+3) (c-1) l/\Gr P w w':=by
 obtain⟨y,m,n⟩:=fU t.t;have q:y.size=t.t.length:=by rw[<-n];simp
 have r:=jI (iI w P f o c t l h y m);have s:Hid (∀W,az w W->aA 260 #[jT y,jV 10,jV 64] W λe w'=>e=jR (.tuple #[jV v,.nilIface])/\az w w'):=λW u=>
  (Tryz.strconv_ParseInt_10_at64_ok y (by omega) v (by rw[n];exact j) W).mono λe w' ⟨a,b⟩=>⟨a,by
   rcases b with b|⟨t,b⟩
   ·rw[b];exact u
   ·rw[b];exact u.trans ((Lib.bytesWorld_below _ _ _).mono u.size)⟩
 have x:Hid (∀W,az w W->aA 147 #[jP P] W λe w'=>e=jR (.agg #[jV (t.k:Int),jT y,jV (t.p:Int)])/\PS w' P f (o+3) (c-1) l/\Gr P w w'):=λW u=>by
  rw[<-m];exact(p_ W P f o c t l (h.below u) g).mono λe w' ⟨a,b,d⟩=>⟨a,b,(em u).trans d⟩
 have h1:=zW;clear h m n q j;go_enter Tryz.func259,Tryz.ntmps259
 go_wp2_with(first
  |(go_at_call 59;refine r.mono ?_;rintro e w1 ⟨rfl,u⟩;have z:Hid (az w w1):=u;clear u)
  |(go_at_call 260;refine(s _ z).mono ?_;rintro e A ⟨rfl,u⟩;have B:Hid (az w A):=u;clear u)
  |(go_at_call 147;refine(x _ B).mono ?_;rintro e C ⟨rfl,D,E⟩;have F:Hid (PS C P f (o+3) (c-1) l):=D;have G:Hid (Gr P w C):=E;clear D E))
 go_ret;exact⟨rfl,F,G⟩
theorem DC(w:jW)(d:oF w)(P f o c:Nat)(t:eD)(l:List eD)(h:PS w P f o c (t::l))(g:t.t.length<1000000000)(i:∀v,Lib.parseIntB 64 t.t≠.ok v):
  aA 259 #[jP P] w λe w'=>fQ 4 t.p e w'/\az w w':=by
 obtain⟨y,j,k⟩:=fU t.t;have m:y.size=t.t.length:=by rw[<-k];simp
 have n:=jI (iI w P f o c t l h y j);have r:Hid (∀W,az w W->aA 260 #[jT y,jV 10,jV 64] W λe w'=>(∃(x:Int)(s:Nat),e=jR (.tuple #[jV x,.iface 330 (jP s)]))/\az w w'):=λW u=>by
  have z:=d.below u;rcases hp:Lib.parseIntB 64 y.data.toList with v|_|_
  ·exact absurd (by rw[<-k];exact hp) (i v)
  ·obtain⟨A,q,B⟩:=z.syn;exact(Tryz.strconv_ParseInt_10_at64_syntax_var y (by omega) hp A q W B).mono λe w' ⟨s,a,_,_,b⟩=>⟨⟨_,s,a⟩,u.trans (b.mono u.size)⟩
  ·obtain⟨A,q,B⟩:=z.rng;exact(Tryz.strconv_ParseInt_10_at64_range_var y (by omega) hp A q W B).mono λe w' ⟨s,a,_,_,b⟩=>⟨⟨_,s,a⟩,u.trans (b.mono u.size)⟩
 have C:Hid (∀W,az w W->aA 60 #[jP P,jV 4] W λe w'=>(∃a,e=jR (jP a)/\w'.heap[a]?=some (jC #[jV 4,jV (t.p:Int)] 139))/\az w w'):=λW u=>(kZ W P f o c t l (h.below u) 4).mono λe w' ⟨a,b⟩=>⟨a,u.trans (b.mono u.size)⟩;have h1:=zW;clear h j k m i d;go_enter Tryz.func259,Tryz.ntmps259
 go_wp2_with(first
  |(go_at_call 59;refine n.mono ?_;rintro e w1 ⟨rfl,u⟩;have D:Hid (az w w1):=u;clear u)
  |(go_at_call 260;refine(r _ D).mono ?_;rintro e E ⟨⟨x,s,rfl⟩,u⟩;have F:Hid (az w E):=u;clear u)
  |(go_at_call 60;refine(C _ F).mono ?_;rintro e G ⟨⟨a,rfl,H⟩,u⟩;have I:Hid (G.heap[a]?=some (jC #[jV 4,jV (t.p:Int)] 139)):=H;have J:Hid (az w G):=u;clear H u))
 exact⟨rfl,⟨a,rfl,I⟩,J⟩
end Go.Proofs.YtnfhpdbbfejioaaGreatDoor
namespace Go.Proofs.YtnfhpdbbfejioaaGreatDoor
open Go
abbrev Tr:=DataW Unit
abbrev nd(c a n:Int)(nm b:By)(l r g:Tr):Tr:= .agg [.lit (.int .i64 c),.lit (.int .i64 a),.lit (.int .i64 n),.lit (.string nm),.lit (.string b),l,r,g]
abbrev ce:Tr:= .slice [] []
abbrev cc(x g:Tr):Tr:= .slice [x] [g]
def chain:List Tr->Tr
 |[]=>ce
 |x::l=>cc x (chain l)
abbrev R(α:Type):=Except (Int×Nat) (α×List eD)
def hd(l:List eD):eD:=l.headD ⟨3,[],0⟩
def eC(x:By)(l:List eD):R Unit:=if(hd l).t=x then .ok ((),l.tail) else .error (3,(hd l).p)
def im(l:List eD):R By:=if(hd l).k≠0 then .error (3,(hd l).p) else if 12<(hd l).t.length then .error (4,(hd l).p) else .ok ((hd l).t,l.tail)
def mD(l:List eD):R Int:=
 match Lib.parseIntB 64 (hd l).t with
 | .ok v=> .ok (v,l.tail)
 |_=> .error (4,(hd l).p)
def l8(d:Nat)(l:List eD):R Unit:=if 12<d/\(hd l).k≠3 then .error (4,(hd l).p) else .ok ((),l)
def eT{α β:Type}(x:R α)(f:α->List eD->R β):R β:=
 match x with
 | .error e=> .error e
 | .ok (a,l)=>f a l
def eW:Nat->Nat->Nat->Nat->Tr->Nat->List eD->R Tr
 |0,_,_,_,_,_,_=> .error (0,0)
 |f+1,0,a,d,_,_,l=>if 6<a then eW f 2 0 d .nil 0 l else eT (eW f 0 (a+1) d .nil 0 l) λy b=>eW f 1 a d y (hd l).p b
 |f+1,1,a,d,x,p,l=>if fT (hd l).t=a then eT (eW f 0 (a+1) d .nil 0 l.tail) λy b=>eW f 1 a d (nd 3 p 0 [] (hd l).t x y ce) p b else .ok (x,l)
 |f+1,2,_,d,_,_,l=>eT (l8 d l) λ_ _=>
   if(hd l).t=[45]\/(hd l).t=[33] then eT (eW f 2 0 (d+1) .nil 0 l.tail) λy b=> .ok (nd 4 (hd l).p 0 [] (hd l).t y .nil ce,b)
   else eT (eW f 4 0 d .nil 0 l) λy b=>eW f 3 0 d y (hd l).p b
 |f+1,3,_,d,x,p,l=>if(hd l).t=[91] then eT (eW f 6 0 d .nil 0 l.tail) λy b=>eW f 3 0 d (nd 8 p 0 [] [] x y ce) p b else .ok (x,l)
 |f+1,4,_,d,_,_,l=>
   if(hd l).k=2 then eT (mD l) λv b=> .ok (nd 1 (hd l).p v [] [] .nil .nil ce,b)
   else if(hd l).k=0 then eT (im l) λnm b=>
    if(hd b).t=[40] then
     (if(hd b.tail).t=[41] then .ok (nd 5 (hd l).p 0 nm [] .nil .nil ce,b.tail.tail)
      else eT (eW f 7 0 d ce 0 b.tail) λg c=> .ok (nd 5 (hd l).p 0 nm [] .nil .nil g,c))
    else .ok (nd 2 (hd l).p 0 nm [] .nil .nil ce,b)
   else if(hd l).t=[110,101,119] then eT (eW f 5 0 d .nil 0 l.tail) λy b=> .ok (nd 6 (hd l).p 0 [] [] y .nil ce,b)
   else if(hd l).t=[108,101,110] then eT (eW f 5 0 d .nil 0 l.tail) λy b=> .ok (nd 7 (hd l).p 0 [] [] y .nil ce,b)
   else if(hd l).t=[105,110,112,117,116] then eT (eC [40] l.tail) λ_ b=>eT (eC [41] b) λ_ c=> .ok (nd 9 (hd l).p 0 [] [] .nil .nil ce,c)
   else eW f 5 0 d .nil 0 l
 |f+1,5,_,d,_,_,l=>eT (eC [40] l) λ_ b=>eT (eW f 0 1 (d+1) .nil 0 b) λy c=>eT (eC [41] c) λ_ e=> .ok (y,e)
 |f+1,6,_,d,_,_,l=>eT (eW f 0 1 (d+1) .nil 0 l) λy b=>eT (eC [93] b) λ_ c=> .ok (y,c)
 |f+1,7,_,d,x,_,l=>eT (eW f 0 1 (d+1) .nil 0 l) λy b=>
   if(hd b).t=[44] then eT (eW f 7 0 d ce 0 b.tail) λg c=> .ok (cc y g,c)
   else eT (eC [41] b) λ_ c=> .ok (cc y ce,c)
 |_+1,_+8,_,_,_,_,_=> .error (0,0)
def fL(l:List eD):Prop:=∃a e,l=a++[e]/\e.k=3/\e.t=[]/\∀x∈a,x.k≠3/\x.t≠[]/\x.t.length<=1000000
theorem fL.pos{l:List eD}(h:fL l):1<=l.length:=by
 obtain⟨a,e,rfl,_⟩:=h;simp
theorem fL.tail{l:List eD}(h:fL l)(hk:(hd l).t≠[]):fL l.tail/\1<=l.tail.length/\l=hd l::l.tail/\l.tail.length<l.length:=by
 obtain⟨a,e,rfl,h1,h2,b⟩:=h;cases a with
 |nil=>exact absurd h2 hk
 |cons x a=>exact⟨⟨a,e,rfl,h1,h2,λy c=>b y (b9 _ c)⟩,by simp,rfl,by simp⟩
theorem fL.cons{l:List eD}(h:fL l):l=hd l::l.tail:=by
 obtain⟨a,e,rfl,_⟩:=h;cases a<;>rfl
theorem fL.kind{l:List eD}(h:fL l)(hk:(hd l).k≠3):(hd l).t≠[]:=by
 obtain⟨a,e,rfl,h1,h2,b⟩:=h;cases a with
 |nil=>exact absurd h1 hk
 |cons x a=>exact(b x (by simp)).2.1
theorem fL.short{l:List eD}(h:fL l):(hd l).t.length<=1000000:=by
 obtain⟨a,e,rfl,h1,h2,b⟩:=h;cases a with
 |nil=>show e.t.length<=_;rw[h2];simp
 |cons x a=>exact(b x (by simp)).2.2
theorem ee{α b:Type}{x:R α}{f:α->List eD->R b}{r:b×List eD}(h:eT x f= .ok r):∃a l,x= .ok (a,l)/\f a l= .ok r:=by
 unfold eT at h;split at h
 ·cases h
 ·exact⟨_,_,rfl,h⟩
theorem io{x:By}{l a:List eD}{u:Unit}(h:eC x l= .ok (u,a)):(hd l).t=x/\a=l.tail:=by
 unfold eC at h;split at h
 ·rename_i e;injection h with h;injection h with _ h;exact⟨e,h.symm⟩
 ·cases h
theorem r9{l a:List eD}{v:By}(h:im l= .ok (v,a)):(hd l).k=0/\v=(hd l).t/\v.length<=12/\a=l.tail:=by
 unfold im at h;split at h
 ·cases h
 ·split at h
  ·cases h
  ·rename_i h1 h2;injection h with h;injection h with h3 h4;subst h3;subst h4;exact⟨by simpa using h1,rfl,by omega,rfl⟩
theorem GL{l a:List eD}{v:Int}(h:mD l= .ok (v,a)):Lib.parseIntB 64 (hd l).t= .ok v/\a=l.tail:=by
 unfold mD at h;split at h
 ·rename_i e;injection h with h;injection h with h1 h2;subst h1;subst h2;exact⟨e,rfl⟩
 ·cases h
theorem fj:∀(f g o d:Nat)(x:Tr)(p:Nat)(l:List eD)(t:Tr)(i:List eD),(g<=1->1<=o)->fL l->eW f g o d x p l= .ok (t,i)->fL i/\i.length<=l.length/\(g≠1->g≠3->i.length<l.length)
 |0,_,_,_,_,_,_,_,_,_,_,h=>by simp[eW]at h
 |f+1,0,o,d,x,p,l,t,i,u,a,h=>by
  rw[eW]at h;split at h
  ·obtain⟨h1,h2,c⟩:=fj f 2 0 d .nil 0 l t i (λh=>by omega) a h;exact⟨h1,h2,λ_ _=>c (by decide) (by decide)⟩
  ·obtain⟨y,e,h1,h2⟩:=ee h;obtain⟨b,r,q⟩:=fj f 0 (o+1) d .nil 0 l y e (λ_=>by omega) a h1;obtain⟨A,K,I⟩:=fj f 1 o d y (hd l).p e t i (λ_=>u (by omega)) b h2;have:=q (by decide) (by decide);exact⟨A,by omega,λ_ _=>by omega⟩
 |f+1,1,o,d,x,p,l,t,i,u,a,h=>by
  rw[eW]at h;split at h
  ·rename_i n;obtain⟨y,e,h1,h2⟩:=ee h;by_cases hk:(hd l).t=[]
   ·rw[hk]at n;have W:fT []=0:=by decide
    have:=u (by omega);omega
   ·obtain⟨k,D,C,z⟩:=a.tail hk;obtain⟨b,r,q⟩:=fj f 0 (o+1) d .nil 0 l.tail y e (λ_=>by omega) k h1;obtain⟨A,K,I⟩:=fj f 1 o d _ p e t i (λ_=>u (by omega)) b h2;exact⟨A,by omega,λh=>absurd rfl h⟩
  ·injection h with h;injection h with h1 h2;subst h2;exact⟨a,aD _,λh=>absurd rfl h⟩
 |f+1,2,o,d,x,p,l,t,i,u,a,h=>by
  rw[eW]at h;obtain⟨_,_,Y,h⟩:=ee h;split at h
  ·rename_i n;obtain⟨y,e,h1,h2⟩:=ee h;have hk:(hd l).t≠[]:=by rcases n with n|n<;>rw[n]<;>simp
   obtain⟨k,D,C,z⟩:=a.tail hk;obtain⟨b,r,q⟩:=fj f 2 0 (d+1) .nil 0 l.tail y e (λh=>by omega) k h1;injection h2 with h2;injection h2 with h2 c;subst c;exact⟨b,by omega,λ_ _=>by omega⟩
  ·obtain⟨y,e,h1,h2⟩:=ee h;obtain⟨b,r,q⟩:=fj f 4 0 d .nil 0 l y e (λh=>by omega) a h1;obtain⟨A,K,I⟩:=fj f 3 0 d y (hd l).p e t i (λh=>by omega) b h2;have:=q (by decide) (by decide);exact⟨A,by omega,λ_ _=>by omega⟩
 |f+1,3,o,d,x,p,l,t,i,u,a,h=>by
  rw[eW]at h;split at h
  ·rename_i n;obtain⟨y,e,h1,h2⟩:=ee h;obtain⟨k,D,C,z⟩:=a.tail (by rw[n];simp);obtain⟨b,r,q⟩:=fj f 6 0 d .nil 0 l.tail y e (λh=>by omega) k h1;obtain⟨A,K,I⟩:=fj f 3 0 d _ p e t i (λh=>by omega) b h2;exact⟨A,by omega,λ_ h=>absurd rfl h⟩
  ·injection h with h;injection h with h1 h2;subst h2;exact⟨a,aD _,λ_ h=>absurd rfl h⟩
 |f+1,4,o,d,x,p,l,t,i,u,a,h=>by
  rw[eW]at h;split at h
  ·rename_i hk;obtain⟨v,e,h1,h2⟩:=ee h;obtain⟨_,rfl⟩:=GL h1;obtain⟨k,D,C,z⟩:=a.tail (a.kind (by omega));injection h2 with h2;injection h2 with h2 c;subst c;exact⟨k,by omega,λ_ _=>z⟩
  ·split at h
   ·rename_i S hk;obtain⟨nm,e,h1,h2⟩:=ee h;obtain⟨_,_,_,rfl⟩:=r9 h1;obtain⟨k,D,C,z⟩:=a.tail (a.kind (by omega));split at h2
    ·rename_i M;obtain⟨J,Q,V,T⟩:=k.tail (by rw[M];simp);split at h2
     ·rename_i L;obtain⟨s,H,F,G⟩:=J.tail (by rw[L];simp);injection h2 with h2;injection h2 with h2 c;subst c;exact⟨s,by omega,λ_ _=>by omega⟩
     ·obtain⟨O,B,c,m⟩:=ee h2;obtain⟨b,r,q⟩:=fj f 7 0 d ce 0 l.tail.tail O B (λh=>by omega) J c;injection m with m;injection m with m w;subst w;exact⟨b,by omega,λ_ _=>by omega⟩
    ·injection h2 with h2;injection h2 with h2 c;subst c;exact⟨k,by omega,λ_ _=>z⟩
   ·split at h
    ·rename_i n;obtain⟨y,e,h1,h2⟩:=ee h;obtain⟨k,D,C,z⟩:=a.tail (by rw[n];simp);obtain⟨b,r,q⟩:=fj f 5 0 d .nil 0 l.tail y e (λh=>by omega) k h1;injection h2 with h2;injection h2 with h2 c;subst c;exact⟨b,by omega,λ_ _=>by omega⟩
    ·split at h
     ·rename_i n;obtain⟨y,e,h1,h2⟩:=ee h;obtain⟨k,D,C,z⟩:=a.tail (by rw[n];simp);obtain⟨b,r,q⟩:=fj f 5 0 d .nil 0 l.tail y e (λh=>by omega) k h1;injection h2 with h2;injection h2 with h2 c;subst c;exact⟨b,by omega,λ_ _=>by omega⟩
     ·split at h
      ·rename_i n;obtain⟨k,D,C,z⟩:=a.tail (by rw[n];simp);obtain⟨_,e,h1,h2⟩:=ee h;obtain⟨N,rfl⟩:=io h1;obtain⟨J,Q,V,T⟩:=k.tail (by rw[N];simp);obtain⟨_,B,c,m⟩:=ee h2;obtain⟨E,rfl⟩:=io c;obtain⟨s,H,F,G⟩:=J.tail (by rw[E];simp);injection m with m;injection m with m w;subst w;exact⟨s,by omega,λ_ _=>by omega⟩
      ·obtain⟨b,r,q⟩:=fj f 5 0 d .nil 0 l t i (λh=>by omega) a h;exact⟨b,r,λ_ _=>q (by decide) (by decide)⟩
 |f+1,5,o,d,x,p,l,t,i,u,a,h=>by
  rw[eW]at h;obtain⟨_,e,h1,h2⟩:=ee h;obtain⟨N,rfl⟩:=io h1;obtain⟨k,D,C,z⟩:=a.tail (by rw[N];simp);obtain⟨y,B,c,m⟩:=ee h2;obtain⟨b,r,q⟩:=fj f 0 1 (d+1) .nil 0 l.tail y B (λ_=>by omega) k c;obtain⟨_,P,w,j⟩:=ee m;obtain⟨E,rfl⟩:=io w;obtain⟨s,H,F,G⟩:=b.tail (by rw[E];simp);injection j with j;injection j with j h7;subst h7;exact⟨s,by omega,λ_ _=>by omega⟩
 |f+1,6,o,d,x,p,l,t,i,u,a,h=>by
  rw[eW]at h;obtain⟨y,B,c,m⟩:=ee h;obtain⟨b,r,q⟩:=fj f 0 1 (d+1) .nil 0 l y B (λ_=>by omega) a c;obtain⟨_,P,w,j⟩:=ee m;obtain⟨E,rfl⟩:=io w;obtain⟨s,H,F,G⟩:=b.tail (by rw[E];simp);injection j with j;injection j with j h7;subst h7;exact⟨s,by omega,λ_ _=>by omega⟩
 |f+1,7,o,d,x,p,l,t,i,u,a,h=>by
  rw[eW]at h;obtain⟨y,B,c,m⟩:=ee h;obtain⟨b,r,q⟩:=fj f 0 1 (d+1) .nil 0 l y B (λ_=>by omega) a c;split at m
  ·rename_i n;obtain⟨s,H,F,G⟩:=b.tail (by rw[n];simp);obtain⟨O,U,w,j⟩:=ee m;obtain⟨A,K,I⟩:=fj f 7 0 d ce 0 B.tail O U (λh=>by omega) s w;injection j with j;injection j with j h7;subst h7;exact⟨A,by omega,λ_ _=>by omega⟩
  ·obtain⟨_,P,w,j⟩:=ee m;obtain⟨E,rfl⟩:=io w;obtain⟨s,H,F,G⟩:=b.tail (by rw[E];simp);injection j with j;injection j with j h7;subst h7;exact⟨s,by omega,λ_ _=>by omega⟩
 |f+1,g+8,o,d,x,p,l,t,i,u,a,h=>by simp[eW]at h
end Go.Proofs.YtnfhpdbbfejioaaGreatDoor
namespace Go.Proofs.YtnfhpdbbfejioaaGreatDoor
open Go Go.RowKit
variable {S:Nat->Prop}{w w':jW}{v:jU}{n P:Nat}
def ej(S:Nat->Prop)(w:jW):Tr->jU->Prop
 | .agg [.lit (.int _ c),.lit (.int _ a),.lit (.int _ n),.lit (.string nm),.lit (.string d),l,r,g],v=>
  ∃(b:Nat)(vl vr e:jU)(f:jE),S b/\v=jP b/\w.heap[b]?=some (jC #[jV c,jV a,jV n,str nm,str d,vl,vr,e] 252)/\ej S w l vl/\ej S w r vr/\w.ownsRow 0 145 1 e f.length f/\(∀i,e.ownBlock=some i->S i)/\ej S w g (.tuple f.toArray)
 | .slice [x] [g],v=>∃(y:jU)(f:jE),v= .tuple (y::f).toArray/\ej S w x y/\ej S w g (.tuple f.toArray)
 | .slice [] [],v=>v= .tuple #[]
 | .nil,v=>v=jQ none
 |_,_=>False
abbrev Fr(n:Nat):Nat->Prop:=λb=>n<=b
theorem xt(h1:∀(b:Nat)(cs:Array Value)(t:TypeId),S b->t=252\/t=145->w.heap[b]?=some (.cells cs t)->w'.heap[b]?=some (.cells cs t)){ys:jE}(h:w.ownsRow 0 145 1 v n ys)(a:∀i,v.ownBlock=some i->S i):w'.ownsRow 0 145 1 v n ys:=by
 refine⟨h.1,?_⟩;rcases h.2 with c|⟨g',d,e,f,g,j,k⟩
 ·exact .inl c
 ·exact .inr ⟨g',d,e,f,g,h1 _ _ _ (a g' (by rw[f];rfl)) (.inr rfl) j,k⟩
theorem ej.kept(h1:∀(b:Nat)(cs:Array Value)(t:TypeId),S b->t=252\/t=145->w.heap[b]?=some (.cells cs t)->w'.heap[b]?=some (.cells cs t))(t:Tr)(v:jU)(h:ej S w t v):ej S w' t v:=by
 unfold ej at h;split at h
 ·obtain⟨b,vl,vr,a,c,d,e,f,g,i,j,k,l⟩:=h;rw[ej];exact⟨b,vl,vr,a,c,d,e,h1 _ _ _ d (.inl rfl) f,ej.kept h1 _ _ g,ej.kept h1 _ _ i,xt h1 j k,k,ej.kept h1 _ _ l⟩
 ·obtain⟨y,c,e,f,g⟩:=h;rw[ej];exact⟨y,c,e,ej.kept h1 _ _ f,ej.kept h1 _ _ g⟩
 ·rw[ej];exact h
 ·rw[ej];exact h
 ·exact h.elim
theorem ej.mono{a:Nat->Prop}(h1:∀b,S b->b<w.heap.size->a b)(t:Tr)(v:jU)(h:ej S w t v):ej a w t v:=by
 unfold ej at h;split at h
 ·obtain⟨b,vl,vr,c,d,e,f,g,j,k,l,m,n⟩:=h;rw[ej];exact⟨b,vl,vr,c,d,h1 _ e (aC.1 g).1,f,g,ej.mono h1 _ _ j,ej.mono h1 _ _ k,l,λi o=>h1 _ (m i o) (lT l i o),ej.mono h1 _ _ n⟩
 ·obtain⟨y,d,f,g,j⟩:=h;rw[ej];exact⟨y,d,f,ej.mono h1 _ _ g,ej.mono h1 _ _ j⟩
 ·rw[ej];exact h
 ·rw[ej];exact h
 ·exact h.elim
theorem ej.old{m:Nat}{t:Tr}(h:ej (Fr m) w t v)(a:n<=m):ej (Fr n) w t v:=ej.mono (λb c _=>aP a c) t v h
theorem xu{cs:Array Value}(a:w.heap[P]?=some (.cells cs 78))(h:Gr P w w')(b:Nat)(ds:Array Value)(t:TypeId)(c:t=252\/t=145)(d:w.heap[b]?=some (.cells ds t)):w'.heap[b]?=some (.cells ds t):=by
 have f:some b≠some P:=λe=>by
  injection e with e;subst e;rw[a]at d;injection d with d;injection d with _ h2;rcases c with rfl|rfl<;>exact absurd h2 (by decide)
 rw[h.block b (aC.1 d).1 f];exact d
theorem Qb:Tryz.prog.globalNamed "strconv.ErrSyntax" =some 12:=by kernel_rfl
theorem Lt:Tryz.prog.globalNamed "strconv.ErrRange" =some 13:=by kernel_rfl
theorem oF.gr(h:oF w)(f:Gr P w w')(i:14<=P):oF w':=by
 obtain⟨m,k⟩:=h.max;obtain⟨a,b,l⟩:=h.syn;obtain⟨c,d,n⟩:=h.rng;have p:∀x o v,x<14->w.cell? (jB x o)=some v->w'.cell? (jB x o)=some v:=λx o v q r=>f.cell r (by intro e;injection e with e;have:x=P:=e;omega);have s:∀(nm:String)(g:Nat)(cs:Array Value),g<14->Tryz.prog.globalNamed nm=some g->w.var? Tryz.prog nm=some cs->w'.var? Tryz.prog nm=some cs:=λnm g cs t u r=>by
  unfold World.var? at*;simp only[u,cJ]at r⊢;have y:g<w.heap.size:=by
   rcases bG g w.heap.size with h1|h1
   ·exact h1
   ·rw[bH h1]at r;simp at r
  rw[f.block g y (by intro e;injection e with e;omega)];exact r
 exact⟨⟨m,p _ _ _ (by omega) k⟩,λj v r=>p _ _ _ (by omega) (h.marks j v r),λj v r=>p _ _ _ (by omega) (h.pairs j v r),⟨a,b,s _ 12 _ (by omega) Qb l⟩,⟨c,d,s _ 13 _ (by omega) Lt n⟩⟩
def eB(w:jW)(P a:Nat)(r:R Tr)(e:Ending)(w':jW):Prop:=
 match r with
 | .ok (t,b)=>(∃v c d,e=jR v/\ej (Fr w.heap.size) w' t v/\PS w' P a c d b)/\Gr P w w'
 | .error (k,p)=>fQ k p e w'/\Gr P w w'
theorem eB.back{w1:jW}{c:Nat}{r:R Tr}{e:Ending}(f:Gr P w w1)(h:eB w1 P c r e w'):eB w P c r e w':=by
 match r,h with
 | .ok (t,i),⟨⟨v,j,l,a,b,d⟩,g⟩=>exact⟨⟨v,j,l,a,b.old f.size,d⟩,f.trans g⟩
 | .error (k,p),⟨a,b⟩=>exact⟨a,f.trans b⟩
structure At (w:jW) (P T o c d:Nat) (l:List eD):Prop where
 env:oF w
 ps:PS w P T o c l
 ends:fL l
 far:14<=P
 deep:d+l.length<=100000
def ut(n:Nat):Prop:=∀(a d:Nat)(w:jW)(P b o c:Nat)(l:List eD),At w P b o c d l->1<=a->a<=7->12*l.length+(10-a)<=n->aA 235 #[jP P,jV (a:Int),jV (d:Int)] w (eB w P b (eW n 0 a d .nil 0 l))
theorem ro(n:Nat)(b:ut n)(d:Nat)(w:jW)(P f o c:Nat)(l:List eD)(h:At w P f o c d l)(g:12*l.length+9<=n):
  aA 206 #[jP P,jV (d:Int)] w (eB w P f (eW n 0 1 d .nil 0 l)):=by
 have i:=jI (b 1 d w P f o c l h (by omega) (by omega) (by omega));clear h b;cases j:eW n 0 1 d .nil 0 l with
 |error m=>
  obtain⟨k,p⟩:=m;rw[j]at i;have q:=jI i;have r:=jI (λe w' (h:fQ k p e w'/\Gr P w w')=>h);clear i j;go_enter Tryz.func206,Tryz.ntmps206
  go_wp2_with(go_at_call 235;refine q.mono ?_;rintro e w1 ⟨⟨a,rfl,s⟩,u⟩;have x:Hid (w1.heap[a]?=some (jC #[jV k,jV (p:Int)] 139)):=s;have y:Hid (Gr P w w1):=u;clear s u)
  exact⟨rfl,r _ _ ⟨⟨a,rfl,x⟩,y⟩⟩
 |ok z=>
  obtain⟨t,A⟩:=z;rw[j]at i;have q:=jI i;have r:=jI (λe w' (h:((∃v B C,e=jR v/\ej (Fr w.heap.size) w' t v/\PS w' P f B C A)/\Gr P w w'))=>h);clear i j;go_enter Tryz.func206,Tryz.ntmps206
  go_wp2_with(go_at_call 235;refine q.mono ?_;rintro e w1 ⟨⟨v,B,C,rfl,D,E⟩,u⟩;have F:Hid (ej (Fr w.heap.size) w1 t v):=D;have G:Hid (PS w1 P f B C A):=E;have y:Hid (Gr P w w1):=u;clear D E u)
  go_ret;exact r _ _ ⟨⟨v,B,C,rfl,F,G⟩,y⟩
end Go.Proofs.YtnfhpdbbfejioaaGreatDoor
