/- SU -/
import Derived.Test.YtnfhpdbbfejioaaGreatDoorJ20
import Derived.Stop.Asserts
import Derived.RowKitTokens
set_option linter.unusedVariables false
set_option linter.unusedSimpArgs false
set_option maxRecDepth 100000
set_option maxHeartbeats 16000000
namespace Go.Proofs.YtnfhpdbbfejioaaGreatDoor.Tl
open Go Go.RowKit Go.Extern.Stop Go.Stop Go.Extern
theorem vR(t:Addr)(w:jW):(ReflectliteValue.unpack (.iface 106 (jQ (some t)))).run Tryz.prog w
  = .ok (.agg #[jQ (some (jB 14 106)),jP w.heap.size,.int .u64 150]) (w.alloc (jC #[jQ (some t)] 106)):=by kernel_rfl
theorem C_(a:Addr)(w:jW):(ReflectliteValue.methodAny (ReflectliteValue.valueError "reflectlite.Value.Type" 0) (fun t _ _ _=>ReflectliteType.toType t) #[.agg #[jQ (some (jB 14 106)),jQ (some a),.int .u64 150]]).run Tryz.prog w
  = .ok (.iface 203 (.agg #[jQ (some (jB 14 106))])) w:=by kernel_rfl
theorem uo(h:jU)(w:jW):(Go.method 467 203 (.agg #[h]) "Kind").run Tryz.prog w= .ok (288,h) w:=by kernel_rfl
theorem Da(w:jW):((ReflectliteType.abiMethod λt=>(λa:Nat=>Value.int IntKind.u8 (a:Int))<$>Rtype.kind t) #[jQ (some (jB 14 106))]).run Tryz.prog w= .ok (.int .u8 22) w:=by kernel_rfl
theorem Db(w:jW):((ReflectliteType.abiMethod λt=>(λa:Nat=>Value.int IntKind.u8 (a:Int))<$>Rtype.kind t) #[jQ (some (jB 14 46))]).run Tryz.prog w= .ok (.int .u8 2) w:=by kernel_rfl
theorem FC(z:Sem jU)(f:TypeId->Addr->Nat->Nat->Sem jU)(v:jU):
  ReflectliteValue.method z f #[v]=(do match<-ReflectliteValue.parts v with|none=>z|some (t,a,fl)=>f t a fl (fl%32)):=rfl
theorem sY(a:Addr)(w:jW):(ReflectliteValue.parts (.agg #[jQ (some (jB 14 106)),jQ (some a),.int .u64 150])).run Tryz.prog w= .ok (some (106,a,150)) w:=by kernel_rfl
theorem zL(a p:Addr)(W:jW)(b:W.cell? a=some (jQ (some p))):
  (ReflectliteValue.method (ReflectliteValue.valueError "reflectlite.Value.IsNil" 0) ReflectliteValue.isNil #[.agg #[jQ (some (jB 14 106)),jQ (some a),.int .u64 150]]).run Tryz.prog W= .ok (.bool false) W:=by
 rw[FC];simp only[dU,sY,Result.andThen];simp[ReflectliteValue.isNil,loadVar,isAgg,underlying,Tryz.underlying106,b,Result.andThen]
theorem uq(h:jU)(w:jW):(Go.method 467 203 (.agg #[h]) "Elem").run Tryz.prog w= .ok (301,.agg #[h]) w:=by kernel_rfl
theorem oJ(h:jU)(w:jW):(Go.method 467 203 (.agg #[h]) "Implements").run Tryz.prog w= .ok (302,.agg #[h]) w:=by kernel_rfl
theorem nE(h:jU)(w:jW):(Go.method 467 203 (.agg #[h]) "AssignableTo").run Tryz.prog w= .ok (299,.agg #[h]) w:=by kernel_rfl
theorem Dc(w:jW):(ReflectliteType.method ReflectliteType.elem #[.agg #[jQ (some (jB 14 106))]]).run Tryz.prog w= .ok (.iface 203 (.agg #[jQ (some (jB 14 46))])) w:=by kernel_rfl
theorem rN(w:jW):(ReflectliteType.relation "Implements" ReflectliteType.implements_ #[.agg #[jQ (some (jB 14 46))],.iface 203 (.agg #[jQ (some (jB 14 34))])]).run Tryz.prog w= .ok (.bool true) w:=by kernel_rfl
theorem xU(v:jU)(w:jW):(ReflectliteType.typeOf #[.iface 46 v]).run Tryz.prog w= .ok (.iface 203 (.agg #[jQ (some (jB 14 46))])) w:=by kernel_rfl
theorem rO(w:jW):(ReflectliteType.relation "AssignableTo" ReflectliteType.assignableTo #[.agg #[jQ (some (jB 14 46))],.iface 203 (.agg #[jQ (some (jB 14 46))])]).run Tryz.prog w= .ok (.bool true) w:=by kernel_rfl
theorem vS(k:Int)(w:jW):(ReflectliteValue.unpack (.iface 46 (jV k))).run Tryz.prog w
  = .ok (.agg #[jQ (some (jB 14 46)),jP w.heap.size,.int .u64 130]) (w.alloc (jC #[jV k] 46)):=by kernel_rfl
theorem xV(w:jW):(Rtype.elem? 106).run Tryz.prog w= .ok (some 46) w:=by kernel_rfl
theorem Kl(p:Addr)(w:jW):(ReflectliteValue.mk 46 p ReflectliteValue.flagAddr).run Tryz.prog w= .ok (.agg #[jQ (some (jB 14 46)),jQ (some p),.int .u64 386]) w:=by kernel_rfl
theorem zM(a p:Addr)(W:jW)(b:W.cell? a=some (jQ (some p))):
  (ReflectliteValue.method (ReflectliteValue.valueError "reflectlite.Value.Elem" 0) ReflectliteValue.elem #[.agg #[jQ (some (jB 14 106)),jQ (some a),.int .u64 150]]).run Tryz.prog W
   = .ok (.agg #[jQ (some (jB 14 46)),jQ (some p),.int .u64 386]) W:=by
 rw[FC];simp only[dU,sY,Result.andThen];simp[ReflectliteValue.elem,loadVar,isAgg,underlying,Tryz.underlying106,b,Result.andThen,xV,Kl]
theorem OH(v x:Value):ReflectliteValue.set #[v,x]=(do
  let (some (dst,a,fl),some (src,b,_)):=(<-ReflectliteValue.parts v,<-ReflectliteValue.parts x)
   |unsupported (.noEntry "extern/(internal/reflectlite.Value).Set.zeroValue")
  if fl/ReflectliteValue.flagAddr%2==0 then unsupported (.noEntry "extern/(internal/reflectlite.Value).Set.unaddressable")
  let c<-loadVar src b
  if<-Rtype.directlyAssignable dst src then storeVar dst a c
  else if<-Rtype.implements dst src then
   if(<-Rtype.kind src)==20 then
    match c with
    | .nilIface=>unsupported (.noEntry "extern/reflectlite: a nil value of one interface type handed on as a value of another")
    |_=>storeVar dst a c
   else storeVar dst a (.iface src c)
  else panicString ("reflectlite.Set: value of type " ++(←Rtype.spelt src)++ " is not assignable to type " ++(←Rtype.spelt dst))
  pure (.tuple #[])):=rfl
theorem xW(a:Addr)(w:jW):(ReflectliteValue.parts (.agg #[jQ (some (jB 14 46)),jQ (some a),.int .u64 386])).run Tryz.prog w= .ok (some (46,a,386)) w:=by kernel_rfl
theorem zN(a:Addr)(w:jW):(ReflectliteValue.parts (.agg #[jQ (some (jB 14 46)),jQ (some a),.int .u64 130])).run Tryz.prog w= .ok (some (46,a,130)) w:=by kernel_rfl
theorem xX(w:jW):(Rtype.directlyAssignable 46 46).run Tryz.prog w= .ok true w:=by kernel_rfl
theorem FD(a b:Addr)(k:Int)(c:jU)(W:jW)(d:W.cell? b=some (jV k))(e:W.cell? a=some c)(f:W.frozen? a=false):
  (ReflectliteValue.set #[.agg #[jQ (some (jB 14 46)),jQ (some a),.int .u64 386],.agg #[jQ (some (jB 14 46)),jQ (some b),.int .u64 130]]).run Tryz.prog W
   = .ok (.tuple #[]) (W.setCell a (jV k)):=by
 rw[OH];simp only[dU,xW,zN,Result.andThen];simp[ReflectliteValue.flagAddr,loadVar,isAgg,underlying,Tryz.underlying46,d,Result.andThen,xX,storeVar,Value.cells,storeCells,Addr.add];rw[run_store Tryz.prog W a _ _ (by rfl)];simp[e,f]
abbrev Dd(a:Nat):Array Value:=#[jQ (some (jB 14 106)),jP a,.int .u64 150]
abbrev sZ(w:jW):Prop:=w.cell? (jA 0)=some (.iface 203 (.agg #[jQ (some (jB 14 34))]))
theorem sZ.below{w w':jW}(h:sZ w)(a:az w w'):sZ w':=by
 have b:0<w.heap.size:=by
  rcases bG 0 w.heap.size with c|c
  ·exact c
  ·have d:w.cell? (jA 0)=some (.iface 203 (.agg #[jQ (some (jB 14 34))])):=h;simp[World.cell?,bH c]at d
 show w'.cell? (jA 0)=_;rw[a.cell (p:=(jA 0)) b];exact h
theorem xY(v:jU)(w:jW):(ReflectliteType.typeOf #[.iface 72 v]).run Tryz.prog w= .ok (.iface 203 (.agg #[jQ (some (jB 14 72))])) w:=by kernel_rfl
theorem rQ(w:jW):(ReflectliteType.relation "AssignableTo" ReflectliteType.assignableTo #[.agg #[jQ (some (jB 14 72))],.iface 203 (.agg #[jQ (some (jB 14 46))])]).run Tryz.prog w= .ok (.bool false) w:=by kernel_rfl
theorem De(v:jU)(a:TypeId)(w:jW):(Instr.typeAssert (.iface 72 v) a 208 true).run Tryz.prog w= .ok (.tuple #[.nilIface,.bool false]) w:=run_typeAssert_lacksB Tryz.underlying208 (by kernel_rfl) (by kernel_rfl) v a w
theorem xZ(v:jU)(a:TypeId)(w:jW):(Instr.typeAssert (.iface 72 v) a 211 true).run Tryz.prog w= .ok (.tuple #[.iface 72 v,.bool true]) w:=run_typeAssert_hasB Tryz.underlying211 (by kernel_rfl) v a w
theorem rR(p:Addr)(w:jW):(Go.method 467 72 (jQ (some p)) "Unwrap").run Tryz.prog w= .ok (293,jQ (some p)) w:=by kernel_rfl
theorem OI(k:Int)(b:jU)(t:Addr)(c:jU)(w:jW)(d:w.cell? (jA 0)=some (.iface 203 (.agg #[jQ (some (jB 14 34))])))(e:w.cell? t=some c)(f:w.frozen? t=false)(g:b= .iface 46 (jV k)\/∃a ln,b= .iface 72 (jP a)/\w.heap[a]?=some (jC #[jV k,jV ln] 139)):
  aA 44 #[b,.iface 106 (jQ (some t))] w λi w'=>i=jR (.bool true)/\w'=((((w.alloc (jC #[jQ (some t)] 106)).alloc (jC (Dd w.heap.size) 165)).alloc (jC (Dd w.heap.size) 165)).alloc (jC #[jV k] 46)).setCell t (jV k):=by
 have j:= @run_callFunc_extern Tryz.prog 72 _ (fun args=>ReflectliteValue.unpack (args.getD 0 (.tuple #[]))) Tryz.func72 (by kernel_rfl) (by kernel_rfl) (by kernel_rfl) (by kernel_rfl);have l:= @run_callFunc_extern Tryz.prog 73 _ (ReflectliteValue.methodAny (ReflectliteValue.valueError "reflectlite.Value.Type" 0) (fun t _ _ _=>ReflectliteType.toType t)) Tryz.func73 (by kernel_rfl) (by kernel_rfl) (by kernel_rfl) (by kernel_rfl);have m:= @run_callFunc_extern Tryz.prog 74 _ (ReflectliteValue.method (ReflectliteValue.valueError "reflectlite.Value.IsNil" 0) ReflectliteValue.isNil) Tryz.func74 (by kernel_rfl) (by kernel_rfl) (by kernel_rfl) (by kernel_rfl);have n:= @run_callFunc_extern Tryz.prog 288 _ (ReflectliteType.abiMethod fun t=>do pure (.int .u8 (←Rtype.kind t))) Tryz.func288 (by kernel_rfl) (by kernel_rfl) (by kernel_rfl) (by kernel_rfl);have o:= @run_callFunc_extern Tryz.prog 301 _ (ReflectliteType.method ReflectliteType.elem) Tryz.func301 (by kernel_rfl) (by kernel_rfl) (by kernel_rfl) (by kernel_rfl);have p:= @run_callFunc_extern Tryz.prog 302 _ (ReflectliteType.relation "Implements" ReflectliteType.implements_) Tryz.func302 (by kernel_rfl) (by kernel_rfl) (by kernel_rfl) (by kernel_rfl);have q:= @run_callFunc_extern Tryz.prog 109 _ ReflectliteType.typeOf Tryz.func109 (by kernel_rfl) (by kernel_rfl) (by kernel_rfl) (by kernel_rfl);have r:= @run_callFunc_extern Tryz.prog 299 _ (ReflectliteType.relation "AssignableTo" ReflectliteType.assignableTo) Tryz.func299 (by kernel_rfl) (by kernel_rfl) (by kernel_rfl) (by kernel_rfl);have s:= @run_callFunc_extern Tryz.prog 110 _ (ReflectliteValue.method (ReflectliteValue.valueError "reflectlite.Value.Elem" 0) ReflectliteValue.elem) Tryz.func110 (by kernel_rfl) (by kernel_rfl) (by kernel_rfl) (by kernel_rfl);have u:= @run_callFunc_extern Tryz.prog 111 _ ReflectliteValue.set Tryz.func111 (by kernel_rfl) (by kernel_rfl) (by kernel_rfl) (by kernel_rfl);have v:=xU;have x:=nE;have y:=rO;have z:=vS;have A:=vR;have B:=C_;have C:=uo;have D:=uq;have E:=oJ;have F:=Da;have G:=Db;have H:=Dc;have I:=rN;have J:=zL (jA w.heap.size) t ((w.alloc (jC #[jQ (some t)] 106)).alloc (jC (Dd w.heap.size) 165)) (by simp);have K:0<w.heap.size:=by
  rcases bG 0 w.heap.size with h|h
  ·exact h
  ·simp[World.cell?,bH h]at d
 have L:((w.alloc (jC #[jQ (some t)] 106)).alloc (jC (Dd w.heap.size) 165)).cell? (jA 0)=some (.iface 203 (.agg #[jQ (some (jB 14 34))])):=by
  rw[bC _ _ (jA 0) (by simp),bC _ _ (jA 0) K];exact d
 have M:t.block<w.heap.size:=by
  rcases bG t.block w.heap.size with h|h
  ·exact h
  ·simp[World.cell?,bH h]at e
 have el:=zM (jA w.heap.size) t (((w.alloc (jC #[jQ (some t)] 106)).alloc (jC (Dd w.heap.size) 165)).alloc (jC (Dd w.heap.size) 165)) (by
  rw[bC _ _ (jA w.heap.size) (by simp;omega),bC _ _ (jA w.heap.size) (by simp),World.cell?_alloc_at _ _ _ _ rfl];rfl)
 have st:=FD t ⟨w.heap.size+1+1+1,0,none⟩ k c ((((w.alloc (jC #[jQ (some t)] 106)).alloc (jC (Dd w.heap.size) 165)).alloc (jC (Dd w.heap.size) 165)).alloc (jC #[jV k] 46))
  (by rw[World.cell?_alloc_at _ _ _ _ (by simp)];rfl)
  (by rw[bC _ _ t (by simp;omega),bC _ _ t (by simp;omega),bC _ _ t (by simp;omega),bC _ _ t M];exact e)
  (by rw[cL _ _ t (by simp;omega),cL _ _ t (by simp;omega),cL _ _ t (by simp;omega),cL _ _ t (Nat.ne_of_lt M)];exact f)
 rcases g with rfl|⟨a,ln,rfl,N⟩
 ·go_enter Tryz.func44,Tryz.ntmps44;go_wp2;refine wp_loop_rounds 1 ?_
  rw[rounds_succ];go_wp2;go_ret;exact⟨rfl,rfl⟩
 ·have O:=xY;have P:=rQ;have Q:=De;have S:=xZ;have T:=rR;have U:a<w.heap.size:=(aC.1 N).1;have V:((w.alloc (jC #[jQ (some t)] 106)).alloc (jC (Dd w.heap.size) 165)).cell? (jA a)=some (jV k):=by
   rw[bC _ _ (jA a) (by simp;omega),bC _ _ (jA a) U,cell_of_row _ _ _ _ _ _ N];rfl
  have W:(((w.alloc (jC #[jQ (some t)] 106)).alloc (jC (Dd w.heap.size) 165)).alloc (jC (Dd w.heap.size) 165)).cell? (jA a)=some (jV k):=by
   rw[bC _ _ (jA a) (by simp;omega)];exact V
  go_enter Tryz.func44,Tryz.ntmps44;go_wp2;refine wp_loop_rounds 2 ?_
  rw[rounds_succ];go_wp2;rw[rounds_succ]
  go_wp2;go_ret;exact⟨rfl,rfl⟩
theorem mi(k:Int)(b:jU)(w:jW)(c:sZ w)(d:b= .iface 46 (jV k)\/∃a ln,b= .iface 72 (jP a)/\w.heap[a]?=some (jC #[jV k,jV ln] 139)):aA 21 #[b] w λe w'=>e=jR (jV k)/\az w w':=by
 have f:0<w.heap.size:=by
  rcases bG 0 w.heap.size with h|h
  ·exact h
  ·have g:w.cell? (jA 0)=some (.iface 203 (.agg #[jQ (some (jB 14 34))])):=c;simp[World.cell?,bH h]at g
 have i:Hid (sZ (w.alloc (jC #[jV 0] 46))):=by
  show _=_;rw[bC _ _ (jA 0) f];exact c
 have j:b= .iface 46 (jV k)\/∃a ln,b= .iface 72 (jP a)/\(w.alloc (jC #[jV 0] 46)).heap[a]?=some (jC #[jV k,jV ln] 139):=by
  rcases d with h|⟨a,ln,h,l⟩
  ·exact .inl h
  ·exact .inr ⟨a,ln,h,by rw[(((aJ w.heap.size w).alloc (aD _) _).block a (aC.1 l).1)];exact l⟩
 have m:=jI (OI k b (jA w.heap.size) (jV 0) _ i.out (by simp) (by simp) j);clear j i;clear c;rcases d with rfl|⟨a,ln,rfl,l⟩
 all_goals
  try clear l
  go_enter Tryz.func21,Tryz.ntmps21
  go_wp2_with(go_at_call 44;fail)
  refine m.mono ?_;rintro e w1 ⟨rfl,n⟩;have o:Hid (az w w1):=by
   show Below _ _ _;rw[n];exact Below.setCell (((((((aJ _ _).alloc (aD _) _).alloc (by simp) _).alloc (by simp;omega) _).alloc (by simp;omega) _).alloc (by simp;omega) _)) (by simp) _
  have p:w1.cell? (jA w.heap.size)=some (jV k):=by
   have B:Below (w.heap.size+1) (w.alloc (jC #[jV 0] 46)) (((((w.alloc (jC #[jV 0] 46)).alloc (jC #[jP w.heap.size] 106)).alloc (jC (Dd (w.alloc (jC #[jV 0] 46)).heap.size) 165)).alloc (jC (Dd (w.alloc (jC #[jV 0] 46)).heap.size) 165)).alloc (jC #[jV k] 46)):=
    ((((aJ _ _).alloc (by simp) _).alloc (by simp) _).alloc (by simp) _).alloc (by simp) _
   have G:=(B.block w.heap.size (by omega)).trans (heap_alloc_last w _);rw[n,cell_of_row _ _ _ _ _ _ (aH _ _ _ _ _ _ G)];rfl
  clear n;go_wp2;go_ret;exact⟨rfl,o⟩
theorem FE(k:Int)(w:jW)(a:sZ w):aA 21 #[.iface 46 (jV k)] w λe w'=>e=jR (jV k)/\az w w':=
 mi k _ w a (.inl rfl)
theorem Km(k ln:Int)(a:Nat)(w:jW)(b:sZ w)(c:w.heap[a]?=some (jC #[jV k,jV ln] 139)):aA 21 #[.iface 72 (jP a)] w λe w'=>e=jR (jV k)/\az w w':=
 mi k _ w b (.inr ⟨a,ln,rfl,c⟩)
end Go.Proofs.YtnfhpdbbfejioaaGreatDoor.Tl
