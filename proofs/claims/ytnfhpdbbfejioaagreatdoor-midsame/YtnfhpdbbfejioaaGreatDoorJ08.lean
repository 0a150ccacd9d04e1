/- V1 V2 V3 V7 V8 V9 V4 V5 VB V6 VA VD VC VE VF VG VH XB XC XD XE VI XF VJ VK XG VL VM XH RA GB GG GI GJ CA VO -/
import Derived.Test.YtnfhpdbbfejioaaGreatDoorJ06
import Derived.Test.YtnfhpdbbfejioaaGreatDoorJ05
import Derived.Lib.AppendIntMem
import Derived.Deep.DeepCutAuto
import Derived.Lib.ItoaLen
set_option linter.unusedVariables false
set_option linter.unusedSimpArgs false
set_option maxRecDepth 100000
set_option maxHeartbeats 16000000
namespace Go.Proofs.YtnfhpdbbfejioaaGreatDoor
open Go Go.RowKit
variable {B b:Nat}{w w':jW}{s nm:By}{S:Nat->Prop}{c a n:Int}{l r g v d el:Tr}
def jJ:Tr->Nat
 | .agg [.lit (.int _ c),_,_,_,.lit (.string a),_,_,_]=>if c=3 then fT a else if c=4 then 7 else 8
 |_=>8
def hold:Tr->Nat->By->By
 | .nil,_,s=>s
 |t,k,s=>if k<=jJ t then s else[40]++s++[41]
def sep:Tr->By
 | .slice [] []=>[]
 |_=>[44,32]
abbrev Bd(B b:Nat)(s:By)(W:jW):Prop:=Lib.IsBuilderF 83 5 B b (Lib.byteCells s) W
structure CT (B b:Nat) (w w':jW):Prop where
 low:Below B w w'
 oth:Lib.OthersKept 5 (some b) w w'
theorem CT.refl(B b:Nat)(w:jW):CT B b w w:=⟨aJ _ _,Lib.OthersKept.refl _ _ _⟩
theorem CT.trans{x y z:jW}(h:CT B b x y)(g:CT B b y z):CT B b x z:=⟨h.low.trans g.low,h.oth.trans g.oth⟩
theorem CT.of(h:az w w')(a:B<=w.heap.size):CT B b w w':=⟨h.mono a,λk o hk _ _=>by rw[h.block k (aC.1 hk).1];exact hk⟩
theorem CT.size(h:CT B b w w'):w.heap.size<=w'.heap.size:=h.low.size
theorem CT.keeps(S:Nat->Prop)(a:Bd B b s w)(h:CT B b w w'):eJ S w w':=λk cs t _ d hk=>by
 refine h.oth k _ hk (λe=>?_) (λc f e=>?_)
 ·injection e with e;subst e;rcases a with⟨_,v,g,_⟩|⟨_,v,g,_⟩<;>
  ·rw[g]at hk;injection hk with hk;injection hk with _ h2;exact d.2.2 h2.symm
 ·injection e with _ h2;exact d.2.1 h2
theorem Bd.below(h:Bd B b s w)(a:az w w'):Bd B b s w':=by
 have k:∀p,Lib.BuilderAtF 83 5 B b p (Lib.byteCells s) w->Lib.BuilderAtF 83 5 B b p (Lib.byteCells s) w':=λp ⟨h1,v,h2,h3,h4⟩=>
  ⟨h1,v,by rw[a.block b (aC.1 h2).1];exact h2,h3.kept (iN a) (by cases v.ownBlock<;>simp),h4⟩
 exact h.imp (k _) (k _)
abbrev Pw(w:jW):Prop:=Lib.TabIs Tryz.prog w "internal/strconv.uint64pow10" .u64 Lib.pow10Tab
structure sS (B:Nat) (w:jW):Prop where
 env:oF w
 pow:Pw w
 far:14<=B
 le:B<=w.heap.size
theorem PG:Tryz.prog.globalNamed "internal/strconv.uint64pow10" =some 7:=by kernel_rfl
theorem oF.low(h:oF w)(e:Below B w w')(f:14<=B):oF w':=by
 have i:=h.lt;have k:=e.size;obtain⟨m,l⟩:=h.max;obtain⟨a,b,n⟩:=h.syn;obtain⟨c,d,p⟩:=h.rng;have q:∀x o v,x<14->w.cell? (jB x o)=some v->w'.cell? (jB x o)=some v:=λx o v r s=>(bB (a:=(jB x o)) (e.block x (by omega))).trans s;have t:∀(nm:String)(g:Nat)(cs:Array Value),g<14->Tryz.prog.globalNamed nm=some g->w.var? Tryz.prog nm=some cs->w'.var? Tryz.prog nm=some cs:=λnm g cs u y s=>by
  unfold World.var? at*;simp only[y,cJ]at s⊢;rw[e.block g (by omega)];exact s
 exact⟨⟨m,q _ _ _ (by omega) l⟩,λj v s=>q _ _ _ (by omega) (h.marks j v s),λj v s=>q _ _ _ (by omega) (h.pairs j v s),⟨a,b,t _ 12 _ (by omega) Qb n⟩,⟨c,d,t _ 13 _ (by omega) Lt p⟩⟩
theorem sS.go(h:sS B w)(a:CT B b w w'):sS B w':=by
 refine⟨h.env.low a.low h.far,?_,h.far,aP h.le a.size⟩;have c:=h.pow;unfold Pw Lib.TabIs World.var? at*;simp only[PG,cJ]at c⊢;rw[a.low.block 7 (by have:=h.far;omega)];exact c
theorem jM{b:By}{v:jU}(h:ej S w (nd c a n nm b l r g) v):
  ∃(q:Nat)(vl vr d:jU)(e:jE),S q/\v=jP q/\w.heap[q]?=some (jC #[jV c,jV a,jV n,str nm,str b,vl,vr,d] 252)/\ej S w l vl/\ej S w r vr/\w.ownsRow 0 145 1 d e.length e/\(∀i,d.ownBlock=some i->S i)/\ej S w g (.tuple e.toArray):=by
 rw[ej]at h;exact h
theorem mS:∀(c:jE)(g:Tr),ej S w g (.tuple c.toArray)->∃xs,g=chain xs/\xs.length=c.length/\∀(i:Nat)(x:Tr)(y:jU),xs[i]?=some x->c[i]?=some y->ej S w x y
 |[],g,h=>by
  unfold ej at h;split at h
  ·obtain⟨_,_,_,_,_,_,e,_⟩:=h;cases e
  ·obtain⟨y,c,e,_⟩:=h;injection e with e;have:=congrArg Array.toList e;simp at this
  ·exact⟨[],rfl,rfl,λi x y h=>by simp at h⟩
  ·cases h
  ·exact h.elim
 |y::c,g,h=>by
  unfold ej at h;split at h
  ·obtain⟨_,_,_,_,_,_,e,_⟩:=h;cases e
  ·rename_i x g';obtain⟨p,l,e,k,m⟩:=h;injection e with e;have j:=congrArg Array.toList e;simp at j;obtain⟨rfl,rfl⟩:=j;obtain⟨xs,rfl,n,o⟩:=mS c _ m;refine⟨x::xs,rfl,by simp[n],λi a b d f=>?_⟩;cases i with
   |zero=>
    simp at d f;subst d;subst f;exact k
   |succ i=>exact o i a b (by simpa using d) (by simpa using f)
  ·injection h with h;have:=congrArg Array.toList h;simp at this
  ·cases h
  ·exact h.elim
def zm:Tr->Bool
 | .slice [] []=>true
 |_=>false
theorem Jx{b:Tr}{cs:jE}(h:ey S w (.slice [st c a nm b v d el] [g]) cs):
  ∃(e f:jO)(i j:jU)(nt k:Nat)(ts l rest:jE),cs=[jV c,jV a,str nm,jQ e,jQ f,i,j]++rest/\ej S w b (jQ e)/\ej S w v (jQ f)/\fy S w 147 7 i nt ts/\ey S w d ts/\fy S w 147 7 j k l/\ey S w el l/\ey S w g rest:=by
 rw[ey]at h;exact h
theorem gv(g k:Nat):((jA g):Addr).add k=(jB g k):=by
 by_cases h:k=0
 ·subst h;simp[Addr.add]
 ·simp[Addr.add,h]
theorem xJ:∀(xs:List Tr)(cs:jE),ey S w (chain xs) cs->cs.length=xs.length*7/\∀(i:Nat)(x:Tr),xs[i]?=some x->∃(n t:Int)(r:ByteArray)(o z:jO)(A:jO)(q k:Nat)(m:jO)(p f:Nat),ey S w (cc x ce) (#[jV n,jV t,jT r,jQ o,jQ z,jL A q k,jL m p f]:Array Value).toList/\∀j u,(#[jV n,jV t,jT r,jQ o,jQ z,jL A q k,jL m p f]:Array Value)[j]?=some u->cs[i*7+j]?=some u
 |[],cs,h=>by
  have b:ey S w (.slice [] []) cs:=h;rw[ey]at b;subst b;exact⟨rfl,λi x C=>by simp at C⟩
 |x::xs,cs,h=>by
  have b:=h;unfold ey at b;split at b
  ·rename_i k1 c U a nm W v Y el g d;obtain⟨D,H,V,Z,nt,E,ts,M,l,e,Q,O,F,T,G,P,J⟩:=b;injection d with h1 h2;injection h1 with h1 _;injection h2 with h2 _;subst h2;subst h1;subst e;obtain⟨I,k,rfl⟩:=eh F.1;obtain⟨K,f,rfl⟩:=eh G.1;obtain⟨L,N⟩:=xJ xs l J;refine⟨by simp[L];omega,λi y B=>?_⟩;cases i with
   |zero=>
    simp at B;subst B;refine⟨c,a,⟨nm.toArray⟩,D,H,I,nt,k,K,E,f,?_,λj u s=>?_⟩
    ·show ey S w (.slice [_] [.slice [] []]) _;rw[ey];exact⟨D,H,_,_,nt,E,ts,M,[],rfl,Q,O,F,T,G,P,by rw[ey]⟩
    ·rw[aW (by have:=(aC.1 s).1;simpa using this)];simpa using s
   |succ i=>
    obtain⟨n,t,r,o,z,A,q,k,m,p,f,C,hc⟩:=N i y (by simpa using B);refine⟨n,t,r,o,z,A,q,k,m,p,f,C,λj u s=>?_⟩;rw[show(i+1)*7+j=i*7+j+7 by omega];exact hc j u s
  ·rename_i d;injection d with h1 h2;cases h1
  ·exact b.elim
theorem lf:∀{a b:List Tr},chain a=chain b->a=b
 |[],[],_=>rfl
 |[],_::_,h=>by simp[chain]at h
 |_::_,[],h=>by simp[chain]at h
 |x::a,y::b,h=>by
  simp only[chain]at h;injection h with h1 h2;injection h1 with h1 _;injection h2 with h2 _;rw[h1,lf h2]
theorem kV:∀(xs:List (By×Int)) (i:Nat) (x:By×Int),xs[i]?=some x->(lA xs)[i*2]?=some (str x.1)/\(lA xs)[i*2+1]?=some (jV x.2)
 |[],i,x,h=>by simp at h
 |y::xs,0,x,h=>by
  simp at h;subst h;exact⟨rfl,rfl⟩
 |y::xs,i+1,x,h=>by
  have a:=kV xs i x (by simpa using h);rw[show(i+1)*2=i*2+2 by omega,show i*2+2+1=i*2+1+2 by omega];exact a
def fD:Tr->Prop
 | .agg [.lit (.int .i64 c),.lit (.int .i64 _),.lit (.int .i64 n),.lit (.string _),.lit (.string _),l,r,g]=>
  1<=c/\c<=9/\ -9223372036854775808<=n/\n<=9223372036854775807/\(l= .nil\/fw l)/\(r= .nil\/fw r)/\fD l/\fD r/\fD g/\∃xs,g=chain xs/\xs.length<=1000000
 | .slice [x] [g]=>fw x/\fD x/\fD g
 | .slice [] []=>True
 | .nil=>True
 |_=>False
def qw:Tr->Nat
 | .slice [_] [g]=>qw g+1
 |_=>0
theorem ig:∀xs:List Tr,qw (chain xs)=xs.length
 |[]=>rfl
 |x::xs=>by simp[chain,qw,ig xs]
theorem kS{b:By}{xs:List Tr}(d:1<=c)(e:c<=9)(f: -9223372036854775808<=n)(h:n<=9223372036854775807)(i:l= .nil\/fw l)(j:r= .nil\/fw r)(gl:fD l)(k:fD r)(m:fD g)(o:g=chain xs)(p:xs.length<=1000000):fD (nd c a n nm b l r g):=by
 rw[fD];exact⟨d,e,f,h,i,j,gl,k,m,xs,o,p⟩
theorem iu:fD .nil:=by rw[fD];trivial
theorem kT:fD ce:=by rw[fD];trivial
structure eR where
 nm:By
 kd:IntKind
 at':Int
 ps:List (By×Int)
 body:Tr
def eR.tr(f:eR):Tr:= .agg [.lit (.string f.nm),.lit (.int f.kd f.at'),DN f.ps,f.body]
theorem sH:∀(t:Tr)(cs:jE),eX S w t cs->∃l:List eR,t=chain (l.map eR.tr)/\cs.length=l.length*4/\∀(i:Nat)(f:eR),l[i]?=some f->∃(m n:jU)(p:Nat)(c:jE),fy S w 144 2 m f.ps.length (lA f.ps)/\fy S w 147 7 n p c/\ey S w f.body c/\cs[i*4]?=some (str f.nm)/\cs[i*4+1]?=some (jV f.at')/\cs[i*4+2]?=some m/\cs[i*4+3]?=some n
 |t,cs,h=>by
  unfold eX at h;split at h
  ·rename_i nm F a K b g;obtain⟨m,n,p,xs,c,j,e,J,B,E,v,H⟩:=h;obtain⟨l,s,G,A⟩:=sH g j H;subst J;subst e;refine⟨⟨nm,F,a,xs,b⟩::l,by rw[s];rfl,by simp[G];omega,λi f k=>?_⟩;cases i with
   |zero=>
    simp at k;subst k;exact⟨m,n,p,c,B,E,v,rfl,rfl,rfl,rfl⟩
   |succ i=>
    obtain⟨o,r,q,d,x,I,u,y,C,z,D⟩:=A i f (by simpa using k);refine⟨o,r,q,d,x,I,u,?_,?_,?_,?_⟩
    ·rw[show(i+1)*4=i*4+4 by omega];exact y
    ·rw[show(i+1)*4+1=i*4+1+4 by omega];exact C
    ·rw[show(i+1)*4+2=i*4+2+4 by omega];exact z
    ·rw[show(i+1)*4+3=i*4+3+4 by omega];exact D
  ·exact⟨[],rfl,by simp[h],λi f k=>by simp at k⟩
  ·exact h.elim
def fV:Tr->Prop
 | .slice [.agg [.lit (.int .i64 c),.lit (.int .i64 _),.lit (.string _),a,v,b,el]] [g]=>
  1<=c/\c<=8/\(a= .nil\/fw a)/\fD a/\(v= .nil\/fw v)/\fD v/\fV b/\qw b<=1000000/\fV el/\qw el<=1000000/\fV g
 | .slice [] []=>True
 |_=>False
theorem tM{b:Tr}(e:1<=c)(f:c<=8)(h:b= .nil\/fw b)(i:fD b)(j:v= .nil\/fw v)(k:fD v)(ax:fV d)(l:qw d<=1000000)(m:fV el)(n:qw el<=1000000)(o:fV g):fV (cc (st c a nm b v d el) g):=by
 rw[fV];exact⟨e,f,h,i,j,k,ax,l,m,n,o⟩
theorem qh:fV ce:=by rw[fV];trivial
theorem km{t:Tr}(h:fV (cc t g)):∃(c a:Int)(nm:By)(d v e el:Tr),t=st c a nm d v e el/\1<=c/\c<=8/\(d= .nil\/fw d)/\fD d/\(v= .nil\/fw v)/\fD v/\fV e/\qw e<=1000000/\fV el/\qw el<=1000000/\fV g:=by
 unfold fV at h;split at h
 ·rename_i c a nm d v e el g' b;injection b with h1 h2;injection h1 with h1 _;injection h2 with h2 _;subst h1;subst h2;exact⟨c,a,nm,d,v,e,el,rfl,h⟩
 ·rename_i b;injection b with h1 _;cases h1
 ·exact h.elim
def qF(F:eR):Prop:=fV F.body/\qw F.body<=1000000/\F.ps.length<=1000000
theorem LM{a b:List (By×Int)}(h:DN a=DN b):a=b:=by
 have h1:=lf h
 induction a generalizing b with
 |nil=>cases b with
  |nil=>rfl
  |cons y b=>simp at h1
 |cons x a c=>cases b with
  |nil=>simp at h1
  |cons y b=>
   simp only[bO,bW]at h1;obtain⟨h2,d⟩:=h1;injection h2 with h2;simp only[bW,bV,cK,cR]at h2;have:x=y:=Prod.ext h2.1 h2.2.1.2;rw[this,c (b:=b) (by unfold DN;rw[d]) d]
theorem Qo{F G:eR}(h:F.tr=G.tr):F=G:=by
 unfold eR.tr at h;injection h with h;simp only[bW,bV,cK,cR]at h;obtain⟨h1,⟨h2,a⟩,b,c,_⟩:=h;cases F;cases G;simp only[eR.mk.injEq];exact⟨h1,h2,a,LM b,c⟩
theorem wF{a b:List eR}(h:chain (a.map eR.tr)=chain (b.map eR.tr)):a=b:=by
 have h1:=lf h
 induction a generalizing b with
 |nil=>cases b with
  |nil=>rfl
  |cons y b=>simp at h1
 |cons x a c=>cases b with
  |nil=>simp at h1
  |cons y b=>
   simp only[bO,bW]at h1;rw[Qo h1.1,c (b:=b) (by rw[h1.2]) h1.2]
def ph(t:eD):eD:=⟨t.k,t.t,0⟩
abbrev pl(l:List eD):List eD:=l.map ph
end Go.Proofs.YtnfhpdbbfejioaaGreatDoor
namespace Go.Proofs.YtnfhpdbbfejioaaGreatDoor
open Go
def BH(t:Tr)(k:Nat)(s:List Pc):List Pc:=if k<=jJ t then s else fx [40]::(s++[fx [41]])
def Kv:Tr->List Pc
 | .slice [] []=>[]
 |_=>[fx [44],bl 32]
def iY:Tr->List Pc
 | .agg [.lit (.int _ c),.lit (.int _ _),.lit (.int _ n),.lit (.string nm),.lit (.string a),l,r,g]=>
  if c=1 then[⟨2,Lib.itoa n⟩]
  else if c=2 then[⟨0,nm⟩]
  else if c=3 then BH l (fT a) (iY l)++([bl 32,fx a,bl 32]++BH r (fT a+1) (iY r))
  else if c=4 then fx a::BH l 7 (iY l)
  else if c=5 then⟨0,nm⟩::fx [40]::(iY g++[fx [41]])
  else if c=6 then fx [110,101,119]::fx [40]::(iY l++[fx [41]])
  else if c=7 then fx [108,101,110]::fx [40]::(iY l++[fx [41]])
  else if c=9 then[fx [105,110,112,117,116],fx [40],fx [41]]
  else if c=8 then BH l 8 (iY l)++(fx [91]::(iY r++[fx [93]]))
  else[]
 | .slice [x] [g]=>iY x++(Kv g++iY g)
 |_=>[]
theorem Rw(a n:Int)(nm b:By)(l r g:Tr):iY (nd 1 a n nm b l r g)=[⟨2,Lib.itoa n⟩]:=by rw[iY];simp
theorem Rx(a n:Int)(nm b:By)(l r g:Tr):iY (nd 2 a n nm b l r g)=[⟨0,nm⟩]:=by rw[iY];simp
theorem Ry(a n:Int)(nm b:By)(l r g:Tr):iY (nd 3 a n nm b l r g)=BH l (fT b) (iY l)++([bl 32,fx b,bl 32]++BH r (fT b+1) (iY r)):=by rw[iY];simp
theorem Rz(a n:Int)(nm b:By)(l r g:Tr):iY (nd 4 a n nm b l r g)=fx b::BH l 7 (iY l):=by rw[iY];simp
theorem Kw(a n:Int)(nm b:By)(l r g:Tr):iY (nd 5 a n nm b l r g)=⟨0,nm⟩::fx [40]::(iY g++[fx [41]]):=by rw[iY];simp
theorem RA(a n:Int)(nm b:By)(l r g:Tr):iY (nd 6 a n nm b l r g)=fx [110,101,119]::fx [40]::(iY l++[fx [41]]):=by rw[iY];simp
theorem RB(a n:Int)(nm b:By)(l r g:Tr):iY (nd 7 a n nm b l r g)=fx [108,101,110]::fx [40]::(iY l++[fx [41]]):=by rw[iY];simp
theorem RD(a n:Int)(nm b:By)(l r g:Tr):iY (nd 8 a n nm b l r g)=BH l 8 (iY l)++(fx [91]::(iY r++[fx [93]])):=by rw[iY];simp
theorem RG(a n:Int)(nm b:By)(l r g:Tr):iY (nd 9 a n nm b l r g)=[fx [105,110,112,117,116],fx [40],fx [41]]:=by rw[iY];simp
theorem Gh(x g:Tr):iY (cc x g)=iY x++(Kv g++iY g):=by rw[iY]
theorem Gi:iY ce=[]:=by simp[iY]
def up(t:Tr)(k:Nat):Nat:=if k<=jJ t then 0 else 1
def RE:Nat->Nat->Tr->Prop
 |0,_,_=>False
 |f+1,d,t=>d<=12/\
  ((∃(a n:Int),0<=n/\n<=9223372036854775807/\t=nd 1 a n [] [] .nil .nil ce)\/
   (∃(a:Int)(nm:By),zf nm/\t=nd 2 a 0 nm [] .nil .nil ce)\/
   (∃(a:Int)(b:By)(l r:Tr),1<=fT b/\RE f (d+up l (fT b)) l/\RE f (d+up r (fT b+1)) r/\t=nd 3 a 0 [] b l r ce)\/
   (∃(a:Int)(b:By)(l:Tr),(b=[45]\/b=[33])/\RE f (d+1+up l 7) l/\t=nd 4 a 0 [] b l .nil ce)\/
   (∃(a:Int)(nm:By)(xs:List Tr),zf nm/\(∀x∈xs,RE f (d+1) x)/\t=nd 5 a 0 nm [] .nil .nil (chain xs))\/
   (∃(a:Int)(l:Tr),RE f (d+1) l/\t=nd 6 a 0 [] [] l .nil ce)\/
   (∃(a:Int)(l:Tr),RE f (d+1) l/\t=nd 7 a 0 [] [] l .nil ce)\/
   (∃(a:Int)(l r:Tr),RE f (d+up l 8) l/\RE f (d+1) r/\t=nd 8 a 0 [] [] l r ce)\/
   (∃(a:Int),t=nd 9 a 0 [] [] .nil .nil ce))
theorem iT:∀(f b d c:Nat)(t:Tr),f<=b->c<=d->RE f d t->RE b c t
 |0,_,_,_,_,_,_,h=>h.elim
 |f+1,0,_,_,_,g,_,_=>by omega
 |f+1,b+1,d,c,t,g,hd,h=>by
  have i:∀(d c:Nat)(t:Tr),c<=d->RE f d t->RE b c t:=λd c t h1 h2=>iT f b d c t (by omega) h1 h2;rw[RE]at h⊢;obtain⟨j,h⟩:=h;refine⟨by omega,?_⟩;rcases h with h|h|⟨a,k,l,r,h1,h2,m,e⟩|⟨a,k,l,h1,h2,e⟩|⟨a,nm,xs,h1,h2,e⟩|⟨a,l,h2,e⟩|⟨a,l,h2,e⟩|⟨a,l,r,h2,m,e⟩|h
  ·exact .inl h
  ·exact .inr (.inl h)
  ·exact .inr (.inr (.inl ⟨a,k,l,r,h1,i _ _ _ (by omega) h2,i _ _ _ (by omega) m,e⟩))
  ·exact .inr (.inr (.inr (.inl ⟨a,k,l,h1,i _ _ _ (by omega) h2,e⟩)))
  ·exact .inr (.inr (.inr (.inr (.inl ⟨a,nm,xs,h1,λx n=>i _ _ _ (by omega) (h2 x n),e⟩))))
  ·exact .inr (.inr (.inr (.inr (.inr (.inl ⟨a,l,i _ _ _ (by omega) h2,e⟩)))))
  ·exact .inr (.inr (.inr (.inr (.inr (.inr (.inl ⟨a,l,i _ _ _ (by omega) h2,e⟩))))))
  ·exact .inr (.inr (.inr (.inr (.inr (.inr (.inr (.inl ⟨a,l,r,i _ _ _ (by omega) h2,i _ _ _ (by omega) m,e⟩)))))))
  ·exact .inr (.inr (.inr (.inr (.inr (.inr (.inr (.inr h)))))))
theorem Gj{f d:Nat}{t:Tr}(h:RE f d t):d<=12:=by
 cases f with
 |zero=>exact h.elim
 |succ f=>rw[RE]at h;exact h.1
theorem MD{f d:Nat}{t:Tr}(h:RE f d t):∃c a n nm b l r g,t=nd c a n nm b l r g:=by
 cases f with
 |zero=>exact h.elim
 |succ f=>
  rw[RE]at h;rcases h.2 with⟨a,n,_,_,e⟩|⟨a,nm,_,e⟩|⟨a,b,l,r,h1,h2,i,e⟩|⟨a,b,l,h1,h2,e⟩|⟨a,nm,xs,h1,h2,e⟩|⟨a,l,h2,e⟩|⟨a,l,h2,e⟩|⟨a,l,r,h2,i,e⟩|⟨a,e⟩<;>exact⟨_,_,_,_,_,_,_,_,e⟩
theorem rb{m:By}(h:1<=fT m):∃x∈gA,x.1=m/\fT m=x.2:=by
 unfold fT at h⊢;cases a:gA.find? (·.1==m) with
 |none=>rw[a]at h;simp at h
 |some x=>exact⟨x,bu a,by simpa using dB a,by simp⟩
theorem Dl{m:By}(h:1<=fT m):m∈eY/\fT m<=6/\rB.contains (m.headD 0)=false:=by
 obtain⟨x,a,b,c⟩:=rb h;have:∀x∈gA,x.1∈eY/\x.2<=6/\rB.contains (x.1.headD 0)=false:=by decide
 rw[c,<-b];exact this x a
def Fst(p:Pc):Prop:=(p.k=0/\zf p.w)\/(p.k=2/\RH p.w)\/(p.k=1/\p.w∈[[45],[33],[40],[110,101,119],[108,101,110],[105,110,112,117,116]])
structure Fa (q:List Pc) (s:By):Prop where
 fst:∃p r,q=p::r/\Fst p
 ok:∀x∈q,RI x
 sep:∀c,rB.contains c=false->TW c q=true
 tx:txt q=s
structure Fb (q:List Pc) (s:By):Prop where
 ok:∀x∈q,RI x
 sep:∀c,rB.contains c=false->TW c q=true
 tx:txt q=s
theorem Fa.b{q:List Pc}{s:By}(h:Fa q s):Fb q s:=⟨h.ok,h.sep,h.tx⟩
end Go.Proofs.YtnfhpdbbfejioaaGreatDoor
namespace Go.Proofs.YtnfhpdbbfejioaaGreatDoor
open Go
abbrev tk(x:By):eD:=⟨1,x,0⟩
abbrev te(t:Tr):List eD:=kv (iY t)
abbrev hk(t:Tr)(k:Nat):List eD:=kv (BH t k (iY t))
theorem eP(x:By)(q:List Pc):kv (fx x::q)=tk x::kv q:=by rw[kv,if_neg (by show ¬(1:Nat)=9;decide)]
theorem gQ(c:UInt8)(q:List Pc):kv (bl c::q)=kv q:=by rw[kv,if_pos rfl]
theorem mV(x:By)(q:List Pc):kv (⟨0,x⟩::q)=⟨0,x,0⟩::kv q:=by rw[kv,if_neg (by show ¬(0:Nat)=9;decide)]
theorem PT(x:By)(q:List Pc):kv (⟨2,x⟩::q)=⟨2,x,0⟩::kv q:=by rw[kv,if_neg (by show ¬(2:Nat)=9;decide)]
theorem fN:kv []=[]:=rfl
theorem Sk(t:Tr)(k:Nat):hk t k=if k<=jJ t then te t else tk [40]::(te t++[tk [41]]):=by
 unfold hk BH;split
 ·rfl
 ·rw[eP,fh,eP,fN]
def Ue(l:List eD):Prop:=(hd l).t≠[91]/\(hd l).t≠[40]
def MX(X:List eD)(y:Tr)(d:Nat):Prop:=∀F a,(hd a).t≠[40]->12*X.length+4<=F->∃b,F<=b+12*X.length/\eW F 2 0 d .nil 0 (X++a)=eW b 3 0 d y 0 a
def OX(X:List eD)(y:Tr)(d:Nat):Prop:=∀F a,Ue a->12*X.length+4<=F->eW F 2 0 d .nil 0 (X++a)= .ok (y,a)
def AX(k:Nat)(X:List eD)(y:Tr)(d:Nat):Prop:=∀F a,fT (hd a).t<=k->Ue a->12*X.length+(12-k)<=F->∃b,F<=b+12*X.length/\eW F 0 k d .nil 0 (X++a)=eW b 1 k d y 0 a
def BX(k:Nat)(X:List eD)(y:Tr)(d:Nat):Prop:=∀F a,fT (hd a).t<k->Ue a->12*X.length+(12-k)<=F->eW F 0 k d .nil 0 (X++a)= .ok (y,a)
def Sl(X:List eD):Prop:=∃x q,X=x::q/\x.p=0
theorem Sl.len{X:List eD}(h:Sl X):1<=X.length:=by
 obtain⟨x,q,rfl,_⟩:=h;simp
theorem Sl.p{X:List eD}(h:Sl X)(r:List eD):(hd (X++r)).p=0:=by
 obtain⟨x,q,rfl,e⟩:=h;exact e
structure All (X:List eD) (y:Tr) (d h:Nat):Prop where
 pos:Sl X
 m:8<=h->MX X y d
 o:7<=h->OX X y d
 a:∀k,k<=6->k<=h->AX k X y d
 b:∀k,k<=7->k<=h->BX k X y d
theorem All.mono{X:List eD}{y:Tr}{d h h':Nat}(H:All X y d h)(c:h'<=h):All X y d h':=⟨H.pos,λe=>H.m (by omega),λe=>H.o (by omega),λk h1 h2=>H.a k h1 (by omega),λk h1 h2=>H.b k h1 (by omega)⟩
theorem Dt(x:Tr):te (chain [x])=te x:=by
 rw[show chain [x]=cc x ce from rfl];unfold te;rw[Gh,Gi];simp[Kv]
theorem Du(x y:Tr)(xs:List Tr):te (chain (x::y::xs))=te x++(tk [44]::te (chain (y::xs))):=by
 rw[show chain (x::y::xs)=cc x (chain (y::xs)) from rfl];unfold te;rw[Gh,fh,fh,show Kv (chain (y::xs))=[fx [44],bl 32] from rfl,eP,gQ,fN];rfl
theorem Lj(a n:Int)(nm op:By)(l r g:Tr):jJ (nd 3 a n nm op l r g)=fT op:=by simp[jJ]
theorem Ch(a n:Int)(nm b:By)(l r g:Tr):jJ (nd 4 a n nm b l r g)=7:=by simp[jJ]
theorem lS{c:Int}(a n:Int)(nm b:By)(l r g:Tr)(d:c≠3)(e:c≠4):jJ (nd c a n nm b l r g)=8:=by simp[jJ,d,e]
end Go.Proofs.YtnfhpdbbfejioaaGreatDoor
namespace Go.Proofs.YtnfhpdbbfejioaaGreatDoor
open Go
def fk(l:List eD):Prop:=∀x∈l,(x.k=0->x.t.length<=12->zf x.t)/\(x.k=2->RH x.t)/\(x.k=3->x.t=[])
theorem fk.tail{l:List eD}(h:fk l):fk l.tail:=λx a=>h x (List.mem_of_mem_tail a)
theorem fk.hd{l:List eD}(h:fk l):((hd l).k=0->(hd l).t.length<=12->zf (hd l).t)/\((hd l).k=2->RH (hd l).t)/\((hd l).k=3->(hd l).t=[]):=by
 cases l with
 |nil=>exact⟨λe=>(by cases e),λe=>(by cases e),λ_=>rfl⟩
 |cons x l=>exact h x (by simp)
theorem iD{l:List eD}(h:(hd l).t≠[]):l.tail.length+1=l.length:=by
 cases l with
 |nil=>exact absurd rfl h
 |cons x l=>simp
theorem vB{l:List eD}(h:fk l)(hk:(hd l).k=0\/(hd l).k=2):l.tail.length+1=l.length:=by
 cases l with
 |nil=>rcases hk with e|e<;>cases e
 |cons x l=>simp
theorem JC{t:Tr}{k k':Nat}(h:k<=k'):up t k<=up t k':=by
 unfold up;split<;>split<;>omega
theorem NX(t:Tr)(k:Nat):up t k<=1:=by
 unfold up;split<;>omega
theorem lm(t:Tr)(k:Nat):(hk t k).length=(te t).length+2*up t k:=by
 rw[Sk];unfold up;split
 ·omega
 ·simp only[aZ,bh,bN]
def RL(a d:Nat)(t:Tr)(n m:Nat):Prop:=(∃e,RE e (d+up t a) t)/\(hk t a).length+n<=m
theorem RL.low{a b d n m:Nat}{t:Tr}(h:RL b d t n m)(c:a<=b):RL a d t n m:=by
 obtain⟨⟨e,h1⟩,h2⟩:=h;have:=JC (t:=t) c;rw[lm]at h2;exact⟨⟨e,iT _ _ _ _ _ (aD _) (by omega) h1⟩,by rw[lm];omega⟩
def ExR(g a d:Nat)(x:Tr)(l:List eD)(t:Tr)(b:List eD):Prop:=fk b/\
 (if g=0 then RL a d t b.length l.length
  else if g=1 then RL a d t b.length (l.length+(hk x a).length)
  else if g=2 then RL 7 d t b.length l.length
  else if g=3 then RL 8 d t b.length (l.length+(hk x 8).length)
  else if g=4 then RL 8 d t b.length l.length
  else if g=5 then(∃e,RE e (d+1) t)/\(te t).length+2+b.length<=l.length
  else if g=6 then(∃e,RE e (d+1) t)/\(te t).length+1+b.length<=l.length
  else∃xs,xs≠[]/\t=chain xs/\(∃e,∀x∈xs,RE e (d+1) x)/\(te t).length+1+b.length<=l.length)
def Tj(g a:Nat):Nat:=if g=1 then a else 8
theorem Tk(a:Int)(b:By)(l r:Tr):(te (nd 3 a 0 [] b l r ce)).length=(hk l (fT b)).length+1+(hk r (fT b+1)).length:=by
 unfold te hk;rw[Ry,fh,fh,gQ,eP,gQ,fN];simp;omega
theorem Tn(a:Int)(l r:Tr):(te (nd 8 a 0 [] [] l r ce)).length=(hk l 8).length+2+(te r).length:=by
 unfold te hk;rw[RD,fh,eP,fh,eP,fN];simp;omega
theorem xk{t:Tr}{k:Nat}(h:k<=jJ t):up t k=0:=if_pos h
theorem iV:∀(f g lv d:Nat)(x:Tr)(p:Nat)(l:List eD)(t:Tr)(a:List eD),(g<=1->1<=lv/\lv<=7)->(g=1\/g=3->∃e,RE e (d+up x (Tj g lv)) x)->(g=4->12<d->(hd l).k=3)->fk l->eW f g lv d x p l= .ok (t,a)->ExR g lv d x l t a
 |0,_,_,_,_,_,_,_,_,_,_,_,_,h=>by simp[eW]at h
 |f+1,0,lv,d,x,p,l,t,a,M,J,O,j,h=>by
  show fk a/\RL lv d t a.length l.length;obtain⟨v1,v7⟩:=M (by omega);rw[eW]at h;split at h
  ·obtain rfl:lv=7:=by omega
   exact iV f 2 0 d .nil 0 l t a (λh=>by omega) (λh=>by omega) (λh=>by omega) j h
  ·obtain⟨y,b,h1,h2⟩:=ee h;obtain⟨s,q⟩:fk b/\RL (lv+1) d y b.length l.length:=iV f 0 (lv+1) d .nil 0 l y b (λ_=>⟨by omega,by omega⟩) (λh=>by omega) (λh=>by omega) j h1;have o:=q.low (dK lv);obtain⟨P,N,r3⟩:fk a/\RL lv d t a.length (b.length+(hk y lv).length):=iV f 1 lv d y _ b t a (λ_=>⟨v1,v7⟩) (λ_=>o.1) (λh=>by omega) s h2;exact⟨P,N,by have:=o.2;omega⟩
 |f+1,1,lv,d,x,p,l,t,a,M,J,O,j,h=>by
  show fk a/\RL lv d t a.length (l.length+(hk x lv).length);obtain⟨v1,v7⟩:=M (by omega);obtain⟨e,D⟩:=J (.inl rfl);rw[show Tj 1 lv=lv from rfl]at D;rw[eW]at h;split at h
  ·rename_i w;have hm:=Dl (m:=(hd l).t) (by omega);have A7:(hd l).t≠[]:=λe=>by rw[e]at w;rw[<-w]at v1;revert v1;decide
   have C:=iD A7;obtain⟨y,b,h1,h2⟩:=ee h;obtain⟨s,⟨B,q⟩,o⟩:fk b/\RL (lv+1) d y b.length l.tail.length:=iV f 0 (lv+1) d .nil 0 l.tail y b (λ_=>⟨by omega,by omega⟩) (λh=>by omega) (λh=>by omega) j.tail h1;have hh:jJ (nd 3 p 0 [] (hd l).t x y ce)=lv:=by rw[Lj,w]
   have G:RE (max e B+1) (d+up (nd 3 p 0 [] (hd l).t x y ce) lv) (nd 3 p 0 [] (hd l).t x y ce):=by
    rw[xk (by omega),RE];refine⟨by have:=Gj D;omega,.inr (.inr (.inl ⟨_,_,_,_,by omega,?_,?_,rfl⟩))⟩
    ·rw[w];exact iT _ _ _ _ _ (dc _ _) (by omega) D
    ·rw[w];exact iT _ _ _ _ _ (cU _ _) (by omega) q
   obtain⟨P,N,r3⟩:fk a/\RL lv d t a.length (b.length+(hk (nd 3 p 0 [] (hd l).t x y ce) lv).length):=iV f 1 lv d _ p b t a (λ_=>⟨v1,v7⟩) (λ_=>⟨_,G⟩) (λh=>by omega) s h2;refine⟨P,N,?_⟩;have e3:=Tk p (hd l).t x y;rw[w]at e3;have e4:=lm (nd 3 p 0 [] (hd l).t x y ce) lv;rw[xk (by omega),e3]at e4;omega
  ·obtain⟨rfl,rfl⟩:=eV h;exact⟨j,⟨e,D⟩,by omega⟩
 |f+1,2,lv,d,x,p,l,t,a,M,J,O,j,h=>by
  show fk a/\RL 7 d t a.length l.length;rw[eW]at h;obtain⟨_,_,Q,h⟩:=ee h;split at h
  ·rename_i w;obtain⟨y,b,h1,h2⟩:=ee h;have C:=iD (l:=l) (by rcases w with e|e<;>rw[e]<;>simp);obtain⟨s,⟨B,q⟩,o⟩:fk b/\RL 7 (d+1) y b.length l.tail.length:=iV f 2 0 (d+1) .nil 0 l.tail y b (λh=>by omega) (λh=>by omega) (λh=>by omega) j.tail h1;obtain⟨rfl,rfl⟩:=eV h2;refine⟨s,⟨B+1,?_⟩,?_⟩
   ·rw[xk (by rw[Ch];omega),RE];exact⟨by have:=Gj q;omega,.inr (.inr (.inr (.inl ⟨_,_,_,w,q,rfl⟩)))⟩
   ·rw[lm,xk (by rw[Ch];omega)];have:(te (nd 4 (hd l).p 0 [] (hd l).t y .nil ce)).length=(hk y 7).length+1:=by
     unfold te hk;rw[Rz,eP];simp
    omega
  ·obtain⟨y,b,h1,h2⟩:=ee h;obtain⟨s,q⟩:fk b/\RL 8 d y b.length l.length:=iV f 4 0 d .nil 0 l y b (λh=>by omega) (λh=>by omega) (λ_ L=>by
    unfold l8 at Q;split at Q
    ·cases Q
    ·rename_i A4;rcases Nat.decEq (hd l).k 3 with hk|hk
     ·exact absurd ⟨L,hk⟩ A4
     ·exact hk) j h1
   obtain⟨P,N,r3⟩:fk a/\RL 8 d t a.length (b.length+(hk y 8).length):=iV f 3 0 d y _ b t a (λh=>by omega) (λ_=>q.1) (λh=>by omega) s h2;exact⟨P,RL.low ⟨N,by have:=q.2;omega⟩ (by omega)⟩
 |f+1,3,lv,d,x,p,l,t,a,M,J,O,j,h=>by
  show fk a/\RL 8 d t a.length (l.length+(hk x 8).length);obtain⟨e,D⟩:=J (.inr rfl);rw[show Tj 3 lv=8 from rfl]at D;rw[eW]at h;split at h
  ·rename_i w;have C:=iD (l:=l) (by rw[w];simp);obtain⟨y,b,h1,h2⟩:=ee h;obtain⟨s,⟨B,q⟩,o⟩:fk b/\(∃e,RE e (d+1) y)/\(te y).length+1+b.length<=l.tail.length:=iV f 6 0 d .nil 0 l.tail y b (λh=>by omega) (λh=>by omega) (λh=>by omega) j.tail h1;have hh:jJ (nd 8 p 0 [] [] x y ce)=8:=lS _ _ _ _ _ _ _ (by decide) (by decide);have G:RE (max e B+1) (d+up (nd 8 p 0 [] [] x y ce) 8) (nd 8 p 0 [] [] x y ce):=by
    rw[xk (by omega),RE];exact⟨by have:=Gj D;omega,.inr (.inr (.inr (.inr (.inr (.inr (.inr (.inl ⟨_,_,_,iT _ _ _ _ _ (dc _ _) (by omega) D,iT _ _ _ _ _ (cU _ _) (by omega) q,rfl⟩)))))))⟩
   obtain⟨P,N,r3⟩:fk a/\RL 8 d t a.length (b.length+(hk (nd 8 p 0 [] [] x y ce) 8).length):=iV f 3 0 d _ p b t a (λh=>by omega) (λ_=>⟨_,G⟩) (λh=>by omega) s h2;refine⟨P,N,?_⟩;have e3:=Tn p x y;have e4:=lm (nd 8 p 0 [] [] x y ce) 8;rw[xk (by omega),e3]at e4;omega
  ·obtain⟨rfl,rfl⟩:=eV h;exact⟨j,⟨e,D⟩,by omega⟩
 |f+1,4,lv,d,x,p,l,t,a,M,J,O,j,h=>by
  show fk a/\RL 8 d t a.length l.length;have i:∀(t:Tr)(n m:Nat),jJ t=8->(∃e,RE e d t)->(te t).length+n<=m->RL 8 d t n m:=λt n m h8 ⟨e,hr⟩ hl=>⟨⟨e,by rw[xk (by omega)];exact hr⟩,by rw[lm,xk (by omega)];omega⟩;have E:(hd l).k≠3->d<=12:=λhk=>by
   rcases bG 12 d with L|L
   ·exact absurd (O rfl L) hk
   ·exact L
  have F:(hd l).t≠[]->d<=12:=λw=>E λe=>w (j.hd.2.2 e);rw[eW]at h;split at h
  ·rename_i hk;obtain⟨v,b,h1,h2⟩:=ee h;obtain⟨I,rfl⟩:=GL h1;have C:=vB j (.inr hk);have Z:=j.hd.2.1 hk;have A6:=Lib.parseIntB_bounds I;have A2:((2^(64-1):Nat):Int)=9223372036854775808:=by decide
   rw[A2]at A6;have A1:0<=v:=by
    cases hw:(hd l).t with
    |nil=>exact absurd hw Z.1
    |cons c r=>
     have hc:js.contains c=true:=Z.2 c (by rw[hw];simp);have W:c.toNat≠45:=λe=>by
      have:c=45:=df.1 e;rw[this]at hc
      revert hc
      decide
     rw[hw]at I;simp only[Lib.parseIntB]at I;split at I
     ·cases I
     ·cases I
     ·rename_i u hu;rw[if_neg (show ¬c.toNat=45 from W)]at I;split at I
      ·cases I
      ·split at I
       ·cases I
       ·injection I with I;omega
   obtain⟨rfl,rfl⟩:=eV h2;refine⟨j.tail,i _ _ _ (lS _ _ _ _ _ _ _ (by decide) (by decide)) ⟨1,?_⟩ ?_⟩
   ·rw[RE];exact⟨E (by omega),.inl ⟨_,_,A1,by omega,rfl⟩⟩
   ·unfold te;rw[Rw,PT,fN];simp;omega
  split at h
  ·rename_i B1 hk;obtain⟨nm,b,h1,h2⟩:=ee h;obtain⟨_,rfl,A0,rfl⟩:=r9 h1;have C:=vB j (.inl hk);have K:=j.hd.1 hk A0;split at h2
   ·rename_i A5;have H:=iD (l:=l.tail) (by rw[A5];simp);split at h2
    ·rename_i A3;have A8:=iD (l:=l.tail.tail) (by rw[A3];simp);obtain⟨rfl,rfl⟩:=eV h2;refine⟨j.tail.tail.tail,i _ _ _ (lS _ _ _ _ _ _ _ (by decide) (by decide)) ⟨1,?_⟩ ?_⟩
     ·rw[RE];exact⟨E (by omega),.inr (.inr (.inr (.inr (.inl ⟨_,_,[],K,λx J=>by simp at J,rfl⟩))))⟩
     ·unfold te;rw[Kw,mV,eP,Gi,dV,eP,fN];simp;omega
    ·obtain⟨U,A,S,h4⟩:=ee h2;obtain⟨s,xs,Y,rfl,⟨B,q⟩,N⟩:fk A/\∃xs,xs≠[]/\U=chain xs/\(∃e,∀x∈xs,RE e (d+1) x)/\(te U).length+1+A.length<=l.tail.tail.length:=iV f 7 0 d ce 0 l.tail.tail U A (λh=>by omega) (λh=>by omega) (λh=>by omega) j.tail.tail S;obtain⟨rfl,rfl⟩:=eV h4;refine⟨s,i _ _ _ (lS _ _ _ _ _ _ _ (by decide) (by decide)) ⟨B+1,?_⟩ ?_⟩
     ·rw[RE];exact⟨E (by omega),.inr (.inr (.inr (.inr (.inl ⟨_,_,xs,K,q,rfl⟩))))⟩
     ·have:(te (nd 5 (hd l).p 0 (hd l).t [] .nil .nil (chain xs))).length=(te (chain xs)).length+3:=by
       unfold te;rw[Kw,mV,eP,fh,eP,fN];simp
      omega
   ·obtain⟨rfl,rfl⟩:=eV h2;refine⟨j.tail,i _ _ _ (lS _ _ _ _ _ _ _ (by decide) (by decide)) ⟨1,?_⟩ ?_⟩
    ·rw[RE];exact⟨E (by omega),.inr (.inl ⟨_,_,K,rfl⟩)⟩
    ·unfold te;rw[Rx,mV,fN];simp;omega
  split at h
  ·rename_i w;have C:=iD (l:=l) (by rw[w];simp);obtain⟨y,b,h1,h2⟩:=ee h;obtain⟨s,⟨B,q⟩,o⟩:fk b/\(∃e,RE e (d+1) y)/\(te y).length+2+b.length<=l.tail.length:=iV f 5 0 d .nil 0 l.tail y b (λh=>by omega) (λh=>by omega) (λh=>by omega) j.tail h1;obtain⟨rfl,rfl⟩:=eV h2;refine⟨s,i _ _ _ (lS _ _ _ _ _ _ _ (by decide) (by decide)) ⟨B+1,?_⟩ ?_⟩
   ·rw[RE];exact⟨F (by rw[w];simp),.inr (.inr (.inr (.inr (.inr (.inl ⟨_,_,q,rfl⟩)))))⟩
   ·have:(te (nd 6 (hd l).p 0 [] [] y .nil ce)).length=(te y).length+3:=by
     unfold te;rw[RA,eP,eP,fh,eP,fN];simp
    omega
  split at h
  ·rename_i w;have C:=iD (l:=l) (by rw[w];simp);obtain⟨y,b,h1,h2⟩:=ee h;obtain⟨s,⟨B,q⟩,o⟩:fk b/\(∃e,RE e (d+1) y)/\(te y).length+2+b.length<=l.tail.length:=iV f 5 0 d .nil 0 l.tail y b (λh=>by omega) (λh=>by omega) (λh=>by omega) j.tail h1;obtain⟨rfl,rfl⟩:=eV h2;refine⟨s,i _ _ _ (lS _ _ _ _ _ _ _ (by decide) (by decide)) ⟨B+1,?_⟩ ?_⟩
   ·rw[RE];exact⟨F (by rw[w];simp),.inr (.inr (.inr (.inr (.inr (.inr (.inl ⟨_,_,q,rfl⟩))))))⟩
   ·have:(te (nd 7 (hd l).p 0 [] [] y .nil ce)).length=(te y).length+3:=by
     unfold te;rw[RB,eP,eP,fh,eP,fN];simp
    omega
  split at h
  ·rename_i w;have C:=iD (l:=l) (by rw[w];simp);obtain⟨_,b,h1,h⟩:=ee h;obtain⟨n1,rfl⟩:=io h1;have A9:=iD (l:=l.tail) (by rw[n1];simp);obtain⟨_,A,h2,h⟩:=ee h;obtain⟨T,rfl⟩:=io h2;have H:=iD (l:=l.tail.tail) (by rw[T];simp);obtain⟨rfl,rfl⟩:=eV h;refine⟨j.tail.tail.tail,i _ _ _ (lS _ _ _ _ _ _ _ (by decide) (by decide)) ⟨1,?_⟩ ?_⟩
   ·rw[RE];exact⟨F (by rw[w];simp),.inr (.inr (.inr (.inr (.inr (.inr (.inr (.inr ⟨_,rfl⟩)))))))⟩
   ·unfold te;rw[RG,eP,eP,eP,fN];simp;omega
  ·obtain⟨s,⟨B,q⟩,o⟩:fk a/\(∃e,RE e (d+1) t)/\(te t).length+2+a.length<=l.length:=iV f 5 0 d .nil 0 l t a (λh=>by omega) (λh=>by omega) (λh=>by omega) j h;have hu:=NX t 8;exact⟨s,⟨B,iT _ _ _ _ _ (aD _) (by omega) q⟩,by rw[lm];omega⟩
 |f+1,5,lv,d,x,p,l,t,a,M,J,O,j,h=>by
  show fk a/\(∃e,RE e (d+1) t)/\(te t).length+2+a.length<=l.length;rw[eW]at h;obtain⟨_,b,h1,h⟩:=ee h;obtain⟨n1,rfl⟩:=io h1;have C:=iD (l:=l) (by rw[n1];simp);obtain⟨y,A,h2,h⟩:=ee h;obtain⟨s,⟨B,q⟩,o⟩:fk A/\RL 1 (d+1) y A.length l.tail.length:=iV f 0 1 (d+1) .nil 0 l.tail y A (λ_=>⟨by omega,by omega⟩) (λh=>by omega) (λh=>by omega) j.tail h2;obtain⟨_,l3,S,h⟩:=ee h;obtain⟨T,rfl⟩:=io S;have H:=iD (l:=A) (by rw[T];simp);obtain⟨rfl,rfl⟩:=eV h;rw[lm]at o;exact⟨s.tail,⟨B,iT _ _ _ _ _ (aD _) (by omega) q⟩,by omega⟩
 |f+1,6,lv,d,x,p,l,t,a,M,J,O,j,h=>by
  show fk a/\(∃e,RE e (d+1) t)/\(te t).length+1+a.length<=l.length;rw[eW]at h;obtain⟨y,A,h2,h⟩:=ee h;obtain⟨s,⟨B,q⟩,o⟩:fk A/\RL 1 (d+1) y A.length l.length:=iV f 0 1 (d+1) .nil 0 l y A (λ_=>⟨by omega,by omega⟩) (λh=>by omega) (λh=>by omega) j h2;obtain⟨_,l3,S,h⟩:=ee h;obtain⟨T,rfl⟩:=io S;have H:=iD (l:=A) (by rw[T];simp);obtain⟨rfl,rfl⟩:=eV h;rw[lm]at o;exact⟨s.tail,⟨B,iT _ _ _ _ _ (aD _) (by omega) q⟩,by omega⟩
 |f+1,7,lv,d,x,p,l,t,a,M,J,O,j,h=>by
  show fk a/\∃xs,xs≠[]/\t=chain xs/\(∃e,∀x∈xs,RE e (d+1) x)/\(te t).length+1+a.length<=l.length;rw[eW]at h;obtain⟨y,A,h2,h⟩:=ee h;obtain⟨s,⟨B,q⟩,o⟩:fk A/\RL 1 (d+1) y A.length l.length:=iV f 0 1 (d+1) .nil 0 l y A (λ_=>⟨by omega,by omega⟩) (λh=>by omega) (λh=>by omega) j h2;rw[lm]at o;split at h
  ·rename_i w;have C:=iD (l:=A) (by rw[w];simp);obtain⟨U,l4,h5,h⟩:=ee h;obtain⟨P,xs,Y,rfl,⟨e2,N⟩,B0⟩:fk l4/\∃xs,xs≠[]/\U=chain xs/\(∃e,∀x∈xs,RE e (d+1) x)/\(te U).length+1+l4.length<=A.tail.length:=iV f 7 0 d ce 0 A.tail U l4 (λh=>by omega) (λh=>by omega) (λh=>by omega) s.tail h5;obtain⟨rfl,rfl⟩:=eV h;refine⟨P,y::xs,by simp,rfl,⟨max B e2,λz V=>?_⟩,?_⟩
   ·rcases aY.1 V with rfl|V
    ·exact iT _ _ _ _ _ (dc _ _) (by omega) q
    ·exact iT _ _ _ _ _ (cU _ _) (by omega) (N z V)
   ·cases xs with
    |nil=>exact absurd rfl Y
    |cons z xs=>
     have:=Du y z xs;have e9:(te (cc y (chain (z::xs)))).length=(te y).length+1+(te (chain (z::xs))).length:=by
      rw[show cc y (chain (z::xs))=chain (y::z::xs) from rfl,this];simp;omega
     omega
  ·obtain⟨_,l3,S,h⟩:=ee h;obtain⟨T,rfl⟩:=io S;have H:=iD (l:=A) (by rw[T];simp);obtain⟨rfl,rfl⟩:=eV h;refine⟨s.tail,[y],by simp,rfl,⟨B,λz V=>?_⟩,?_⟩
   ·rw[a_]at V;subst V;exact iT _ _ _ _ _ (aD _) (by omega) q
   ·rw[show cc y ce=chain [y] from rfl,Dt];omega
 |f+1,g+8,lv,d,x,p,l,t,a,M,J,O,j,h=>by simp[eW]at h
end Go.Proofs.YtnfhpdbbfejioaaGreatDoor
namespace Go.Proofs.YtnfhpdbbfejioaaGreatDoor
open Go
def sp(n:Nat):List Pc:=List.replicate n (bl 32)
theorem zZ:∀(n:Nat)(q:List Pc),kv (sp n++q)=kv q
 |0,q=>rfl
 |n+1,q=>by
  show kv (bl 32::(sp n++q))=_;rw[gQ,zZ n q]
def nl(v:Tr):List Pc:=fx [40]::(iY v++[fx [41]])
def kC(c:Int)(nm:By)(a:Tr):List Pc:=
 if c=1 then[fx [118,97,114],bl 32,⟨0,nm⟩,bl 32,fx [61],bl 32] else if c=2 then[⟨0,nm⟩,bl 32,fx [61],bl 32] else if c=3 then⟨0,nm⟩::((fx [91]::(iY a++[fx [93]]))++[bl 32,fx [61],bl 32]) else if c=6 then[fx [114,101,116,117,114,110],bl 32] else if c=7 then[fx [112,114,105,110,116],bl 32] else[]
def zg(n:Nat):Tr->List Pc
 | .slice [.agg [.lit (.int _ c),.lit (.int _ _),.lit (.string nm),a,v,b,el]] [g]=>
  sp (n+2)++((if c=4 then[fx [105,102],bl 32]++(nl v++(([bl 32,fx [123],bl 10]++(zg (n+2) b++(sp (n+2)++[fx [125]])))++(if zm el then[] else[bl 32,fx [101,108,115,101]]++([bl 32,fx [123],bl 10]++(zg (n+2) el++(sp (n+2)++[fx [125]]))))))
   else if c=5 then[fx [119,104,105,108,101],bl 32]++(nl v++([bl 32,fx [123],bl 10]++(zg (n+2) b++(sp (n+2)++[fx [125]]))))
   else kC c nm a++(iY v++[fx [59]]))++([bl 10]++zg n g))
 |_=>[]
def yu(n:Nat)(g:Tr):List Pc:=[bl 32,fx [123],bl 10]++(zg n g++(sp n++[fx [125]]))
def MM(n:Nat):Tr->List Pc
 | .agg [.lit (.int _ c),.lit (.int _ _),.lit (.string nm),a,v,b,el]=>
  if c=4 then[fx [105,102],bl 32]++(nl v++(yu n b++(if zm el then[] else[bl 32,fx [101,108,115,101]]++yu n el)))
  else if c=5 then[fx [119,104,105,108,101],bl 32]++(nl v++yu n b)
  else kC c nm a++(iY v++[fx [59]])
 |_=>[]
theorem jK(n:Nat)(c a:Int)(nm:By)(b v d el g:Tr):zg n (cc (st c a nm b v d el) g)=sp (n+2)++(MM (n+2) (st c a nm b v d el)++([bl 10]++zg n g)):=by
 rw[zg];rfl
theorem Py(n:Nat):zg n ce=[]:=by simp[zg]
theorem MN(n:Nat)(a:Int)(nm:By)(b v c el:Tr):MM n (st 4 a nm b v c el)=[fx [105,102],bl 32]++(nl v++(yu n c++(if zm el then[] else[bl 32,fx [101,108,115,101]]++yu n el))):=by rw[MM];simp
theorem MO(n:Nat)(a:Int)(nm:By)(b v c el:Tr):MM n (st 5 a nm b v c el)=[fx [119,104,105,108,101],bl 32]++(nl v++yu n c):=by rw[MM];simp
theorem nw(n:Nat)(c a:Int)(nm:By)(b v d el:Tr)(e:c≠4)(f:c≠5):MM n (st c a nm b v d el)=kC c nm b++(iY v++[fx [59]]):=by rw[MM];simp[e,f]
def yw(d:Nat)(t:Tr):Prop:=∃e,RE e d t
def RS:Nat->Nat->Tr->Prop
 |0,_,_=>False
 |f+1,d,t=>
  (∃(a:Int)(nm:By)(v:Tr),zf nm/\yw 0 v/\t=st 1 a nm .nil v ce ce)\/
  (∃(a:Int)(nm:By)(v:Tr),zf nm/\yw 0 v/\t=st 2 a nm .nil v ce ce)\/
  (∃(a:Int)(nm:By)(i v:Tr),zf nm/\yw 1 i/\yw 0 v/\t=st 3 a nm i v ce ce)\/
  (∃(a:Int)(v:Tr)(xs c:List Tr),d<=12/\yw 1 v/\(∀x∈xs,RS f (d+1) x)/\(∀y∈c,RS f (d+1) y)/\t=st 4 a [] .nil v (chain xs) (chain c))\/
  (∃(a:Int)(v:Tr)(xs:List Tr),d<=12/\yw 1 v/\(∀x∈xs,RS f (d+1) x)/\t=st 5 a [] .nil v (chain xs) ce)\/
  (∃(a:Int)(v:Tr),yw 0 v/\t=st 6 a [] .nil v ce ce)\/
  (∃(a:Int)(v:Tr),yw 0 v/\t=st 7 a [] .nil v ce ce)\/
  (∃(a b:Int)(nm:By)(xs:List Tr),zf nm/\(∃e,∀x∈xs,RE e 1 x)/\t=st 8 a [] .nil (nd 5 b 0 nm [] .nil .nil (chain xs)) ce ce)
theorem qr:∀(f b d:Nat)(t:Tr),f<=b->RS f d t->RS b d t
 |0,_,_,_,_,h=>h.elim
 |f+1,0,_,_,c,_=>by omega
 |f+1,b+1,d,t,c,h=>by
  have g:∀(d:Nat)(t:Tr),RS f d t->RS b d t:=λd t h=>qr f b d t (by omega) h;rw[RS]at h⊢;rcases h with h|h|h|⟨a,v,xs,i,h1,h2,j,k,e⟩|⟨a,v,xs,h1,h2,j,e⟩|h|h|h
  ·exact .inl h
  ·exact .inr (.inl h)
  ·exact .inr (.inr (.inl h))
  ·exact .inr (.inr (.inr (.inl ⟨a,v,xs,i,h1,h2,λx l=>g _ x (j x l),λx l=>g _ x (k x l),e⟩)))
  ·exact .inr (.inr (.inr (.inr (.inl ⟨a,v,xs,h1,h2,λx l=>g _ x (j x l),e⟩))))
  ·exact .inr (.inr (.inr (.inr (.inr (.inl h)))))
  ·exact .inr (.inr (.inr (.inr (.inr (.inr (.inl h))))))
  ·exact .inr (.inr (.inr (.inr (.inr (.inr (.inr h))))))
end Go.Proofs.YtnfhpdbbfejioaaGreatDoor
namespace Go.Proofs.YtnfhpdbbfejioaaGreatDoor
open Go
abbrev tm(n:Nat)(t:Tr):List eD:=kv (MM n t)
abbrev ts(n:Nat)(t:Tr):List eD:=kv (zg n t)
theorem Q8(n:Nat):ts n ce=[]:=by unfold ts;rw[Py];rfl
theorem JY(n:Nat)(c a:Int)(nm:By)(b v d el g:Tr):ts n (cc (st c a nm b v d el) g)=tm (n+2) (st c a nm b v d el)++ts n g:=by
 unfold ts tm;rw[jK,zZ,fh];show _++kv (bl 10::zg n g)=_;rw[gQ]
theorem Bi(n:Nat)(g:Tr):kv (yu n g)=tk [123]::(ts n g++[tk [125]]):=by
 unfold yu;show kv (bl 32::fx [123]::bl 10::(zg n g++(sp n++[fx [125]])))=_;rw[gQ,eP,gQ,fh,zZ,eP,fN]
theorem Mv(v:Tr):kv (nl v)=tk [40]::(te v++[tk [41]]):=by
 unfold nl;rw[eP,fh,eP,fN]
abbrev nt(x:By):eD:=⟨0,x,0⟩
theorem TB(n:Nat)(a:Int)(nm:By)(v:Tr):tm n (st 1 a nm .nil v ce ce)=tk [118,97,114]::nt nm::tk [61]::(te v++[tk [59]]):=by
 unfold tm;rw[nw _ _ _ _ _ _ _ _ (by decide) (by decide),show kC 1 nm .nil=[fx [118,97,114],bl 32,⟨0,nm⟩,bl 32,fx [61],bl 32] by simp[kC]];show kv (fx _::bl 32::⟨0,nm⟩::bl 32::fx [61]::bl 32::(iY v++[fx [59]]))=_;rw[eP,gQ,mV,gQ,eP,gQ,fh,eP,fN]
theorem TC(n:Nat)(a:Int)(nm:By)(v:Tr):tm n (st 2 a nm .nil v ce ce)=nt nm::tk [61]::(te v++[tk [59]]):=by
 unfold tm;rw[nw _ _ _ _ _ _ _ _ (by decide) (by decide),show kC 2 nm .nil=[⟨0,nm⟩,bl 32,fx [61],bl 32] by simp[kC]];show kv (⟨0,nm⟩::bl 32::fx [61]::bl 32::(iY v++[fx [59]]))=_;rw[mV,gQ,eP,gQ,fh,eP,fN]
theorem TD(n:Nat)(a:Int)(nm:By)(i v:Tr):tm n (st 3 a nm i v ce ce)=nt nm::tk [91]::(te i++(tk [93]::tk [61]::(te v++[tk [59]]))):=by
 unfold tm;rw[nw _ _ _ _ _ _ _ _ (by decide) (by decide),show kC 3 nm i=⟨0,nm⟩::((fx [91]::(iY i++[fx [93]]))++[bl 32,fx [61],bl 32]) by simp[kC]];have:(⟨0,nm⟩::((fx [91]::(iY i++[fx [93]]))++[bl 32,fx [61],bl 32]))++(iY v++[fx [59]])=⟨0,nm⟩::fx [91]::(iY i++(fx [93]::bl 32::fx [61]::bl 32::(iY v++[fx [59]]))):=by simp
 rw[this,mV,eP,fh,eP,gQ,eP,gQ,fh,eP,fN]
theorem Q9(n:Nat)(a:Int)(v b el:Tr):tm n (st 4 a [] .nil v b el)=tk [105,102]::(tk [40]::(te v++(tk [41]::tk [123]::(ts n b++(tk [125]::(if zm el then[] else tk [101,108,115,101]::tk [123]::(ts n el++[tk [125]]))))))):=by
 unfold tm;rw[MN];show kv (fx [105,102]::bl 32::(nl v++(yu n b++_)))=_;rw[eP,gQ,fh,fh,Mv,Bi];split
 ·simp[fN]
 ·have e:kv ([bl 32,fx [101,108,115,101]]++yu n el)=tk [101,108,115,101]::tk [123]::(ts n el++[tk [125]]):=by
   show kv (bl 32::fx [101,108,115,101]::yu n el)=_;rw[gQ,eP,Bi]
  rw[e];simp
theorem TF(n:Nat)(a:Int)(v b:Tr):tm n (st 5 a [] .nil v b ce)=tk [119,104,105,108,101]::(tk [40]::(te v++(tk [41]::tk [123]::(ts n b++[tk [125]])))):=by
 unfold tm;rw[MO];show kv (fx _::bl 32::(nl v++yu n b))=_;rw[eP,gQ,fh,Mv,Bi];simp
theorem TH(n:Nat)(a:Int)(v:Tr):tm n (st 6 a [] .nil v ce ce)=tk [114,101,116,117,114,110]::(te v++[tk [59]]):=by
 unfold tm;rw[nw _ _ _ _ _ _ _ _ (by decide) (by decide),show kC 6 [] .nil=[fx [114,101,116,117,114,110],bl 32] by simp[kC]];show kv (fx _::bl 32::(iY v++[fx [59]]))=_;rw[eP,gQ,fh,eP,fN]
theorem TI(n:Nat)(a:Int)(v:Tr):tm n (st 7 a [] .nil v ce ce)=tk [112,114,105,110,116]::(te v++[tk [59]]):=by
 unfold tm;rw[nw _ _ _ _ _ _ _ _ (by decide) (by decide),show kC 7 [] .nil=[fx [112,114,105,110,116],bl 32] by simp[kC]];show kv (fx _::bl 32::(iY v++[fx [59]]))=_;rw[eP,gQ,fh,eP,fN]
theorem TJ(n:Nat)(a b:Int)(nm:By)(xs:List Tr):tm n (st 8 a [] .nil (nd 5 b 0 nm [] .nil .nil (chain xs)) ce ce)=nt nm::tk [40]::(te (chain xs)++(tk [41]::[tk [59]])):=by
 unfold tm;rw[nw _ _ _ _ _ _ _ _ (by decide) (by decide),show kC 8 [] .nil=[] by simp[kC],Kw];simp only[dV,dP];rw[mV,eP,fh,fh,eP,eP,fN];simp
theorem Bj{f d:Nat}{x:Tr}(g:RS f d x):∃c a nm h v j el,x=st c a nm h v j el:=by
 cases f with
 |zero=>exact g.elim
 |succ f=>
  rw[RS]at g;rcases g with⟨a,nm,v,_,_,e⟩|⟨a,nm,v,_,_,e⟩|⟨a,nm,i,v,_,_,_,e⟩|⟨a,v,xs,k,h1,h2,l,m,e⟩|⟨a,v,xs,h1,h2,l,e⟩|⟨a,v,_,e⟩|⟨a,v,_,e⟩|⟨a,b,nm,xs,_,_,e⟩<;>exact⟨_,_,_,_,_,_,_,e⟩
theorem Q_{f d:Nat}{x:Tr}(b:RS f d x)(n:Nat)(g:Tr):ts n (cc x g)=tm (n+2) x++ts n g:=by
 obtain⟨c,a,nm,e,v,h,el,rfl⟩:=Bj b;exact JY n c a nm e v h el g
end Go.Proofs.YtnfhpdbbfejioaaGreatDoor
namespace Go.Proofs.YtnfhpdbbfejioaaGreatDoor
open Go
theorem iU{x:By}{l a:List eD}{u:Unit}(b:fk l)(c:x≠[])(h:eC x l= .ok (u,a)):fk a/\a.length+1=l.length:=by
 obtain⟨e,rfl⟩:=io h;exact⟨b.tail,iD (by rw[e];exact c)⟩
theorem r7{l a:List eD}{nm:By}(b:fk l)(h:im l= .ok (nm,a)):zf nm/\fk a/\a.length+1=l.length:=by
 obtain⟨hk,rfl,c,rfl⟩:=r9 h;exact⟨b.hd.1 hk c,b.tail,vB b (.inl hk)⟩
theorem kI{x:By}{l:List eD}(a:fk l)(h:(hd l).t=x)(b:x≠[]):fk l.tail/\l.tail.length+1=l.length:=⟨a.tail,iD (by rw[h];exact b)⟩
theorem p9{l a:List eD}{v:Tr}(b:fk l)(h:iA l= .ok (v,a)):fk a/\yw 0 v/\(te v).length+a.length<=l.length:=by
 obtain⟨c,⟨e,r⟩,d⟩:fk a/\RL 1 0 v a.length l.length:=iV _ 0 1 0 .nil 0 l v a (λ_=>⟨by omega,by omega⟩) (λh=>by omega) (λh=>by omega) b h;rw[lm]at d;exact⟨c,⟨e,iT _ _ _ _ _ (aD _) (by omega) r⟩,by omega⟩
theorem BN{l a:List eD}{v:Tr}(b:fk l)(h:kN l= .ok (v,a)):fk a/\yw 1 v/\(te v).length+2+a.length<=l.length:=
 iV _ 5 0 0 .nil 0 l v a (λh=>by omega) (λh=>by omega) (λh=>by omega) b h
theorem Ph{l a:List eD}{v:Tr}(b:fk l)(h:FK l= .ok (v,a)):fk a/\yw 1 v/\(te v).length+1+a.length<=l.length:=
 iV _ 6 0 0 .nil 0 l v a (λh=>by omega) (λh=>by omega) (λh=>by omega) b h
theorem KG{l d:List eD}{g:Tr}(i:fk l)(h:x_ l= .ok (g,d)):fk d/\∃xs,g=chain xs/\(∃e,∀x∈xs,RE e 1 x)/\(te g).length+1+d.length<=l.length:=by
 unfold x_ qE at h;split at h
 ·rename_i f;have n:=iD (l:=l) (by rw[f];simp);obtain⟨rfl,rfl⟩:=eV h;have k:te ce=[]:=by unfold te;rw[Gi];rfl
  exact⟨i.tail,[],rfl,⟨0,λx j=>by simp at j⟩,by rw[k];simp;omega⟩
 ·obtain⟨m,xs,_,a,b,c⟩:fk d/\∃xs,xs≠[]/\g=chain xs/\(∃e,∀x∈xs,RE e (0+1) x)/\(te g).length+1+d.length<=l.length:=iV _ 7 0 0 ce 0 l g d (λh=>by omega) (λh=>by omega) (λh=>by omega) i h;exact⟨m,xs,a,b,c⟩
theorem Gz{a:Nat}{l f:List eD}{t:Tr}(d:Nat)(w:fk l)(h:gW a l= .ok (t,f)):fk f/\RS 1 d t/\∀n,(tm n t).length+f.length<=l.length+1:=by
 unfold gW at h;obtain⟨nm,F,h1,h⟩:=ee h;obtain⟨r,b,E⟩:=r7 w h1;split at h
 ·rename_i k;obtain⟨i,B⟩:=kI b k (by decide);obtain⟨g,D,h2,h⟩:=ee h;obtain⟨o,xs,rfl,A,s⟩:=KG i h2;obtain⟨rfl,rfl⟩:=eV h;refine⟨o,?_,λn=>?_⟩
  ·rw[RS];exact .inr (.inr (.inr (.inr (.inr (.inr (.inr ⟨_,_,nm,xs,r,A,rfl⟩))))))
  ·rw[TJ];simp;omega
 split at h
 ·rename_i c;obtain⟨i,B⟩:=kI b c (by decide);obtain⟨g,D,h2,h⟩:=ee h;obtain⟨o,z,s⟩:=Ph i h2;obtain⟨_,u,m,h⟩:=ee h;obtain⟨j,x⟩:=iU o (by decide) m;obtain⟨v,y,q,h⟩:=ee h;obtain⟨p,e,C⟩:=p9 j q;obtain⟨rfl,rfl⟩:=eV h;refine⟨p,?_,λn=>?_⟩
  ·rw[RS];exact .inr (.inr (.inl ⟨_,nm,_,_,r,z,e,rfl⟩))
  ·rw[TD];simp;omega
 ·obtain⟨_,u,m,h⟩:=ee h;obtain⟨j,x⟩:=iU b (by decide) m;obtain⟨v,y,q,h⟩:=ee h;obtain⟨p,e,C⟩:=p9 j q;obtain⟨rfl,rfl⟩:=eV h;refine⟨p,?_,λn=>?_⟩
  ·rw[RS];exact .inr (.inl ⟨_,nm,_,r,e,rfl⟩)
  ·rw[TC];simp;omega
def StR(g d:Nat)(l:List eD)(t:Tr)(a:List eD):Prop:=fk a/\
 (if g=2 then(∃e,RS e d t)/\∀n,(tm n t).length+a.length<=l.length
  else∃b,t=chain b/\(∃e,∀y∈b,RS e (d+1) y)/\(g=0->d<=12)/\∀n,(ts n t).length+(if g=0 then 2 else 1)+a.length<=l.length)
theorem Pi{a b d c:Nat}{xs e:List Tr}(h1:∀x∈xs,RS a d x)(h2:∀y∈e,RS b c y):(∀x∈xs,RS (max a b) d x)/\(∀y∈e,RS (max a b) c y):=⟨λx f=>qr _ _ _ _ (dc _ _) (h1 x f),λx f=>qr _ _ _ _ (cU _ _) (h2 x f)⟩
theorem tK:∀(f g d:Nat)(l:List eD)(t:Tr)(i:List eD),fk l->iZ f g d l= .ok (t,i)->StR g d l t i
 |0,_,_,_,_,_,_,h=>by simp[iZ]at h
 |f+1,0,d,l,t,i,b,h=>by
  rw[iZ]at h;obtain⟨_,_,O,h⟩:=ee h;obtain⟨_,o,h1,h⟩:=ee h;obtain⟨r,U⟩:=iU b (by decide) h1;have c:d<=12:=by
   have hk:(hd l).k≠3:=λe=>by
    have:=b.hd.2.2 e;rw[(io h1).1]at this;cases this
   unfold l8 at O;split at O
   ·cases O
   ·rename_i P;rcases bG 12 d with hd|hd
    ·exact absurd ⟨hd,hk⟩ P
    ·exact hd
  obtain⟨E,a,B,J,_,Y⟩:fk i/\∃a,t=chain a/\(∃e,∀y∈a,RS e (d+1) y)/\(1=0->d<=12)/\∀n,(ts n t).length+1+i.length<=o.length:=tK f 1 d o t i r h;exact⟨E,a,B,J,λ_=>c,λn=>by have:=Y n;show(ts n t).length+2+i.length<=_;omega⟩
 |f+1,1,d,l,t,i,b,h=>by
  rw[iZ]at h;split at h
  ·rename_i h1;obtain⟨r,U⟩:=kI b h1 (by decide);obtain⟨rfl,rfl⟩:=eV h;exact⟨r,[],rfl,⟨0,λx hx=>by simp at hx⟩,λe=>(by cases e),λn=>by rw[Q8];show 0+1+_<=_;omega⟩
  ·obtain⟨G,o,h1,h⟩:=ee h;obtain⟨r,⟨B,z⟩,D⟩:fk o/\(∃e,RS e (d+1) G)/\∀n,(tm n G).length+o.length<=l.length:=tK f 2 (d+1) l G o b h1;obtain⟨g,H,h2,h⟩:=ee h;obtain⟨E,a,rfl,⟨J,N⟩,_,M⟩:fk H/\∃a,g=chain a/\(∃e,∀y∈a,RS e (d+1) y)/\(1=0->d<=12)/\∀n,(ts n g).length+1+H.length<=o.length:=tK f 1 d o g H r h2;obtain⟨rfl,rfl⟩:=eV h;refine⟨E,G::a,rfl,⟨max B J,λy I=>?_⟩,λe=>(by cases e),λn=>?_⟩
   ·rcases aY.1 I with rfl|I
    ·exact qr _ _ _ _ (dc _ _) z
    ·exact qr _ _ _ _ (cU _ _) (N y I)
   ·rw[Q_ z];have S:=D (n+2);have a2:=M n;show(tm (n+2) G++ts n (chain a)).length+1+H.length<=l.length;rw[bh];omega
 |f+1,2,d,l,t,i,b,h=>by
  show fk i/\(∃e,RS e d t)/\∀n,(tm n t).length+i.length<=l.length;rw[iZ]at h;split at h
  ·obtain⟨G,o,h1,h⟩:=ee h;obtain⟨r,z,D⟩:=Gz d b h1;obtain⟨_,H,h2,h⟩:=ee h;obtain⟨E,s2⟩:=iU r (by decide) h2;obtain⟨rfl,rfl⟩:=eV h;exact⟨E,⟨1,z⟩,λn=>by have:=D n;omega⟩
  split at h
  ·rename_i s;obtain⟨q,L⟩:=kI b s (by decide);obtain⟨nm,o,h1,h⟩:=ee h;obtain⟨V,r,U⟩:=r7 q h1;obtain⟨_,H,h2,h⟩:=ee h;obtain⟨E,s2⟩:=iU r (by decide) h2;obtain⟨v,C,u,h⟩:=ee h;obtain⟨w,m,K⟩:=p9 E u;obtain⟨_,j,A,h⟩:=ee h;obtain⟨p,T⟩:=iU w (by decide) A;obtain⟨rfl,rfl⟩:=eV h;refine⟨p,⟨1,?_⟩,λn=>?_⟩
   ·rw[RS];exact .inl ⟨_,nm,_,V,m,rfl⟩
   ·rw[TB];simp;omega
  split at h
  ·rename_i s;obtain⟨q,L⟩:=kI b s (by decide);obtain⟨v,C,u,h⟩:=ee h;obtain⟨w,m,K⟩:=p9 q u;obtain⟨_,j,A,h⟩:=ee h;obtain⟨p,T⟩:=iU w (by decide) A;obtain⟨rfl,rfl⟩:=eV h;refine⟨p,⟨1,?_⟩,λn=>?_⟩
   ·rw[RS];exact .inr (.inr (.inr (.inr (.inr (.inl ⟨_,_,m,rfl⟩)))))
   ·rw[TH];simp;omega
  split at h
  ·rename_i s;obtain⟨q,L⟩:=kI b s (by decide);obtain⟨v,C,u,h⟩:=ee h;obtain⟨w,m,K⟩:=p9 q u;obtain⟨_,j,A,h⟩:=ee h;obtain⟨p,T⟩:=iU w (by decide) A;obtain⟨rfl,rfl⟩:=eV h;refine⟨p,⟨1,?_⟩,λn=>?_⟩
   ·rw[RS];exact .inr (.inr (.inr (.inr (.inr (.inr (.inl ⟨_,_,m,rfl⟩))))))
   ·rw[TI];simp;omega
  split at h
  ·rename_i s;obtain⟨q,L⟩:=kI b s (by decide);obtain⟨v,C,u,h⟩:=ee h;obtain⟨w,m,K⟩:=BN q u;obtain⟨F,j,A,h⟩:=ee h;obtain⟨p,xs,rfl,⟨B,z⟩,c,D⟩:fk j/\∃a,F=chain a/\(∃e,∀y∈a,RS e (d+1) y)/\(0=0->d<=12)/\∀n,(ts n F).length+2+j.length<=C.length:=tK f 0 d C F j w A;split at h
   ·rename_i h5;obtain⟨T5,s5⟩:=kI p h5 (by decide);obtain⟨el,Q,h6,h⟩:=ee h;obtain⟨W,a,rfl,⟨J,N⟩,_,M⟩:fk Q/\∃a,el=chain a/\(∃e,∀y∈a,RS e (d+1) y)/\(0=0->d<=12)/\∀n,(ts n el).length+2+Q.length<=j.tail.length:=tK f 0 d j.tail el Q T5 h6;obtain⟨rfl,rfl⟩:=eV h;obtain⟨m1,Z⟩:=Pi z N;refine⟨W,⟨max B J+1,?_⟩,λn=>?_⟩
    ·rw[RS];exact .inr (.inr (.inr (.inl ⟨_,_,xs,a,c rfl,m,m1,Z,rfl⟩)))
    ·rw[Q9];have S:=D n;have a2:=M n;split
     ·simp only[aZ,bh,bN];omega
     ·simp only[aZ,bh,bN];omega
   ·obtain⟨rfl,rfl⟩:=eV h;refine⟨p,⟨B+1,?_⟩,λn=>?_⟩
    ·rw[RS];exact .inr (.inr (.inr (.inl ⟨_,_,xs,[],c rfl,m,z,λy I=>by simp at I,rfl⟩)))
    ·rw[Q9];have S:=D n;rw[if_pos (show zm ce=true from rfl)];simp only[aZ,bh,bN];omega
  split at h
  ·rename_i s;obtain⟨q,L⟩:=kI b s (by decide);obtain⟨v,C,u,h⟩:=ee h;obtain⟨w,m,K⟩:=BN q u;obtain⟨F,j,A,h⟩:=ee h;obtain⟨p,xs,rfl,⟨B,z⟩,c,D⟩:fk j/\∃a,F=chain a/\(∃e,∀y∈a,RS e (d+1) y)/\(0=0->d<=12)/\∀n,(ts n F).length+2+j.length<=C.length:=tK f 0 d C F j w A;obtain⟨rfl,rfl⟩:=eV h;refine⟨p,⟨B+1,?_⟩,λn=>?_⟩
   ·rw[RS];exact .inr (.inr (.inr (.inr (.inl ⟨_,_,xs,c rfl,m,z,rfl⟩))))
   ·rw[TF];have S:=D n;simp only[aZ,bh,bN];omega
  ·cases h
 |f+1,g+3,d,l,t,i,b,h=>by simp[iZ]at h
end Go.Proofs.YtnfhpdbbfejioaaGreatDoor
namespace Go.Proofs.YtnfhpdbbfejioaaGreatDoor
open Go Go.RowKit
variable {s:By}{t:Tr}{a v:jU}{d k P b:Nat}{E:Nat->Prop}{w1 w w' w0:jW}
theorem yX(h:gK s= .ok t):∃l c,qW s= .ok l/\ja (l.length+1) 0 l= .ok (t,c):=by
 unfold gK at h;split at h
 ·cases h
 ·rename_i l b;split at h
  ·cases h
  ·rename_i e a d;injection h with h;subst h;exact⟨l,a,b,d⟩
def T8(n:Int):By:=if n=2 then[97,114,114] else[105,110,116]
def QD(x:By×Int):List Pc:=[⟨0,x.1⟩,fx [58],bl 32,fx (T8 x.2)]
def GW:List (By×Int)->List Pc
 |[]=>[]
 |[x]=>QD x
 |x::y::xs=>QD x++(fx [44]::bl 32::GW (y::xs))
def GX(F:eR):List Pc:=fx [102,110]::bl 32::⟨0,F.nm⟩::((fx [40]::(GW F.ps++[fx [41]]))++(yu 0 F.body++[bl 10]))
def IJ(L:List eR):List Pc:=L.flatMap GX
def GY(x:By×Int):Prop:=zf x.1/\(x.2=1\/x.2=2)
def RF(F:eR):Prop:=F.kd= .i64/\zf F.nm/\(∀x∈F.ps,GY x)/\∃xs e,F.body=chain xs/\∀x∈xs,RS e 1 x
theorem ML(x:By×Int)(q:List Pc):kv (QD x++q)=nt x.1::tk [58]::tk (T8 x.2)::kv q:=by
 show kv (⟨0,x.1⟩::fx [58]::bl 32::fx (T8 x.2)::q)=_;rw[mV,eP,gQ,eP]
theorem RZ(F:eR):kv (GX F)=tk [102,110]::nt F.nm::tk [40]::(kv (GW F.ps)++(tk [41]::tk [123]::(ts 0 F.body++[tk [125]]))):=by
 unfold GX;rw[eP,gQ,mV,fh,eP,fh,fh,Bi,eP,fN,gQ,fN];simp
theorem Pt{l a:List eD}(i:fk l)(h:oI l= .ok (t,a)):fk a/\∃x:By×Int,t=pr x.1 x.2/\GY x/\3+a.length=l.length:=by
 unfold oI at h;obtain⟨nm,m,h1,h⟩:=ee h;obtain⟨e,g,k⟩:=r7 i h1;obtain⟨_,o,h2,h⟩:=ee h;obtain⟨d,j⟩:=iU g (by decide) h2;split at h
 ·rename_i b;obtain⟨c,f⟩:=kI d b (by decide);obtain⟨rfl,rfl⟩:=eV h;exact⟨c,(nm,2),rfl,⟨e,.inr rfl⟩,by omega⟩
 ·obtain⟨_,n,b,h⟩:=ee h;obtain⟨c,f⟩:=iU d (by decide) b;obtain⟨rfl,rfl⟩:=eV h;exact⟨c,(nm,1),rfl,⟨e,.inl rfl⟩,by omega⟩
theorem BP:∀(f:Nat){l b:List eD}{t:Tr},fk l->kM f l= .ok (t,b)->fk b/\∃xs:List (By×Int),xs≠[]/\t=DN xs/\(∀x∈xs,GY x)/\(kv (GW xs)).length+1+b.length<=l.length
 |0,l,b,t,k,h=>by simp[kM]at h
 |f+1,l,b,t,k,h=>by
  rw[kM]at h;obtain⟨x,v,h1,h⟩:=ee h;obtain⟨j,p,rfl,i,u⟩:=Pt k h1;split at h
  ·rename_i h2;obtain⟨m,q⟩:=kI j h2 (by decide);obtain⟨g,o,c,h⟩:=ee h;obtain⟨d,xs,e,rfl,n,r⟩:=BP f m c;obtain⟨rfl,rfl⟩:=eV h;refine⟨d,p::xs,by simp,rfl,λz a=>?_,?_⟩
   ·rcases aY.1 a with rfl|a
    ·exact i
    ·exact n z a
   ·cases xs with
    |nil=>exact absurd rfl e
    |cons y xs=>
     rw[GW,ML,eP,gQ];simp only[aZ];omega
  ·obtain⟨_,o,c,h⟩:=ee h;obtain⟨d,s⟩:=iU j (by decide) c;obtain⟨rfl,rfl⟩:=eV h;refine⟨d,[p],by simp,rfl,λz a=>by rw[a_]at a;rw[a];exact i,?_⟩;have:=ML p [];rw[bT]at this;rw[GW,this];simp only[aZ,bN,fN];omega
theorem KW{l d:List eD}(e:fk l)(h:pU l= .ok (t,d)):fk d/\∃xs:List (By×Int),t=DN xs/\(∀x∈xs,GY x)/\(kv (GW xs)).length+1+d.length<=l.length:=by
 unfold pU at h;split at h
 ·rename_i h2;obtain⟨f,i⟩:=kI e h2 (by decide);obtain⟨rfl,rfl⟩:=eV h;exact⟨f,[],rfl,λx g=>by simp at g,by rw[GW,fN];simp;omega⟩
 ·obtain⟨T,xs,_,a,b,c⟩:=BP _ e h;exact⟨T,xs,a,b,c⟩
theorem R9{l a:List eD}(c:fk l)(h:zI l= .ok (t,a)):fk a/\∃F:eR,t=F.tr/\RF F/\(kv (GX F)).length+a.length<=l.length:=by
 unfold zI at h;obtain⟨_,d,h1,h⟩:=ee h;obtain⟨f,g⟩:=iU c (by decide) h1;obtain⟨nm,i,h2,h⟩:=ee h;obtain⟨j,k,m⟩:=r7 f h2;obtain⟨_,o,q,h⟩:=ee h;obtain⟨r,s⟩:=iU k (by decide) q;obtain⟨u,v,w,h⟩:=ee h;obtain⟨x,xs,rfl,z,A⟩:=KW r w;obtain⟨b,B,C,h⟩:=ee h;obtain⟨D,E,rfl,⟨e,G⟩,_,H⟩:fk B/\∃E,b=chain E/\(∃e,∀y∈E,RS e (0+1) y)/\(0=0->0<=12)/\∀n,(ts n b).length+2+B.length<=v.length:=tK _ 0 0 v b B x C;obtain⟨rfl,rfl⟩:=eV h;refine⟨D,⟨nm,.i64,(hd l).p,xs,chain E⟩,rfl,⟨rfl,j,z,E,e,rfl,G⟩,?_⟩;rw[RZ];have:=H 0;simp only[aZ,bh,bN];omega
theorem BQ:∀(f n:Nat){l a:List eD}{t:Tr},fk l->fL l->ja f n l= .ok (t,a)->∃L:List eR,t=chain (L.map eR.tr)/\(∀F∈L,RF F)/\(kv (IJ L)).length+1<=l.length
 |0,n,l,a,t,b,c,h=>by simp[ja]at h
 |f+1,n,l,a,t,b,c,h=>by
  rw[ja]at h;split at h
  ·obtain⟨rfl,rfl⟩:=eV h;exact⟨[],rfl,λF d=>by simp at d,by have:=c.pos;simpa[IJ,kv] using this⟩
  split at h
  ·cases h
  ·obtain⟨x,e,h1,h⟩:=ee h;obtain⟨i,_⟩:=Bz h1 c;obtain⟨j,F,rfl,k,m⟩:=R9 b h1;obtain⟨g,o,h2,h⟩:=ee h;obtain⟨L,rfl,p,q⟩:=BQ f (n+1) j i h2;obtain⟨rfl,rfl⟩:=eV h;refine⟨F::L,rfl,λG r=>?_,?_⟩
   ·rcases aY.1 r with rfl|r
    ·exact k
    ·exact p G r
   ·show(kv (GX F++IJ L)).length+1<=_;rw[fh,bh];omega
theorem Pu{a:By}{t:By}(h:kG a=some (k,t)):(k=0->t.length<=12->zf t)/\(k=2->RH t):=by
 have n:∀(b s:By),∀c∈gO s b,b.contains c=true:=λb s c hc=>by
  unfold gO at hc;have:=List.all_takeWhile (p:=λx=>b.contains x) (l:=s);exact bz.1 this c hc
 unfold kG at h;split at h
 ·rename_i d;injection h with h;injection h with h1 h2;subst h1;subst h2;exact⟨λe=>by omega,λ_=>⟨d,n js a⟩⟩
 ·rename_i d;split at h
  ·rename_i f;injection h with h;injection h with h1 h2;subst h1;subst h2;refine⟨λe j=>⟨f,n rB a,?_,?_,j⟩,λe=>?_⟩
   ·cases a with
    |nil=>exact absurd rfl f
    |cons c r=>
     have hc:js.contains c=false:=by
      cases i:js.contains c with
      |false=>rfl
      |true=>
       refine absurd ?_ d;unfold gO;rw[cI,i,if_pos rfl];simp
     have g:(gO (c::r) (lets++js)).headD 0=c:=by
      unfold gO at f⊢;rw[cI]at f⊢;split
      ·rfl
      ·rename_i u;rw[if_neg u]at f;exact absurd rfl f
     rw[g];exact hc
   ·cases o:lw.contains (gO a (lets++js)) with
    |false=>rfl
    |true=>rw[if_pos o]at e;cases e
   ·split at e<;>cases e
  ·obtain⟨m,v,q⟩:=bA.1 h;injection q with h1 h2;exact⟨λe=>by omega,λe=>by omega⟩
theorem GZ(n:Nat):∀(f:Nat)(b:By)(l r:List eD),fk l->oZ n f b l= .ok r->fk r
 |0,b,l,r,c,h=>by
  rw[oZ]at h;injection h with h;subst h;exact c
 |f+1,b,l,r,c,h=>by
  rw[oZ]at h;split at h
  ·injection h with h;subst h;intro x a;rcases bE.1 a with a|a
   ·exact c x a
   ·rw[a_]at a;subst a;exact⟨λe=>(by cases e),λe=>(by cases e),λ_=>rfl⟩
  ·split at h
   ·cases h
   ·rename_i k t d;split at h
    ·cases h
    ·refine GZ n f _ _ r (λx a=>?_) h;rcases bE.1 a with a|a
     ·exact c x a
     ·rw[a_]at a;subst a;have:=Pu d;have hk:=wP d;exact⟨this.1,this.2,λe=>by have g:k=3:=e;omega⟩
theorem Px{r:List eD}(h:qW s= .ok r):fk r:=GZ _ _ _ [] r (λx a=>by simp at a) h
structure aa where
 fuel:Nat
 inp:List Int
 out:List Int
 hp:List (List Int)
abbrev Own:=List (By×Vl)
abbrev ae(α:Type):=aa->Except (Int×List Int) (α×aa)
def ar{α:Type}(a:α):ae α:=λs=> .ok (a,s)
def au{α β:Type}(x:ae α)(f:α->ae β):ae β:=λs=>
 match x s with
 | .error e=> .error e
 | .ok (a,b)=>f a b
def ax{α:Type}(w:Int):ae α:=λs=> .error (w,s.out)
def ay:ae Unit:=λs=>if s.fuel=0 then .error (6,s.out) else .ok ((),{s with fuel:=s.fuel-1})
def af(n:Int):ae Unit:=λs=>if 200<=s.out.length then .error (7,s.out) else .ok ((),{s with out:=s.out++[n]})
def ah:ae Int:=λs=> .ok (s.inp.headD 0,{s with inp:=s.inp.tail})
def ai(n:Int):ae Vl:=λs=>if n<0\/40<n then .error (4,s.out) else .ok ((0,some s.hp.length),{s with hp:=s.hp++[List.replicate n.toNat 0]})
def aj(s:aa):Option Nat->List Int
 |none=>[]
 |some i=>s.hp.getD i []
def ak(q:Option Nat):ae Int:=λs=> .ok (((aj s q).length:Int),s)
def ap(q:Option Nat)(i:Int):ae Int:=λs=>if i<0\/((aj s q).length:Int)<=i then .error (3,s.out) else .ok ((aj s q).getD i.toNat 0,s)
def aq(q:Option Nat)(i n:Int):ae Unit:=λs=>if i<0\/((aj s q).length:Int)<=i then .error (3,s.out) else .ok ((),{s with hp:=s.hp.modify (q.getD 0) (λl=>l.set i.toNat n)})
def iP(o:Own)(nm:By):Vl:=(o.lookup nm).getD (0,none)
def gJ(b:Bool):Int:=if b then 1 else 0
def aw(c:By)(a b:Int):ae Int:=
 if c=[43] then ar (wrap64 (a+b))
 else if c=[45] then ar (wrap64 (a-b))
 else if c=[42] then ar (wrap64 (a*b))
 else if c=[47] then(if b=0 then ax 2 else ar (wrap64 (a.tdiv b)))
 else if c=[37] then(if b=0 then ax 2 else ar (a.tmod b))
 else ar (gJ (if c=[61,61] then decide (a=b) else if c=[33,61] then decide (a≠b) else if c=[60] then decide (a<b) else if c=[60,61] then decide (a<=b) else if c=[62] then decide (a>b) else decide (a≥b)))
structure Ev where
 E:Nat->Own->Tr->ae Vl
 A:Nat->Own->Tr->ae (List Vl)
 B:Nat->Own->Tr->ae (Option Int×Own)
 S:Nat->Own->Tr->ae (Option Int×Own)
 W:Nat->Own->Tr->Tr->ae (Option Int×Own)
def og(fs:By->Option eR):Nat->Ev
 |0=>⟨λ_ _ _=>ax 99,λ_ _ _=>ax 99,λ_ _ _=>ax 99,λ_ _ _=>ax 99,λ_ _ _ _=>ax 99⟩
 |g+1=>{
   E:=λd o t=>match t with
   | .agg [.lit (.int _ c),.lit (.int _ a),.lit (.int _ n),.lit (.string nm),.lit (.string b),l,r,xs]=>
    if c=2 then ar (iP o nm)
    else if c=3 then
     (if b=[38,38] then au ((og fs g).E d o l) λx=>if x.1=0 then ar (0,none) else au ((og fs g).E d o r) λy=>ar (gJ (decide (y.1≠0)),none)
      else if b=[124,124] then au ((og fs g).E d o l) λx=>if x.1≠0 then ar (1,none) else au ((og fs g).E d o r) λy=>ar (gJ (decide (y.1≠0)),none)
      else au ((og fs g).E d o l) λx=>au ((og fs g).E d o r) λy=>au (aw b x.1 y.1) λz=>ar (z,none))
    else if c=4 then au ((og fs g).E d o l) λx=>ar (if b=[45] then wrap64 (-x.1) else gJ (decide (x.1=0)),none)
    else if c=5 then
     (match fs nm with
      |none=>ax 98
      |some F=>au ((og fs g).A d o xs) λe=>if 40<=d then ax 5 else au ((og fs g).B (d+1) ((F.ps.map (·.1)).zip e).reverse F.body) λr=>ar (r.1.getD 0,none))
    else if c=6 then au ((og fs g).E d o l) λx=>ai x.1
    else if c=7 then au ((og fs g).E d o l) λx=>au (ak x.2) λn=>ar (n,none)
    else if c=8 then au ((og fs g).E d o l) λx=>au ((og fs g).E d o r) λy=>au (ap x.2 y.1) λn=>ar (n,none)
    else if c=9 then au ah λn=>ar (n,none)
    else ar (n,none)
   |_=>ax 97
   A:=λd o t=>match t with
   | .slice [x] [xs]=>au ((og fs g).E d o x) λv=>au ((og fs g).A d o xs) λe=>ar (v::e)
   |_=>ar []
   B:=λd o t=>match t with
   | .slice [x] [xs]=>au ay λ_=>au ((og fs g).S d o x) λr=>if r.1.isSome then ar r else(og fs g).B d r.2 xs
   |_=>ar (none,o)
   S:=λd o t=>match t with
   | .agg [.lit (.int _ c),.lit (.int _ a),.lit (.string nm),f,v,h,el]=>
    if c=3 then au ((og fs g).E d o f) λi=>au ((og fs g).E d o v) λn=>au (aq (iP o nm).2 i.1 n.1) λ_=>ar (none,o)
    else if c=4 then au ((og fs g).E d o v) λx=>if x.1≠0 then(og fs g).B d o h else(og fs g).B d o el
    else if c=5 then(og fs g).W d o v h
    else if c=6 then au ((og fs g).E d o v) λx=>ar (some x.1,o)
    else if c=7 then au ((og fs g).E d o v) λx=>au (af x.1) λ_=>ar (none,o)
    else if c=8 then au ((og fs g).E d o v) λ_=>ar (none,o)
    else au ((og fs g).E d o v) λx=>ar (none,(nm,x)::o)
   |_=>ax 97
   W:=λd o v h=>au ((og fs g).E d o v) λx=>if x.1=0 then ar (none,o) else au ((og fs g).B d o h) λr=>if r.1.isSome then ar r else au ay λ_=>(og fs g).W d r.2 v h
  }
def eM(fs:By->Option eR)(g:Nat):Nat->Own->Tr->ae Vl:=(og fs g).E
def nA(fs:By->Option eR)(g:Nat):Nat->Own->Tr->ae (List Vl):=(og fs g).A
def iq(fs:By->Option eR)(g:Nat):Nat->Own->Tr->ae (Option Int×Own):=(og fs g).B
def oh(fs:By->Option eR)(g:Nat):Nat->Own->Tr->ae (Option Int×Own):=(og fs g).S
def rM(fs:By->Option eR)(g:Nat):Nat->Own->Tr->Tr->ae (Option Int×Own):=(og fs g).W
theorem M_(fs:By->Option eR)(d:Nat)(o:Own)(t:Tr):eM fs 0 d o t=ax 99:=rfl
theorem ij(fs:By->Option eR)(g:Nat)(d:Nat)(o:Own)(t:Tr):eM fs (g+1) d o t=(match t with
  | .agg [.lit (.int _ c),.lit (.int _ a),.lit (.int _ n),.lit (.string nm),.lit (.string b),l,r,xs]=>
   if c=2 then ar (iP o nm)
   else if c=3 then
    (if b=[38,38] then au (eM fs g d o l) λx=>if x.1=0 then ar (0,none) else au (eM fs g d o r) λy=>ar (gJ (decide (y.1≠0)),none)
     else if b=[124,124] then au (eM fs g d o l) λx=>if x.1≠0 then ar (1,none) else au (eM fs g d o r) λy=>ar (gJ (decide (y.1≠0)),none)
     else au (eM fs g d o l) λx=>au (eM fs g d o r) λy=>au (aw b x.1 y.1) λz=>ar (z,none))
   else if c=4 then au (eM fs g d o l) λx=>ar (if b=[45] then wrap64 (-x.1) else gJ (decide (x.1=0)),none)
   else if c=5 then
    (match fs nm with
     |none=>ax 98
     |some F=>au (nA fs g d o xs) λe=>if 40<=d then ax 5 else au (iq fs g (d+1) ((F.ps.map (·.1)).zip e).reverse F.body) λr=>ar (r.1.getD 0,none))
   else if c=6 then au (eM fs g d o l) λx=>ai x.1
   else if c=7 then au (eM fs g d o l) λx=>au (ak x.2) λn=>ar (n,none)
   else if c=8 then au (eM fs g d o l) λx=>au (eM fs g d o r) λy=>au (ap x.2 y.1) λn=>ar (n,none)
   else if c=9 then au ah λn=>ar (n,none)
   else ar (n,none)
  |_=>ax 97):=rfl
theorem Na(fs:By->Option eR)(d:Nat)(o:Own)(t:Tr):nA fs 0 d o t=ax 99:=rfl
theorem qz(fs:By->Option eR)(g:Nat)(d:Nat)(o:Own)(t:Tr):nA fs (g+1) d o t=(match t with
  | .slice [x] [xs]=>au (eM fs g d o x) λv=>au (nA fs g d o xs) λa=>ar (v::a)
  |_=>ar []):=rfl
theorem Nb(fs:By->Option eR)(d:Nat)(o:Own)(t:Tr):iq fs 0 d o t=ax 99:=rfl
theorem qA(fs:By->Option eR)(g:Nat)(d:Nat)(o:Own)(t:Tr):iq fs (g+1) d o t=(match t with
  | .slice [x] [xs]=>au ay λ_=>au (oh fs g d o x) λr=>if r.1.isSome then ar r else iq fs g d r.2 xs
  |_=>ar (none,o)):=rfl
theorem Nc(fs:By->Option eR)(d:Nat)(o:Own)(t:Tr):oh fs 0 d o t=ax 99:=rfl
theorem jZ(fs:By->Option eR)(g:Nat)(d:Nat)(o:Own)(t:Tr):oh fs (g+1) d o t=(match t with
  | .agg [.lit (.int _ c),.lit (.int _ a),.lit (.string nm),b,v,e,el]=>
   if c=3 then au (eM fs g d o b) λi=>au (eM fs g d o v) λn=>au (aq (iP o nm).2 i.1 n.1) λ_=>ar (none,o)
   else if c=4 then au (eM fs g d o v) λx=>if x.1≠0 then iq fs g d o e else iq fs g d o el
   else if c=5 then rM fs g d o v e
   else if c=6 then au (eM fs g d o v) λx=>ar (some x.1,o)
   else if c=7 then au (eM fs g d o v) λx=>au (af x.1) λ_=>ar (none,o)
   else if c=8 then au (eM fs g d o v) λ_=>ar (none,o)
   else au (eM fs g d o v) λx=>ar (none,(nm,x)::o)
  |_=>ax 97):=rfl
theorem Nd(fs:By->Option eR)(d:Nat)(o:Own)(v t:Tr):rM fs 0 d o v t=ax 99:=rfl
theorem uX(fs:By->Option eR)(g:Nat)(d:Nat)(o:Own)(v a:Tr):rM fs (g+1) d o v a=(au (eM fs g d o v) λx=>if x.1=0 then ar (none,o) else au (iq fs g d o a) λr=>if r.1.isSome then ar r else au ay λ_=>rM fs g d r.2 v a):=rfl
def Aq(g:Nat)(L:List eR)(inp:List Int)(fuel:Nat):Int×Int×List Int:=
 match eM (λnm=>L.find? (λF=>F.nm==nm)) g 0 [] (nd 5 0 0 [109,97,105,110] [] .nil .nil ce) ⟨fuel,inp,[],[]⟩ with
 | .error (w,out)=>(w,0,out)
 | .ok (v,s)=>(1,v.1,s.out)
structure Rs where
 ab:List (Nat×Nat)
 iv:jU
 ov:jU
 s:aa
def Xs(P:Nat)(r:Rs)(b:Nat):Prop:=b=P\/b∈r.ab.map (·.1)\/r.ov.ownBlock=some b
structure St (w0:jW) (P:Nat) (fv:jU) (w:jW) (r:Rs) (d:Nat):Prop where
 lt:P<w0.heap.size
 le:w0.heap.size<=w.heap.size
 kp:∀b,b<w0.heap.size->b≠P->w.heap[b]?=w0.heap[b]?
 pb:w.heap[P]?=some (jC #[fv,r.iv,r.ov,jV (r.s.fuel:Int),jV (d:Int)] 60)
 inp:Mo w0 P r.iv r.s.inp
 out:w.ownsRow w0.heap.size 2 1 r.ov r.s.out.length (fI r.s.out)
 apart:∀i,r.ov.ownBlock=some i->i∉r.ab.map (·.1)
 alen:r.ab.length=r.s.hp.length
 arr:∀(i b n:Nat),r.ab[i]?=some (b,n)->∃l,r.s.hp[i]?=some l/\l.length=n/\n<=40/\w.heap[b]?=some (jC (fI l).toArray 2)
 lo:∀b∈r.ab.map (·.1),w0.heap.size<=b
 nd:(r.ab.map (·.1)).Nodup
 few:r.s.fuel<=1000000
 told:r.s.out.length<=200
 deep:d<=40
structure Fz (P:Nat) (E:Nat->Prop) (w:jW) (r:Rs) (w':jW) (r':Rs):Prop where
 os:w'.os=w.os
 tape:w'.tape=w.tape
 output:w'.output=w.output
 size:w.heap.size<=w'.heap.size
 blk:∀b,b<w.heap.size->¬Xs P r b->¬E b->w'.heap[b]?=w.heap[b]?
 pre:r.ab<+:r'.ab
 new:∀b,Xs P r' b->¬Xs P r b->w.heap.size<=b
theorem Fz.refl(P:Nat)(E:Nat->Prop)(w:jW)(r:Rs):Fz P E w r w r:=⟨rfl,rfl,rfl,aD _,λ_ _ _ _=>rfl,aN,λb h1 h2=>absurd h1 h2⟩
theorem Fz.trans{a c:jW}{d e r3:Rs}(h:Fz P E w1 d a e)(g:Fz P E a e c r3):Fz P E w1 d c r3:=by
 refine⟨g.os.trans h.os,g.tape.trans h.tape,g.output.trans h.output,aP h.size g.size,λb f i j=>?_,h.pre.trans g.pre,λb k h1=>?_⟩
 ·rw[g.blk b (aO f h.size) (λh2=>by have:=h.new b h2 i;omega) j,h.blk b f i j]
 ·by_cases h2:Xs P e b
  ·exact h.new b h2 h1
  ·exact aP h.size (g.new b k h2)
theorem Fz.wide{a:Nat->Prop}{r r':Rs}(h:Fz P E w r w' r')(c:∀b,E b->a b):Fz P a w r w' r':=⟨h.os,h.tape,h.output,h.size,λb d f g=>h.blk b d f (λe=>g (c b e)),h.pre,h.new⟩
theorem Fz.no{r r':Rs}(h:Fz P iL w r w' r'):Fz P E w r w' r':=h.wide (λ_ h=>h.elim)
theorem Fz.below{r:Rs}(h:az w w'):Fz P E w r w' r:=⟨h.os,h.tape,h.output,h.size,λb a _ _=>h.block b a,aN,λb h1 h2=>absurd h1 h2⟩
theorem St.below{r:Rs}(h:St w0 P a w r d)(c:az w w'):St w0 P a w' r d:=by
 have e:=aO h.lt h.le;refine⟨h.lt,aP h.le c.size,λb h1 h2=>?_,?_,h.inp,fX h.out (λi f=>c.block i (lT h.out i f)),h.apart,h.alen,λi b n f=>?_,h.lo,h.nd,h.few,h.told,h.deep⟩
 ·rw[c.block b (aO h1 h.le)];exact h.kp b h1 h2
 ·rw[c.block P e];exact h.pb
 ·obtain⟨l,g,j,k,m⟩:=h.arr i b n f;exact⟨l,g,j,k,by rw[c.block b (aC.1 m).1];exact m⟩
theorem St.ltP{r:Rs}(h:St w0 P a w r d):P<w.heap.size:=aO h.lt h.le
theorem St.old{r:Rs}(h:St w0 P a w r d){cs:Array Value}{t:TypeId}(c:w0.heap[b]?=some (.cells cs t))(f:∃ds,w0.heap[P]?=some (.cells ds 60))(g:t≠60):w.heap[b]?=some (.cells cs t):=by
 obtain⟨ds,hd⟩:=f;rw[h.kp b (aC.1 c).1 (λe=>?_),c];subst e;rw[hd]at c;injection c with c;injection c with _ h2;exact g h2.symm
def jw(w:jW)(a n:Nat)(b:List (Nat×Nat))(o:Own):Prop:=∃f,kB w a n f/\∀nm,SS b (iP o nm) ((f nm).getD (uF 0 jS))
theorem jw.keeps{r a:Rs}{M n:Nat}{o:Own}{b:jU}(h:jw w M n r.ab o)(c:St w0 P b w r d)(j:Fz P iL w r w' a):jw w' M n a.ab o:=by
 obtain⟨f,h1,h2⟩:=h;obtain⟨k,m,q⟩:=h1.obj;refine⟨f,h1.kept (j.blk M h1.lt (λs=>?_) (λe=>e)),λnm=>(h2 nm).mono j.pre⟩;rcases s with rfl|s|s
 ·rw[c.pb]at q;cases q
 ·obtain⟨p,t,rfl⟩:=aT.1 s;obtain⟨i,u⟩:=a7 t;obtain⟨l,_,_,_,v⟩:=c.arr i p.1 p.2 u;rw[v]at q;cases q
 ·rcases c.out.2 with⟨x,_⟩|⟨g,y,z,x,A,B,_⟩
  ·rw[x]at s;cases s
  ·rw[x]at s;have:g=M:=by injection s
   subst this;rw[B]at q;cases q
def sx(w:jW)(a:Nat)(nm:By):Prop:=∃(b o:Nat),w.heap[a]?=some (jC #[jQ (some (jB b o))] 186)/\∃cs,w.heap[b]?=some (.cells cs 147)/\cs[o+2]?=some (str nm)
def kL(w:jW)(P:Nat):Tr->jE->Prop
 | .slice [.agg [.lit (.int _ c),.lit (.int _ a),.lit (.string nm),b,v,d,el]] [g],e=>
  ∃(u:jU)(f:jE),e=u::f/\kL w P g f/\
  ((c=3/\∃h i j k l,u= .func (.func 185) #[] #[ptr h,ptr i,ptr j]/\w.heap[h]?=some (jC #[k] 245)/\w.heap[i]?=some (jC #[l] 245)/\sx w j nm/\gz w P b k/\gz w P v l)\/
   (c=4/\∃(i m n o p:_)(l:jU)(q r s t x y:Nat)(ts z:jE),u= .func (.func 187) #[] #[ptr i,ptr m,ptr n]/\w.heap[i]?=some (jC #[l] 245)/\w.heap[m]?=some (jC #[o] 67)/\w.heap[n]?=some (jC #[p] 67)/\gz w P v l/\
    o= .func (.func 87) #[] #[ptr q,ptr s]/\w.heap[q]?=some (jC #[jL (some (jA x)) ts.length ts.length] 184)/\w.heap[x]?=some (.cells ts.toArray 67)/\w.heap[s]?=some (jC #[ptr P] 57)/\kL w P d ts/\
    p= .func (.func 87) #[] #[ptr r,ptr t]/\w.heap[r]?=some (jC #[jL (some (jA y)) z.length z.length] 184)/\w.heap[y]?=some (.cells z.toArray 67)/\w.heap[t]?=some (jC #[ptr P] 57)/\kL w P el z)\/
   (c=5/\∃(i m A:Nat)(l o:jU)(q s x:Nat)(ts:jE),u= .func (.func 188) #[] #[ptr i,ptr m,ptr A]/\w.heap[i]?=some (jC #[l] 245)/\w.heap[m]?=some (jC #[o] 67)/\w.heap[A]?=some (jC #[ptr P] 57)/\gz w P v l/\
    o= .func (.func 87) #[] #[ptr q,ptr s]/\w.heap[q]?=some (jC #[jL (some (jA x)) ts.length ts.length] 184)/\w.heap[x]?=some (.cells ts.toArray 67)/\w.heap[s]?=some (jC #[ptr P] 57)/\kL w P d ts)\/
   (c=6/\∃i l,u= .func (.func 139) #[] #[ptr i]/\w.heap[i]?=some (jC #[l] 245)/\gz w P v l)\/
   (c=7/\∃A i l,u= .func (.func 140) #[] #[ptr A,ptr i]/\w.heap[A]?=some (jC #[ptr P] 57)/\w.heap[i]?=some (jC #[l] 245)/\gz w P v l)\/
   (c=8/\∃i l,u= .func (.func 142) #[] #[ptr i]/\w.heap[i]?=some (jC #[l] 245)/\gz w P v l)\/
   ((c=1\/c=2)/\∃i j l,u= .func (.func 143) #[] #[ptr i,ptr j]/\w.heap[i]?=some (jC #[l] 245)/\sx w j nm/\gz w P v l))
 | .slice [] [],e=>e=[]
 |_,_=>False
def pK(w:jW)(P:Nat)(t:Tr)(v:jU):Prop:=∃(a p g:Nat)(ts:jE),v= .func (.func 87) #[] #[ptr a,ptr p]/\w.heap[a]?=some (jC #[jL (some (jA g)) ts.length ts.length] 184)/\w.heap[g]?=some (.cells ts.toArray 67)/\w.heap[p]?=some (jC #[ptr P] 57)/\kL w P t ts
def kj(k:Nat):Prop:=∀(args:Array Value)(w:jW),(callFunc k args).run Tryz.prog w= .ok (.enter k args) w
theorem BD:kj 87:=λargs w=>by kernel_rfl
theorem OM:kj 139:=λargs w=>by kernel_rfl
theorem OO:kj 140:=λargs w=>by kernel_rfl
theorem OP:kj 142:=λargs w=>by kernel_rfl
theorem OQ:kj 143:=λargs w=>by kernel_rfl
theorem OS:kj 185:=λargs w=>by kernel_rfl
theorem OT:kj 187:=λargs w=>by kernel_rfl
theorem OU:kj 188:=λargs w=>by kernel_rfl
theorem FQ:kj 189:=λargs w=>by kernel_rfl
theorem FR:kj 193:=λargs w=>by kernel_rfl
theorem FT:kj 195:=λargs w=>by kernel_rfl
theorem FU:kj 197:=λargs w=>by kernel_rfl
theorem FV:kj 198:=λargs w=>by kernel_rfl
theorem FX:kj 200:=λargs w=>by kernel_rfl
theorem FY:kj 222:=λargs w=>by kernel_rfl
theorem FZ:kj 224:=λargs w=>by kernel_rfl
theorem F_:kj 225:=λargs w=>by kernel_rfl
theorem Ga:kj 227:=λargs w=>by kernel_rfl
theorem Gb:kj 228:=λargs w=>by kernel_rfl
theorem Gc:kj 229:=λargs w=>by kernel_rfl
structure Cx where
 w0:jW
 P:Nat
 fv:jU
 fs:By->Option eR
def lC(fs:By->Option eR):Tr->Prop
 | .agg [.lit (.int _ c),.lit (.int _ _),.lit (.int _ _),.lit (.string nm),.lit (.string _),l,r,xs]=>nm.length<=1000000/\lC fs l/\lC fs r/\lC fs xs/\(c=5->∃F,fs nm=some F/\F.ps.length=qw xs)
 | .slice [x] [g]=>lC fs x/\lC fs g
 |_=>True
def oK(fs:By->Option eR):Tr->Prop
 | .slice [.agg [.lit (.int _ _),.lit (.int _ _),.lit (.string nm),a,v,b,el]] [g]=>nm.length<=1000000/\lC fs a/\lC fs v/\oK fs b/\oK fs el/\oK fs g
 |_=>True
def yf(r:Rs)(out:List Int)(k:Int)(e:Ending):Prop:=r.s.out=out/\∃a:List PanicEntry,e= .panicked ({v:= .iface 61 (jV k),recovered:=false}::a)/\∀z∈a,z.goexit=false
def EP(X:Cx)(w:jW)(r:Rs)(d:Nat)(x:Except (Int×List Int) (Vl×aa))(e:Ending)(w':jW):Prop:=
 ∃a,St X.w0 X.P X.fv w' a d/\Fz X.P iL w r w' a/\
  ((∃y p l c,x= .ok (y,a.s)/\e=jR (uF y.1 (jL p l c))/\pA a.ab y.2 (jL p l c))\/(∃k out,x= .error (k,out)/\yf a out k e))
def SP(X:Cx)(w:jW)(r:Rs)(d a c:Nat)(x:Except (Int×List Int) ((Option Int×Own)×aa))(e:Ending)(w':jW):Prop:=
 ∃f,St X.w0 X.P X.fv w' f d/\Fz X.P (λb=>b=a) w r w' f/\
  ((∃g h,x= .ok ((none,g),f.s)/\e=jR (.tuple #[])/\jw w' a h f.ab g/\h+f.s.fuel<=c)\/(∃z g,x= .ok ((some z,g),f.s)/\e=QZ z)\/(∃k out,x= .error (k,out)/\yf f out k e))
def S2(v:jU)(a:Nat)(w:jW)(Q:Ending->jW->Prop):Prop:=∃k b,v= .func (.func k) #[] b/\kj k/\aA k (#[.map (some a)]++b) w Q
def mh(X:Cx)(g:Nat)(t:Tr)(v:jU):Prop:=∀(w:jW)(r:Rs)(d a n:Nat)(o:Own),St X.w0 X.P X.fv w r d->jw w a n r.ab o->(∀out,eM X.fs g d o t r.s≠.error (99,out))->S2 v a w (EP X w r d (eM X.fs g d o t r.s))
theorem kj.xq(h:kj k):∀(args:Array Value)(w:World),(callFunc k args).run Tryz.prog w= .ok (.enter k args) w:=h
theorem St.ne{r:Rs}(h:St w0 P a w r d)(c:b∈r.ab.map (·.1)):b≠P:=by
 have:=h.lo b c;have:=h.lt;omega
theorem St.setP{r:Rs}(h:St w0 P a w r d){i:Nat}(r':Rs)(c:Nat)(f:(#[a,r.iv,r.ov,jV (r.s.fuel:Int),jV (d:Int)]:Array Value).setIfInBounds i v=#[a,r'.iv,r'.ov,jV (r'.s.fuel:Int),jV (c:Int)])
  (g:r'.ab=r.ab) (j:r'.s.hp=r.s.hp) (m:r'.ov=r.ov) (o:r'.s.out=r.s.out) (p:Mo w0 P r'.iv r'.s.inp) (q:r'.s.fuel<=1000000) (hd:c<=40):
  St w0 P a (w.setCell (jB P i) v) r' c/\Fz P iL w r (w.setCell (jB P i) v) r':=by
 have t:∀b,b≠P->(w.setCell (jB P i) v).heap[b]?=w.heap[b]?:=λb u=>aG _ _ _ _ u;have x:(w.setCell (jB P i) v).heap.size=w.heap.size:=by simp
 have y:∀b,Xs P r' b↔Xs P r b:=λb=>by unfold Xs;rw[g,m]
 refine⟨⟨h.lt,by rw[x];exact h.le,λb h1 h2=>by rw[t b h2];exact h.kp b h1 h2,?_,p,?_,?_,by rw[g,j];exact h.alen,?_,by rw[g];exact h.lo,by rw[g];exact h.nd,q,by rw[o];exact h.told,hd⟩,⟨rfl,rfl,rfl,by rw[x];exact aD _,λb _ z _=>t b (λe=>z (.inl e)),by rw[g];exact aN,λb h1 h2=>absurd ((y b).1 h1) h2⟩⟩
 ·rw[aH _ _ _ _ _ _ h.pb,f]
 ·rw[m,o];refine fX h.out (λk hk=>t k (λe=>?_));have:=(h.out.lt k hk).1;have:=h.lt;omega
 ·rw[m,g];exact h.apart
 ·intro k b n hk;rw[g]at hk;obtain⟨l,A,B,C,D⟩:=h.arr k b n hk;refine⟨l,by rw[j];exact A,B,C,?_⟩;rw[t b (h.ne (aT.2 ⟨(b,n),aM hk,rfl⟩))];exact D
def Rs.fuel1(r:Rs):Rs:={r with s:={r.s with fuel:=r.s.fuel-1}}
def Pq(X:Cx)(w:jW)(r:Rs)(d:Nat)(e:Ending)(w':jW):Prop:=
 (r.s.fuel=0/\e=kz 6/\w'=w)\/(r.s.fuel≠0/\e=jR (.tuple #[])/\St X.w0 X.P X.fv w' r.fuel1 d/\Fz X.P iL w r w' r.fuel1)
theorem r8(X:Cx)(w:jW)(r:Rs)(d:Nat)(h:St X.w0 X.P X.fv w r d):aA 88 #[ptr X.P] w (Pq X w r d):=by
 have a:=jc 3 h.pb;have b:=ea h.pb 3;have c:=jI h;have f:=h.few;by_cases g:r.s.fuel=0
 ·rw[g]at a;have j:=jI g;clear h g f;go_enter Tryz.func88,Tryz.ntmps88
  go_wp2_with(go_at_call 54;refine(eQ _ _).mono ?_;rintro e w' ⟨rfl,rfl⟩)
  exact⟨rfl,.inl ⟨j,rfl,rfl⟩⟩
 ·obtain⟨fu,k⟩:∃fu,r.s.fuel=fu+1:=⟨r.s.fuel-1,by omega⟩;have l:=jI k;rw[k]at a f;clear h g k;go_enter Tryz.func88,Tryz.ntmps88
  go_wp2_with(go_at_call 54;fail)
  go_end0;have m:r.fuel1.s.fuel=fu:=by show r.s.fuel-1=fu;rw[l.out];omega
  obtain⟨n,o⟩:=c.setP (i:=3) (v:=jV (fu:Int)) r.fuel1 d (by rw[m];rfl) rfl rfl rfl rfl c.inp (by rw[m];omega) c.deep;exact .inr ⟨by rw[l.out];omega,rfl,n,o⟩
def T6(b l:Nat)(i:Int)(w:jW)(e:Ending)(w':jW):Prop:=(((i<0\/(l:Int)<=i)/\e=kz 3)\/(0<=i/\i<l/\e=jR (jQ (some (jB b i.toNat)))))/\w'=w
theorem n7(b l c:Nat)(i:Int)(w:jW)(a:l<=40):aA 186 #[jL (some (jA b)) l c,jV i] w (T6 b l i w):=by
 by_cases d:i<0
 ·go_enter Tryz.func186,Tryz.ntmps186
  go_wp2_with(go_at_call 54;refine(eQ _ _).mono ?_;rintro e w' ⟨rfl,rfl⟩)
  exact⟨rfl,.inl ⟨.inl d,rfl⟩,rfl⟩
 ·by_cases h1:i<l
  ·go_enter Tryz.func186,Tryz.ntmps186
   go_wp2_with(go_at_call 54;refine(eQ _ _).mono ?_;rintro e w' ⟨rfl,rfl⟩)
   go_ret;exact⟨.inr ⟨by omega,h1,rfl⟩,rfl⟩
  ·go_enter Tryz.func186,Tryz.ntmps186
   go_wp2_with(go_at_call 54;refine(eQ _ _).mono ?_;rintro e w' ⟨rfl,rfl⟩)
   exact⟨rfl,.inl ⟨.inr (by omega),rfl⟩,rfl⟩
theorem qq(i:Int)(w:jW):aA 186 #[jS,jV i] w λe w'=>e=kz 3/\w'=w:=by
 by_cases a:i<0
 ·go_enter Tryz.func186,Tryz.ntmps186
  go_wp2_with(go_at_call 54;refine(eQ _ _).mono ?_;rintro e w' ⟨rfl,rfl⟩)
  exact⟨rfl,rfl,rfl⟩
 ·have h1:0<=i:=by omega
  go_enter Tryz.func186,Tryz.ntmps186
  go_wp2_with(go_at_call 54;refine(eQ _ _).mono ?_;rintro e w' ⟨rfl,rfl⟩)
  exact⟨rfl,rfl,rfl⟩
theorem wb(n:Nat)(a:n<=40)(w:jW):(Instr.makeSlice 22 (jV (n:Int)) (jV (n:Int))).run Tryz.prog w= .ok (jL (some (jA w.heap.size)) n n) (w.alloc (jC (fI (List.replicate n 0)).toArray 2)):=by
 obtain⟨i,b,c,d,e⟩:=info_parts AW;have:=cQ w 22 2 i _ Tryz.underlying22 b c .i64 .i64 (n:Int) (n:Int) (by omega) (by omega) (by rw[d];simp;omega) (by rw[e];omega) (by omega);rw[d]at this;simp only[aR,sD]at this;exact this
def T7(n:Int)(w:jW)(e:Ending)(w':jW):Prop:=((n<0\/40<n)/\e=kz 4/\w'=w)\/(0<=n/\n<=40/\e=jR (jL (some (jA w.heap.size)) n.toNat n.toNat)/\w'=w.alloc (jC (fI (List.replicate n.toNat 0)).toArray 2))
theorem rh(n:Int)(w:jW):aA 194 #[jV n] w (T7 n w):=by
 by_cases a:n<0
 ·go_enter Tryz.func194,Tryz.ntmps194
  go_wp2_with(go_at_call 54;refine(eQ _ _).mono ?_;rintro e w' ⟨rfl,rfl⟩)
  exact⟨rfl,.inl ⟨.inl a,rfl,rfl⟩⟩
 ·by_cases h1:40<n
  ·go_enter Tryz.func194,Tryz.ntmps194
   go_wp2_with(go_at_call 54;refine(eQ _ _).mono ?_;rintro e w' ⟨rfl,rfl⟩)
   exact⟨rfl,.inl ⟨.inr h1,rfl,rfl⟩⟩
  ·obtain⟨m,rfl⟩:∃m:Nat,n=m:=⟨n.toNat,by omega⟩;have h2:m<=40:=by omega
   have b:=wb m h2;clear a;go_enter Tryz.func194,Tryz.ntmps194
   go_wp2_with(go_at_call 54;fail)
   go_ret;exact .inr ⟨by omega,by omega,by simp,by simp⟩
def Rs.take1(r:Rs)(iv:jU):Rs:={r with iv:=iv,s:={r.s with inp:=r.s.inp.tail}}
def RQ(X:Cx)(w:jW)(r:Rs)(d:Nat)(e:Ending)(w':jW):Prop:=
 ∃a,e=jR (jV (r.s.inp.headD 0))/\St X.w0 X.P X.fv w' (r.take1 a) d/\Fz X.P iL w r w' (r.take1 a)
theorem tO{X:Cx}{r:Rs}{x:Int}{xs:List Int}(h:St X.w0 X.P X.fv w r d)(b:r.s.inp=x::xs)(c:Mo X.w0 X.P a xs):RQ X w r d (jR (jV x)) (w.setCell (jB X.P 1) a):=by
 obtain⟨e,f⟩:=h.setP (i:=1) (v:=a) (r.take1 a) d rfl rfl rfl rfl rfl (by show Mo _ _ _ r.s.inp.tail;rw[b];exact c) h.few h.deep;exact⟨a,by rw[b];rfl,e,f⟩
theorem tP(X:Cx)(w:jW)(r:Rs)(d:Nat)(h:St X.w0 X.P X.fv w r d):aA 199 #[ptr X.P] w (RQ X w r d):=by
 obtain⟨q,c,b,f⟩:=h.inp;have k:=jc 1 h.pb;have l:=ea h.pb 1;have n:=jI h;have p:=jI b;cases t:r.s.inp with
 |nil=>
  have u:=jI t;have v:w.cell? (jB X.P 1)=some (jL q 0 c):=by rw[k];show some r.iv=_;rw[b,t];rfl
  clear h k f b t;go_enter Tryz.func199,Tryz.ntmps199;go_wp2;go_ret;have e:r.take1 r.iv=r:=by
   have z:=u.out;unfold Rs.take1;rw[z];cases r with
   |mk A B C s=>
    cases s with
    |mk D inp out E=>
     have F:=z;subst F;rfl
  refine⟨r.iv,by rw[u.out];rfl,?_,?_⟩
  ·rw[e];exact n
  ·rw[e];exact Fz.refl _ _ _ _
 |cons x xs=>
  rw[t]at f b;rcases f with f|⟨g,o,rfl,G,H,hc,I⟩
  ·cases f
  have J:w.cell? (jB g o)=some (jV x):=by
   have:=I 0 x rfl;rw[cn]at this;rw[<-this];exact bB (a:=(jB g o)) (h.kp g G H)
  obtain⟨cc,rfl⟩:∃cc,c=cc+1:=⟨c-1,by simp at hc;omega⟩;have v:w.cell? (jB X.P 1)=some (jL (some (jB g o)) (xs.length+1) (cc+1)):=by rw[k];show some r.iv=_;rw[b];rfl
  have u:=jI t;have K:=jI I;have L:Hid (g<X.w0.heap.size/\g≠X.P/\xs.length<=cc):=⟨G,H,by simp at hc;omega⟩;obtain⟨m,M⟩:=aB xs.length;rw[<-M]at v;have N:=jI M;have O:m<=cc:=by rw[M];exact L.out.2.2
  clear h k b t I hc G H M;go_enter Tryz.func199,Tryz.ntmps199;go_wp2
  ·go_ret;have M:=N.out
   refine tO n u ⟨_,_,by rw[M],.inl ?_⟩;have:xs.length=0:=by omega
   exact bS.1 this
  ·go_ret;have M:=N.out
   refine tO n u ⟨_,_,by rw[M],.inr ⟨g,o+1,rfl,L.out.1,L.out.2.1,L.out.2.2,λj y Q=>?_⟩⟩;have:=K (j+1) y Q;rw[show o+1+j=o+(j+1) by omega];exact this
def Rs.tell1(r:Rs)(ov:jU)(n:Int):Rs:={r with ov:=ov,s:={r.s with out:=r.s.out++[n]}}
def Np(X:Cx)(w:jW)(r:Rs)(d:Nat)(n:Int)(e:Ending)(w':jW):Prop:=
 (200<=r.s.out.length/\e=kz 7/\w'=w)\/(r.s.out.length<200/\e=jR (.tuple #[])/\∃a,St X.w0 X.P X.fv w' (r.tell1 a n) d/\Fz X.P iL w r w' (r.tell1 a n))
theorem zh{X:Cx}{r:Rs}{n:Int}{g a m:Nat}(h:St X.w0 X.P X.fv w r d)(c:m=r.s.out.length)(h2:m<200)(A:Obj)(f:w1.ownsRow X.w0.heap.size 2 1 (jL (some (jA g)) (m+1) a) (m+1) (fI r.s.out++[jV n]))(o:(w.alloc A).grownBy w1 r.ov.ownBlock)(q:r.ov.ownBlock=some g\/g=w.heap.size+1):
  Np X w r d n (jR (.tuple #[])) (w1.setCell (jB X.P 2) (jL (some (jA g)) (m+1) a)):=by
 have t:w.heap.size+1<=w1.heap.size:=by have:=o.size;simpa using this
 have u:∀i,r.ov.ownBlock=some i->X.w0.heap.size<=i/\i<w.heap.size:=λi v=>h.out.lt i v;have hk:∀b,b<w.heap.size->r.ov.ownBlock≠some b->w1.heap[b]?=w.heap[b]?:=λb x y=>by
  rw[o.block b (by simp;omega) (λe=>y e.symm),ed x]
 have z:X.P≠g:=by
  have:=h.lt;have:=h.ltP;rcases q with q|rfl
  ·have:=(u g q).1;omega
  ·omega
 have B:w1.heap[X.P]?=some (jC #[X.fv,r.iv,r.ov,jV (r.s.fuel:Int),jV (d:Int)] 60):=by
  rw[hk X.P h.ltP (λe=>by have:=(u _ e).1;have:=h.lt;omega)];exact h.pb
 have C:∀b,b≠X.P->(w1.setCell (jB X.P 2) (jL (some (jA g)) (m+1) a)).heap[b]?=w1.heap[b]?:=λb x=>aG _ _ _ _ x;have D:(w1.setCell (jB X.P 2) (jL (some (jA g)) (m+1) a)).heap.size=w1.heap.size:=by simp
 refine .inr ⟨by omega,rfl,jL (some (jA g)) (m+1) a,?_,?_⟩
 ·refine⟨h.lt,by rw[D];have:=h.le;omega,λb h1 h2=>?_,?_,h.inp,?_,?_,h.alen,?_,h.lo,h.nd,h.few,?_,h.deep⟩
  ·rw[C b h2,hk b (aO h1 h.le) (λe=>by have:=(u _ e).1;omega)];exact h.kp b h1 h2
  ·exact aH _ _ _ _ _ _ B
  ·have E:(r.tell1 (jL (some (jA g)) (m+1) a) n).s.out=r.s.out++[n]:=rfl;have F:(r.s.out++[n]).length=m+1:=by rw[c];simp
   rw[E,F,show fI (r.s.out++[n])=fI r.s.out++[jV n] by simp[fI]];exact fX f (λi v=>C i (λe=>z (by rw[<-e];injection v with v;exact v.symm)))
  ·intro i v;have e:i=g:=by injection v with v;exact v.symm
   subst e;rcases q with q|rfl
   ·exact h.apart i q
   ·intro G;obtain⟨p,H,e⟩:=aT.1 G;obtain⟨j,I⟩:=a7 H;obtain⟨l,_,_,_,J⟩:=h.arr j p.1 p.2 I;have:=(aC.1 J).1;omega
  ·intro i b k v;obtain⟨l,K,L,M,J⟩:=h.arr i b k v;refine⟨l,K,L,M,?_⟩;have G:b∈r.ab.map (·.1):=aT.2 ⟨(b,k),aM v,rfl⟩;rw[C b (h.ne G),hk b (aC.1 J).1 (λe=>h.apart b e G)];exact J
  ·show(r.s.out++[n]).length<=200;simp;omega
 ·refine⟨o.os,o.tape,o.output,by rw[D];omega,λb x N _=>?_,aN,λb N O=>?_⟩
  ·rw[C b (λe=>N (.inl e)),hk b x (λe=>N (.inr (.inr e)))]
  ·rcases N with N|N|N
   ·exact absurd (.inl N) O
   ·exact absurd (.inr (.inl N)) O
   ·have e:b=g:=by injection N with N;exact N.symm
    subst e;rcases q with q|rfl
    ·exact absurd (.inr (.inr q)) O
    ·omega
theorem mi(X:Cx)(w:jW)(r:Rs)(d:Nat)(n:Int)(h:St X.w0 X.P X.fv w r d):aA 141 #[ptr X.P,jV n] w (Np X w r d n):=by
 obtain⟨q,c,a⟩:=eh h.out;have b:w.cell? (jB X.P 2)=some r.ov:=jc 2 h.pb;have f:=ea h.pb 2;rw[a]at b;have g:=jI h;have j:=h.ltP;have k:=h.told;obtain⟨m,l⟩:=aB r.s.out.length;have o:=jI l;have p:Hid (r.ov=jL q m c):=by rw[l];exact a
 rw[<-l]at b k;have v:Hid (w.ownsRow X.w0.heap.size 2 1 (jL q m c) m (fI r.s.out)):=by have:=h.out;rw[a,<-l]at this;exact this
 clear h a l;by_cases h2:200<=m
 ·go_enter Tryz.func141,Tryz.ntmps141
  go_wp2_with(go_at_call 54;refine(eQ _ _).mono ?_;rintro e w' ⟨rfl,rfl⟩)
  exact⟨rfl,.inl ⟨by have:=o.out;omega,rfl,rfl⟩⟩
 ·obtain⟨x,y,z,A,B⟩:=info_parts AW;have C:Hid ((w.alloc (jC #[jV n] 2)).ownsRow X.w0.heap.size 2 1 (jL q m c) m (fI r.s.out)):=v.alloc _;have D:=jI (World.news_of_block (cs:=#[jV n]) (t:=2) (fr:=(0,0)) (heap_alloc_last w _));have E:Hid (∀u∈([jV n]:jE),u.oneCell'=true):=λu F=>by simp at F;subst F;rfl
  have G:Hid (X.w0.heap.size<=(w.alloc (jC #[jV n] 2)).heap.size):=by have:=g.le;show _<=_;simp;omega
  go_enter Tryz.func141,Tryz.ntmps141
  go_wp2_with(at_builtin;refine wpList_append_lies _ rfl _ _ 22 rfl X.w0.heap.size 2 x _ 1 8 Tryz.underlying22 y z A B rfl (by decide) _ m _ rfl C (jA w.heap.size) 1 1 [jV n] rfl rfl D E (by decide) (by unfold maxLen;omega) (by omega) G (w.heap.size+1) (by simp) ?_)
  intro H I J K L M N;have O:J.heap[X.P]?=some (jC #[X.fv,r.iv,r.ov,jV (r.s.fuel:Int),jV (d:Int)] 60):=by
   rw[L.block X.P (by simp;omega) (λe=>?_),ed j]
   ·exact g.pb
   ·have:=(v.lt X.P e.symm).1;have:=g.lt;omega
  have Q:=jc 2 O;have S:=ea O 2;have T:Hid (Np X w r d n (jR (.tuple #[])) (J.setCell (jB X.P 2) (jL (some (jA H)) (m+1) I))):=zh g o (by omega) _ K (by rw[p.out];exact L) (by rw[p.out];exact M);clear K L M N O;go_wp2;go_end0;exact T
abbrev X(α:Type):=Except (Int×Int) α
abbrev Nm:=List (By×Int)
def bx{α β:Type}(x:X α)(f:α->X β):X β:=
 match x with
 | .error e=> .error e
 | .ok a=>f a
theorem eE{α b:Type}{x:X α}{f:α->X b}{r:b}(h:bx x f= .ok r):∃a,x= .ok a/\f a= .ok r:=by
 unfold bx at h;split at h
 ·cases h
 ·exact⟨_,rfl,h⟩
def lY:Tr->Int
 | .agg [_,.lit (.int _ a),_,_,_,_,_,_]=>a
 |_=>0
def gP(ns:Nm)(nm:By):Option Int:=(ns.find? (λx=>x.1==nm)).map (·.2)
def vT(t k a:Int):X Unit:=if t=k then .ok () else .error (1,a)
def ck(lk:By->Option Nm)(ns:Nm):Tr->Nm->X Int
 | .agg [.lit (.int _ c),.lit (.int _ a),.lit (.int _ _),.lit (.string nm),.lit (.string _),l,r,g],_=>
  if c=2 then(match gP ns nm with|some k=> .ok k|none=> .error (7,a))
  else if c=3 then bx (ck lk ns l []) λt=>bx (vT t 1 (lY l)) λ_=>bx (ck lk ns r []) λu=>bx (vT u 1 (lY r)) λ_=> .ok 1
  else if c=4 then bx (ck lk ns l []) λt=>bx (vT t 1 (lY l)) λ_=> .ok 1
  else if c=5 then(match lk nm with|none=> .error (7,a)|some b=>if qw g≠b.length then .error (2,a) else bx (ck lk ns g b) λ_=> .ok 1)
  else if c=6 then bx (ck lk ns l []) λt=>bx (vT t 1 (lY l)) λ_=> .ok 2
  else if c=7 then bx (ck lk ns l []) λt=>bx (vT t 2 (lY l)) λ_=> .ok 1
  else if c=8 then bx (ck lk ns l []) λt=>bx (vT t 2 (lY l)) λ_=>bx (ck lk ns r []) λu=>bx (vT u 1 (lY r)) λ_=> .ok 1
  else .ok 1
 | .slice [x] [g],p::b=>bx (ck lk ns x []) λt=>bx (vT t p.2 (lY x)) λ_=>ck lk ns g b
 |_,_=> .ok 0
def mu(lk:By->Option Nm)(ns:Nm)(x:Tr)(k:Int):X Unit:=bx (ck lk ns x []) λt=>vT t k (lY x)
def kW(s:Nm×Nat)(v:By×Int)(a:Int):X (Nm×Nat):=if(gP s.1 v.1).isSome then .error (9,a) else if s.2=12 then .error (12,a) else .ok (s.1++[v],s.2+1)
def gw(lk:By->Option Nm):Tr->Nm×Nat->X (Nm×Nat)
 | .slice [.agg [.lit (.int _ c),.lit (.int _ a),.lit (.string nm),b,v,d,el]] [g],s=>
  bx (if c=1 then bx (ck lk s.1 v []) λt=>kW s (nm,t) a
    else if c=2 then(match gP s.1 nm with|none=> .error (7,a)|some k=>bx (mu lk s.1 v k) λ_=> .ok s)
    else if c=3 then(match gP s.1 nm with|none=> .error (7,a)|some k=>if k≠2 then .error (1,a) else bx (mu lk s.1 b 1) λ_=>bx (mu lk s.1 v 1) λ_=> .ok s)
    else bx (mu lk s.1 v 1) λ_=>bx (gw lk d s) λe=>bx (gw lk el (s.1,e.2)) λf=> .ok (s.1,f.2)) λs'=>gw lk g s'
 |_,s=> .ok s
def ly(a:Int):Nm->Nm×Nat->X (Nm×Nat)
 |[],s=> .ok s
 |p::b,s=>bx (kW s p a) λs'=>ly a b s'
def uM(lk:By->Option Nm)(F:eR):X Unit:=bx (ly F.at' F.ps ([],0)) λs=>bx (gw lk F.body s) λ_=> .ok ()
def oL(lk:By->Option Nm):List eR->X Unit
 |[]=> .ok ()
 |F::L=>bx (uM lk F) λ_=>oL lk L
def eU(L:List eR)(nm:By):Option Nm:=(L.find? (λF=>F.nm==nm)).map (·.ps)
def twice:List By->List eR->X Unit
 |_,[]=> .ok ()
 |ns,F::L=>if ns.contains F.nm then .error (9,F.at') else twice (F.nm::ns) L
def iC:By:=[109,97,105,110]
def chk(L:List eR):X Bool:=bx (twice [] L) λ_=>bx (oL (eU L) L) λ_=> .ok (match eU L iC with|some []=>true|_=>false)
theorem tB:∀(L:List eR)(ns:List By),twice ns L= .ok ()↔(L.map (·.nm)).Nodup/\∀F∈L,ns.contains F.nm=false
 |[],ns=>by simp[twice]
 |F::L,ns=>by
  rw[twice];by_cases h:ns.contains F.nm=true
  ·rw[if_pos h];refine⟨λe=>(by cases e),λ⟨_,h2⟩=>?_⟩;have:=h2 F (by simp);rw[h]at this;cases this
  ·rw[if_neg h,tB L (F.nm::ns)];simp only[bO,cj,aY,forall_eq_or_imp,dI,Bool.or_eq_false_iff];constructor
   ·rintro⟨h1,h2⟩;refine⟨⟨λa=>?_,h1⟩,by simpa using h,λG b=>(h2 G b).2⟩;obtain⟨G,b,e⟩:=aT.1 a;have:=(h2 G b).1;rw[e]at this;simp at this
   ·rintro⟨⟨h1,h2⟩,c,d⟩;refine⟨h2,λG b=>⟨?_,d G b⟩⟩;simp only[beq_eq_false_iff_ne,ne_eq];exact λe=>h1 (aT.2 ⟨G,b,e⟩)
theorem Gg(lk:By->Option Nm):∀L:List eR,oL lk L= .ok ()↔∀F∈L,uM lk F= .ok ()
 |[]=>by simp[oL]
 |F::L=>by
  rw[oL];constructor
  ·intro h;obtain⟨a,h1,h2⟩:=eE h;intro G b;rcases aY.1 b with rfl|b
   ·exact h1
   ·exact(Gg lk L).1 h2 G b
  ·intro h;rw[h F (by simp)];exact(Gg lk L).2 (λG b=>h G (by simp[b]))
abbrev pd:Nat->Prop:=λ_=>True
def MB(w:jW)(v:jU)(L:List eR):Prop:=∃(n:Nat)(cs:jE),w.ownsRow 0 86 4 v n cs/\eX pd w (chain (L.map eR.tr)) cs
theorem eJ.below{S:Nat->Prop}(h:az w w'):eJ S w w':=λb cs t _ _ a=>by
 have c:b<w.heap.size:=(aC.1 a).1;rw[h.block b c];exact a
theorem MB.below{L:List eR}(h:MB w v L)(a:az w w'):MB w' v L:=by
 obtain⟨n,cs,h1,h2⟩:=h;exact⟨n,cs,(eJ.below a).row (by decide) h1 (S:=pd) (λ_ _=>trivial),eX.kept (eJ.below a) _ _ h2⟩
theorem sS.below(h:sS 14 w)(a:az w w'):sS 14 w':=by
 have b:=h.env.lt;refine⟨h.env.below a,?_,h.far,aP h.le a.size⟩;have c:=h.pow;unfold Pw Lib.TabIs World.var? at*;simp only[PG,cJ]at c⊢;rw[a.block 7 (by omega)];exact c
theorem uK{s:ByteArray}{L:List eR}(a:oF w)(b:s.size<=1000000)(h:gK s.data.toList= .ok (chain (L.map eR.tr))):
  aA 14 #[jT s] w λe w'=>∃q c,e=jR (.tuple #[jL q L.length c,.nilIface])/\MB w' (jL q L.length c) L/\az w w':=by
 refine(uv s w a b).mono ?_;intro e w' d;rw[h]at d;obtain⟨⟨v,n,cs,rfl,f,g⟩,i⟩:=d;obtain⟨j,k,l,_⟩:=sH _ cs g;have:=wF k;subst this;have m:n=L.length:=by have:=f.1;omega
 subst m;obtain⟨q,c,rfl⟩:=eh f;exact⟨q,c,rfl,⟨L.length,cs,jd f (aQ _),eX.mono (λ_ _ _=>trivial) _ _ g⟩,i⟩
theorem zO{s:ByteArray}{k:Int}{p:Nat}(b:oF w)(c:s.size<=1000000)(h:gK s.data.toList= .error (k,p)):
  aA 14 #[jT s] w λe w'=>∃a,e=jR (.tuple #[jS,.iface 72 (jP a)])/\w'.heap[a]?=some (jC #[jV k,jV (p:Int)] 139)/\az w w':=by
 refine(uv s w b c).mono ?_;intro e w' d;rw[h]at d;obtain⟨⟨a,rfl,f⟩,g⟩:=d;exact⟨a,rfl,f,g⟩
end Go.Proofs.YtnfhpdbbfejioaaGreatDoor
