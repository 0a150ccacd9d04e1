/- GD NB NC ND XA GM -/
import Derived.Test.YtnfhpdbbfejioaaGreatDoorJ01
set_option linter.unusedVariables false
set_option linter.unusedSimpArgs false
set_option maxRecDepth 100000
set_option maxHeartbeats 16000000
namespace Go.Proofs.YtnfhpdbbfejioaaGreatDoor
open Go Go.RowKit
variable {a n:Int}{nm b:By}{l r g:Tr}{y:ByteArray}
theorem Oi{c:By}(d:oP l)(f:fw l):oP (nd 7 a n nm c l r g):=by
 intro S w P v j;obtain⟨q,vl,vr,k,m,rfl,s,t,-,-,-⟩:=iz j;obtain⟨u,rfl⟩:=hZ f t;have x:=zb;have y:=jc 0 s;have z:=jc 5 s;have A:=jI s;have B:q<w.heap.size:=(aC.1 s).1;have C:Hid (∀W,az w W->aA 138 #[ptr P,ptr u] W (xK P l W)):=λW D=>d S W P _ (fH D t);clear j s t;go_enter Tryz.func138,Tryz.ntmps138
 go_wp2_with fail
 obtain⟨E,F⟩:=aB ((w.alloc (.cells #[ptr P] 57)).alloc (.cells #[ptr q] 145));have G:Hid (az w E):=by rw[F];exact lU _ _ _
 have H:Hid (E.heap.size=w.heap.size+2):=by rw[F];simp[Hid]
 have I:E.cell? ⟨w.heap.size,0,none⟩=some (ptr P):=by rw[F];exact jc 0 (IC _ _ _)
 have J:E.cell? ⟨w.heap.size+1,0,none⟩=some (ptr q):=by rw[F];exact jc 0 (zE _ _ _)
 have K:E.cell? ⟨q,5,none⟩=some (ptr u):=by rw[F];exact jc 5 (ez (ez A _) _)
 have L:w.heap.size+1<E.heap.size:=by have:=H.out;omega
 have M:w.heap.size<E.heap.size:=by omega
 have N:q<E.heap.size:=by omega
 have O:w.heap.size≠E.heap.size:=by omega
 have Q:w.heap.size+1≠E.heap.size:=by omega
 have T:q≠E.heap.size:=by omega
 rw[<-F];clear F y z
 go_region_held3(λw'=>w'.cell? ⟨w.heap.size,0,none⟩=some (ptr P)/\w'.cell? ⟨w.heap.size+1,0,none⟩=some (ptr q)/\w'.cell? ⟨q,5,none⟩=some (ptr u))
  (first|go_keep|(refine⟨?_,?_,?_⟩<;>first|(go_simp;done)|(simp[*];done)|(rw[bq (by intro e;injection e;omega)];assumption)))
  (first|(go_at_call 138;refine(C _ (by first|exact G.drew|exact(G.alloc (by have:=H.out;omega) _).drew|exact(G.drew.alloc (by have:=H.out;simp;omega) _))).mono ?_;rintro e w1 ⟨U,V,rfl,Y,Z⟩;have c:=λb o h=>Z.cell (p:=⟨b,o,none⟩) h;have k:=λb o h=>Z.frozen (p:=⟨b,o,none⟩) h;have m:w1.cell? ⟨w.heap.size,0,none⟩=some (ptr P):=(c _ _ (by first|(simp;done)|(simp;omega))).trans (by go_simp);have f:w1.cell? ⟨w.heap.size+1,0,none⟩=some (ptr q):=(c _ _ (by first|(simp;done)|(simp;omega))).trans (by go_simp);have x:w1.cell? ⟨q,5,none⟩=some (ptr u):=(c _ _ (by first|(simp;done)|(simp;omega))).trans (by go_simp);have B:=Z.size;simp at B;have d:w.heap.size<w1.heap.size:=(by omega);have j:w.heap.size+1<w1.heap.size:=(by omega);have s:q<w1.heap.size:=(by omega)))
 all_goals first
  |(obtain⟨t,D,I⟩:=late (G.trans ((ke Z).mono G.size)) Y;clear c k;have J:Hid (_/\_/\_):=⟨t,D,I⟩;clear t D I;go_wp2;go_ret;obtain⟨t,D,I⟩:=J.out;exact⟨_,_,rfl,by rw[gz];exact .inr (.inr (.inr (.inr (.inr (.inr (.inl ⟨rfl,_,_,rfl,t,D⟩)))))),I⟩)
  |(obtain⟨t,D,I⟩:=early G (ke Z) Y;clear c k;have J:Hid (_/\_/\_):=⟨t,D,I⟩;clear t D I;go_wp2;go_ret;obtain⟨t,D,I⟩:=J.out;exact⟨_,_,rfl,by rw[gz];exact .inr (.inr (.inr (.inr (.inr (.inr (.inl ⟨rfl,_,_,rfl,t,D⟩)))))),I⟩)
theorem zD{a l:By}(h:y.data.toList=a)(e:a=l):(y.toList==l)=true:=by rw[<-my,h,e];simp
theorem EX{a l:By}(h:y.data.toList=a)(e:a≠l):(y.toList==l)=false:=by rw[<-my,h];simpa using e
theorem EY(c:oP l)(d:fw l)(S:Nat->Prop)(w:jW)(P:Nat)(v:jU)(f:ej S w (nd 4 a n nm b l r g) v):aA 191 #[ptr P,v] w (xK P (nd 4 a n nm b l r g) w):=by
 obtain⟨q,vl,vr,h,j,rfl,k,m,-,-,-⟩:=iz f;obtain⟨o,rfl⟩:=hZ d m;have p:=zb;have s:=jc 5 k;obtain⟨y,t,u⟩:=fU b;have x:=jI k;have z:q<w.heap.size:=(aC.1 k).1;have A:=jI (λW (B:az w W)=>c S W P _ (fH B m));have C:=jI (jN t u);clear f k m t u;go_enter Tryz.func191,Tryz.ntmps191
 go_wp2_with(go_at_call 138;fail)
 refine(A _ (aJ _ _)).mono ?_;rintro e w1 ⟨D,E,rfl,F,G⟩;have H:=jI (late G F);have I:w1.heap[q]?=some (jC #[jV 4,jV a,jV n,str nm,jT y,ptr o,vr,h] 252):=by rw[G.block q z,x.out,C.out.1]
 have J:(w1.alloc (jC #[.func (.func D) #[] E] 245)).cell? (jB q 4)=some (jT y):=jc 4 (ez I _);have K:w1.cell? (jB q 4)=some (jT y):=jc 4 I;have L:=aO z G.size;clear F G I s;by_cases M:b=[45]
 ·have N:=zD C.out.2 M;go_wp2;go_ret;obtain⟨O,Q,T⟩:=H.out
  exact⟨_,_,rfl,by rw[gz];exact .inr (.inr (.inr (.inl ⟨rfl,_,_,by rw[if_pos M],O,Q⟩))),T⟩
 ·have N:=EX C.out.2 M;go_wp2;go_ret;obtain⟨O,Q,T⟩:=H.out
  exact⟨_,_,rfl,by rw[gz];exact .inr (.inr (.inr (.inl ⟨rfl,_,_,by rw[if_neg M],O,Q⟩))),T⟩
theorem Re(c:oP l)(d:fw l):oP (nd 4 a n nm b l r g):=by
 intro S w P v f;have h:=jI f;obtain⟨q,vl,vr,j,k,rfl,m,-,-,-,-⟩:=iz f;have o:=jc 0 m;have p:q<w.heap.size:=(aC.1 m).1;have s:=jI (λW (t:az w W)=>EY c d S W P _ (fH t h));clear f m;go_enter Tryz.func138,Tryz.ntmps138
 go_wp2_with(go_at_call 191;fail)
 refine(s _ (lU _ _ _)).mono ?_;rintro e w1 ⟨u,x,rfl,y,z⟩;have A:=jI (jN y z);clear y z;go_wp2;go_ret;exact⟨_,_,rfl,A.out.1,(lU _ _ _).trans (A.out.2.mono (by simp;omega))⟩
end Go.Proofs.YtnfhpdbbfejioaaGreatDoor
namespace Go.Proofs.YtnfhpdbbfejioaaGreatDoor.Mid
open Go Go.RowKit
variable {b d o P g:Nat}{w w0:jW}{r:Rs}{v:jU}
structure Ms where
 code:Int
 dst:Int
 a:Int
 b:Int
 c:Int
 n:Int
 op:By
 label:Int
 name:By
 args:List Int
structure Mf where
 name:By
 params:Int
 types:List Int
 steps:List Ms
def nh(c:By)(a b:Int):Bool:=if c=[61,61] then decide (a=b) else if c=[33,61] then decide (a≠b) else if c=[60] then decide (a<b) else if c=[60,61] then decide (a<=b) else if c=[62] then decide (a>b) else if c=[62,61] then decide (a≥b) else false
def gj(c:By)(a b:Int):Int×Int:=
 if c=[43] then(wrap64 (a+b),0)
 else if c=[45] then(wrap64 (a-b),0)
 else if c=[42] then(wrap64 (a*b),0)
 else if c=[47] then(if b=0 then(0,2) else(wrap64 (a.tdiv b),0))
 else if c=[37] then(if b=0 then(0,2) else(a.tmod b,0))
 else(if nh c a b then 1 else 0,0)
def gU(c:By)(a b:Int):ld Int:=if(gj c a b).2≠0 then gt (gj c a b).2 else gp (gj c a b).1
theorem KV{a b c d:Int}(h:a=b)(g:c=d):Ending.returned (.tuple #[jV a,jV c])=jR (.tuple #[jV b,jV d]):=by rw[h,g]
theorem qU(y:ByteArray)(a b:Int)(w:jW):aA 167 #[jT y,jV a,jV b] w λe w'=>e=jR (.bool (nh y.data.toList a b))/\w'=w:=by
 rw[my];go_enter Tryz.func167,Tryz.ntmps167;go_wp2
 all_goals (go_ret;refine⟨xx ?_,rfl⟩;unfold nh;simp_all [cA,bne])
theorem yt(y:ByteArray)(a b:Int)(w:jW):aA 166 #[jT y,jV a,jV b] w λe w'=>e=jR (if b=0 then .tuple #[jV 0,jV 2] else if y.data.toList=[47] then .tuple #[jV (wrap64 (a.tdiv b)),jV 0] else .tuple #[jV (a.tmod b),jV 0])/\w'=w:=by
 rw[my];go_enter Tryz.func166,Tryz.ntmps166;go_wp2
 all_goals ((try go_ret2);simp_all)
def BoP(c:By)(a b:Int)(w:jW)(e:Ending)(w':jW):Prop:=e=jR (.tuple #[jV (gj c a b).1,jV (gj c a b).2])/\w'=w
theorem sB(y:ByteArray)(a b:Int)(w:jW):aA 116 #[jT y,jV a,jV b] w (BoP y.data.toList a b w):=by
 rw[my];obtain⟨G,c⟩:=aB (BoP y.toList a b w);have d:=jI c;have f:Hid (∀w,aA 167 #[jT y,jV a,jV b] w λe w'=>e=jR (.bool (nh y.toList a b))/\w'=w):=λw=>by have:=qU y a b w;rw[my]at this;exact this
 obtain⟨g,h⟩:∃g:Int×Int,g=(if b=0 then(0,2) else if y.toList=[47] then(wrap64 (a.tdiv b),0) else(a.tmod b,0)):=⟨_,rfl⟩;have i:Hid (∀w,aA 166 #[jT y,jV a,jV b] w λe w'=>e=jR (.tuple #[jV g.1,jV g.2])/\w'=w):=λw=>by
  have:=yt y a b w;rw[my]at this;refine this.mono ?_;rintro e w' ⟨rfl,rfl⟩;refine⟨?_,rfl⟩;rw[h];split
  ·rfl
  ·split<;>rfl
 have j:=jI h;rw[<-c];clear c h;obtain⟨k,l⟩:=g;go_enter Tryz.func116,Tryz.ntmps116
 go_wp2_with(first
  |(go_at_call 166;refine(i _).mono ?_;rintro e w' ⟨rfl,rfl⟩)
  |(go_at_call 167;refine(f _).mono ?_;rintro e w' ⟨rfl,rfl⟩))
 all_goals
  ((try go_ret2);have m:=j.out;rw[d.out];refine⟨KV ?_ ?_,rfl⟩<;>unfold gj<;>simp_all<;>(try split)<;>simp_all)
def pl(o:List Vl)(i:Int):Vl:=o.getD i.toNat (0,none)
def fA(l:List Ms)(x:Int):Option Nat:=l.findIdx? (λs=>s.code==6&&s.label==x)
def theirs(F:Mf)(o:List Vl)(l:List Int):List Vl:=(l.map (pl o))++List.replicate (F.types.length-l.length) (0,none)
def iK(fs:By->Option Mf):Nat->Nat->Mf->Nat->List Vl->ld Int
 |0=>λ_ _ _ _=>gt 99
 |g+1=>λd F k o=>gb Dr λ_=>
  match F.steps[k]? with
  |none=>gt 98
  |some s=>
   if s.code=8 then gp (pl o s.a).1
   else if s.code=4 then iK fs g d F ((fA F.steps s.label).getD 0+1) o
   else if s.code=5 then(if(pl o s.a).1=0 then iK fs g d F ((fA F.steps s.label).getD 0+1) o else iK fs g d F (k+1) o)
   else if s.code=13 then gb (lO (pl o s.a).1) λ_=>iK fs g d F (k+1) o
   else if s.code=12 then gb (qm (pl o s.a).2 (pl o s.b).1 (pl o s.c).1) λ_=>iK fs g d F (k+1) o
   else if s.code=6 then iK fs g d F (k+1) o
   else gb (if s.code=1 then gp (s.n,none)
    else if s.code=3 then gb (gU s.op (pl o s.a).1 (pl o s.b).1) λn=>gp (n,none)
    else if s.code=7 then(match fs s.name with
     |none=>gt 98
     |some G=>if 40<=d then gt 5 else gb (iK fs g (d+1) G 0 (theirs G o s.args)) λn=>gp (n,none))
    else if s.code=9 then qj (pl o s.a).1
    else if s.code=10 then gb (zX (pl o s.a).2) λn=>gp (n,none)
    else if s.code=11 then gb (lQ (pl o s.a).2 (pl o s.b).1) λn=>gp (n,none)
    else if s.code=14 then gb rE λn=>gp (n,none)
    else gp (pl o s.a)) λv=>iK fs g d F (k+1) (o.set s.dst.toNat v)
def eI(fs:By->Option Mf)(g d:Nat)(s:Ms)(o:List Vl):ld Vl:=
 if s.code=1 then gp (s.n,none)
 else if s.code=3 then gb (gU s.op (pl o s.a).1 (pl o s.b).1) λn=>gp (n,none)
 else if s.code=7 then(match fs s.name with
  |none=>gt 98
  |some G=>if 40<=d then gt 5 else gb (iK fs g (d+1) G 0 (theirs G o s.args)) λn=>gp (n,none))
 else if s.code=9 then qj (pl o s.a).1
 else if s.code=10 then gb (zX (pl o s.a).2) λn=>gp (n,none)
 else if s.code=11 then gb (lQ (pl o s.a).2 (pl o s.b).1) λn=>gp (n,none)
 else if s.code=14 then gb rE λn=>gp (n,none)
 else gp (pl o s.a)
theorem QU(fs:By->Option Mf)(d:Nat)(F:Mf)(k:Nat)(o:List Vl)(s:Sg):iK fs 0 d F k o s= .error (99,s.out):=rfl
theorem uz(fs:By->Option Mf)(g d:Nat)(F:Mf)(k:Nat)(o:List Vl):iK fs (g+1) d F k o=gb Dr λ_=>
  match F.steps[k]? with
  |none=>gt 98
  |some s=>
   if s.code=8 then gp (pl o s.a).1
   else if s.code=4 then iK fs g d F ((fA F.steps s.label).getD 0+1) o
   else if s.code=5 then(if(pl o s.a).1=0 then iK fs g d F ((fA F.steps s.label).getD 0+1) o else iK fs g d F (k+1) o)
   else if s.code=13 then gb (lO (pl o s.a).1) λ_=>iK fs g d F (k+1) o
   else if s.code=12 then gb (qm (pl o s.a).2 (pl o s.b).1 (pl o s.c).1) λ_=>iK fs g d F (k+1) o
   else if s.code=6 then iK fs g d F (k+1) o
   else gb (eI fs g d s o) λv=>iK fs g d F (k+1) (o.set s.dst.toNat v):=rfl
abbrev qN(x:Int):Prop:= -9223372036854775808<=x/\x<=9223372036854775807
def qO(w:jW)(v:jU)(l:List Int):Prop:=
 ∃q c,v=jL q l.length c/\l.length<=1000000/\(∀x∈l,qN x)/\(l=[]\/∃g o,q=some (jB g o)/\∀j x,l[j]?=some x->w.cell? (jB g (o+j))=some (jV x))
structure g8 (w:jW) (b o:Nat) (s:Ms):Prop where
 c0:w.cell? (jB b o)=some (jV s.code)
 c1:w.cell? (jB b (o+1))=some (jV s.dst)
 c2:w.cell? (jB b (o+2))=some (jV s.a)
 c3:w.cell? (jB b (o+3))=some (jV s.b)
 c4:w.cell? (jB b (o+4))=some (jV s.c)
 c5:w.cell? (jB b (o+5))=some (jV s.n)
 c6:w.cell? (jB b (o+6))=some (jT ⟨s.op.toArray⟩)
 c7:w.cell? (jB b (o+7))=some (jV s.label)
 c8:w.cell? (jB b (o+8))=some (jT ⟨s.name.toArray⟩)
 c9:∃v,w.cell? (jB b (o+9))=some v/\qO w v s.args
 i1:qN s.code/\qN s.dst/\qN s.a/\qN s.b/\qN s.c/\qN s.n/\qN s.label
 i2:s.op.length<=1000000/\s.name.length<=9223372036854775807
structure eX (w:jW) (b o:Nat) (f:Mf):Prop where
 c0:w.cell? (jB b o)=some (jT ⟨f.name.toArray⟩)
 c1:w.cell? (jB b (o+1))=some (jV f.params)
 c2:∃v,w.cell? (jB b (o+2))=some v/\qO w v f.types
 c3:∃q c,w.cell? (jB b (o+3))=some (jL q f.steps.length c)/\f.steps.length<=c/\(f.steps=[]\/∃g p,q=some (jB g p)/\∀j s,f.steps[j]?=some s->g8 w g (p+j*10) s)
 i1:qN f.params
 i2:f.name.length<=9223372036854775807/\f.types.length<=1000000/\f.steps.length<=1000000
def nO(w:jW)(a:Nat)(b:List (Nat×Nat))(o:List Vl):Prop:=
 ∃cs:jE,w.heap[a]?=some (.cells cs.toArray 179)/\cs.length=o.length*2/\∀i x,o[i]?=some x->∃q,cs[i*2]?=some (jV x.1)/\cs[i*2+1]?=some q/\pA b x.2 q
theorem nO.get{a:Nat}{b:List (Nat×Nat)}{o:List Vl}(h:nO w a b o){i:Int}(c:0<=i)(h1:i<o.length):
  ∃q,w.cell? (jB a (i.toNat*2))=some (jV (pl o i).1)/\w.cell? (jB a (i.toNat*2+1))=some q/\pA b (pl o i).2 q:=by
 obtain⟨cs,hc,d,f⟩:=h;have g:i.toNat<o.length:=by omega
 have e:o[i.toNat]?=some (pl o i):=by unfold pl;rw[aI g,aU,aI g];rfl
 obtain⟨q,j,k,l⟩:=f _ _ e;exact⟨q,eo hc (by simpa using j),eo hc (by simpa using k),l⟩
theorem nO.mono{w':jW}{c:Nat}{a b:List (Nat×Nat)}{o:List Vl}(h:nO w c a o)(hk:w'.heap[c]?=w.heap[c]?)(d:a<+:b):nO w' c b o:=by
 obtain⟨cs,hc,e,f⟩:=h;refine⟨cs,by rw[hk];exact hc,e,λi x g=>?_⟩;obtain⟨q,j,k,l⟩:=f i x g;exact⟨q,j,k,l.mono d⟩
theorem nO.lt{a:List (Nat×Nat)}{o:List Vl}(h:nO w b a o):b<w.heap.size:=by
 obtain⟨cs,hc,_⟩:=h;exact(aC.1 hc).1
theorem nO.notX{b:jU}{ob:Nat}{a:List (Nat×Nat)}{o:List Vl}(h:nO w ob a o)(c:Sm w0 P b w r d):¬Xs P r ob:=by
 obtain⟨cs,hc,_⟩:=h;rintro(rfl|f|f)
 ·have:=c.pb;rw[hc]at this;injection this with this;injection this with _ e;cases e
 ·obtain⟨p,j,rfl⟩:=aT.1 f;obtain⟨i,k⟩:=a7 j;obtain⟨l,_,_,_,m⟩:=c.arr i p.1 p.2 k;rw[hc]at m;injection m with m;injection m with _ e;cases e
 ·rcases c.out.2 with⟨n,_⟩|⟨g,q,s,n,t,u,_⟩
  ·rw[n]at f;cases f
  ·rw[n]at f;have:g=ob:=by injection f
   subst this;rw[u]at hc;injection hc with hc;injection hc with _ e;cases e
theorem Sm.cell{c:jU}(h:Sm w0 P c w r d)(e:b≠P)(hc:w0.cell? (jB b o)=some v):w.cell? (jB b o)=some v:=by
 rw[<-hc];refine bB (a:=(jB b o)) (h.kp b ?_ e);rcases bG b w0.heap.size with h|h
 ·exact h
 ·unfold World.cell? at hc;simp[bH h]at hc
structure Mx extends Cx where
 wc:jW
 fs:By->Option Mf
structure oU (X:Mx):Prop where
 size:X.wc.heap.size<=X.P
 keep:∀b,b<X.wc.heap.size->X.w0.heap[b]?=X.wc.heap[b]?
theorem fE(h:w.cell? (jB b o)=some v):b<w.heap.size:=by
 rcases bG b w.heap.size with a|a
 ·exact a
 ·unfold World.cell? at h;simp[bH a]at h
theorem oU.cell{X:Mx}(h:oU X)(c:Sm X.w0 X.P X.fv w r d)(hc:X.wc.cell? (jB b o)=some v):w.cell? (jB b o)=some v:=by
 have e:=fE hc;have:=h.size;refine c.cell (by omega) ?_;rw[<-hc];exact bB (a:=(jB b o)) (h.keep b e)
theorem eF{A:Obj}(h:w.cell? (jB b o)=some v):(w.alloc A).cell? (jB b o)=some v:=by
 rw[<-h];exact bB (a:=(jB b o)) (ed (fE h))
def ur(X:Mx)(w:jW)(r:Rs)(d:Nat)(x:Except (Int×List Int) (Vl×Sg))(e:Ending)(w':jW):Prop:=
 ∃a b,Sm X.w0 X.P X.fv w' a b/\Fz X.P iL w r w' a/\
  ((∃y p l c,b=d/\x= .ok (y,a.s)/\e=jR (uF y.1 (jL p l c))/\pA a.ab y.2 (jL p l c))\/(∃k,x= .error (k,a.s.out)/\e=kz k))
abbrev KX(X:Mx)(b o a k:Nat):Array Value:=#[ptr X.P,jQ (some (jB b o)),jL (some (jA a)) k k]
theorem Hb{X:Mx}(h:Sm X.w0 X.P X.fv w r d)(n:Int)(A:Obj):ur X w r d (.ok ((n,none),r.s)) (jR (uF n jS)) (w.alloc A):=
 ⟨r,d,h.below ((aJ _ _).alloc (aD _) _),Fz.below ((aJ _ _).alloc (aD _) _),.inl ⟨(n,none),none,0,0,rfl,rfl,rfl,rfl⟩⟩
abbrev zv:Obj:=jC #[jV 0,jS] 179
theorem Hc{X:Mx}(a:oU X){s:Ms}(c:g8 X.wc b o s)(hc:s.code=1){e:Nat}{own:List Vl}(f:Sm X.w0 X.P X.fv w r d):
  aA 82 (KX X b o e own.length) w (ur X w r d (eI X.fs g d s own r.s)):=by
 have h:=eF (A:=zv) (a.cell f c.c0);have i:=eF (A:=zv) (a.cell f c.c5);rw[hc]at h;have j:=jI f;have k:Hid (eI X.fs g d s own r.s= .ok ((s.n,none),r.s)):=by unfold eI;rw[if_pos hc];rfl
 generalize l:ur X w r d (eI X.fs g d s own r.s)=G;have m:=jI l;clear f c hc a l;go_enter Tryz.func82,Tryz.ntmps82;go_wp2;refine bodyPost_ret (v:=uF s.n jS) (by simp[results,Tryz.results82,go_sem]) rfl ?_
 rw[<-m.out,k.out];exact Hb j _ _
theorem PA{X:Mx}(f:oU X){s:Ms}(h:g8 X.wc b o s)(hc:s.code=10){j:Nat}{own:List Vl}(m:Sm X.w0 X.P X.fv w r d)(t:nO w j r.ab own)(u:0<=s.a/\s.a<own.length)(hk:own.length<=1000000):
  aA 82 (KX X b o j own.length) w (ur X w r d (eI X.fs g d s own r.s)):=by
 have x:=eF (A:=zv) (f.cell m h.c0);have y:=eF (A:=zv) (f.cell m h.c2);rw[hc]at x;obtain⟨q,B,C,D⟩:=t.get u.1 u.2;have E:=jI m;obtain⟨ia,F⟩:∃ia:Nat,s.a=ia:=⟨s.a.toNat,by omega⟩;obtain⟨k,H⟩:∃k,own.length=k:=⟨_,rfl⟩;have I:ia<k:=by omega
 rw[F]at y C;rw[aR]at C;have J:=eF (A:=zv) C;obtain⟨z,K,L⟩:∃z:Nat,(∃p c,q=jL p z c)/\eI X.fs g d s own r.s= .ok (((z:Int),none),r.s):=by
  have e:eI X.fs g d s own r.s= .ok ((((ie r.s (pl own s.a).2).length:Int),none),r.s):=by unfold eI;rw[if_neg (by omega),if_neg (by omega),if_neg (by omega),if_neg (by omega),if_pos hc];rfl
  cases h2:(pl own s.a).2 with
  |none=>
   rw[h2]at D e;exact⟨0,⟨none,0,D⟩,e⟩
  |some i=>
   rw[h2]at D e;obtain⟨M,n,N,O⟩:=D;obtain⟨l,Q,S,_,_⟩:=m.arr i M n N;refine⟨n,⟨_,_,O⟩,?_⟩;rw[e];show Except.ok ((((r.s.hp.getD i []).length:Int),none),r.s)=_;rw[aU,Q];show Except.ok (((l.length:Int),none),r.s)=_;rw[S]
 obtain⟨p,c,rfl⟩:=K;have T:=jI L;show aA 82 #[ptr X.P,jQ (some (jB b o)),jL (some (jA j)) own.length own.length] w _;generalize U:ur X w r d (eI X.fs g d s own r.s)=G;have V:=jI U;rw[H];rw[H]at hk;clear m h hc f U u B C D F H L t;go_enter Tryz.func82,Tryz.ntmps82;go_wp2;refine bodyPost_ret (v:=uF z jS) (by simp[results,Tryz.results82,go_sem]) rfl ?_
 rw[<-V.out,T.out];exact Hb E _ _
end Go.Proofs.YtnfhpdbbfejioaaGreatDoor.Mid
namespace Go.Proofs.YtnfhpdbbfejioaaGreatDoor
open Go
structure Pc where
 k:Nat
 w:By
abbrev bl(c:UInt8):Pc:=⟨9,[c]⟩
abbrev fx(x:By):Pc:=⟨1,x⟩
def txt(l:List Pc):By:=l.flatMap (·.w)
def kv:List Pc->List eD
 |[]=>[]
 |p::q=>if p.k=9 then kv q else⟨p.k,p.w,0⟩::kv q
theorem fh:∀a b:List Pc,kv (a++b)=kv a++kv b
 |[],b=>rfl
 |p::a,b=>by
  rw[dP,kv,kv,fh a b];split<;>rfl
abbrev rB:By:=lets++js
def zf(w:By):Prop:=w≠[]/\(∀c∈w,rB.contains c=true)/\js.contains (w.headD 0)=false/\lw.contains w=false/\w.length<=12
def RH(w:By):Prop:=w≠[]/\∀c∈w,js.contains c=true
def RI(p:Pc):Prop:=(p.k=9/\(p.w=[32]\/p.w=[10]))\/(p.k=0/\zf p.w)\/(p.k=2/\RH p.w)\/(p.k=1/\p.w∈lw)\/(p.k=1/\p.w∈eY)
def S3(p:Pc)(c:UInt8):Bool:=p.k==9||(if rB.contains (p.w.headD 0) then !rB.contains c else if[[60],[62],[61],[33]].contains p.w then c !=61 else true)
def fb(c:UInt8):List Pc->UInt8
 |[]=>c
 |p::_=>if p.k=9 then 32 else p.w.headD 32
def TW(c:UInt8):List Pc->Bool
 |[]=>true
 |p::q=>S3 p (fb c q)&&TW c q
end Go.Proofs.YtnfhpdbbfejioaaGreatDoor
namespace Go.Proofs.YtnfhpdbbfejioaaGreatDoor
open Go Go.RowKit
variable {w:jW}{b n:Nat}{t e:TypeId}
def kB(w:World)(b n:Nat)(f:By->Option Value):Prop:=∃a,w.ownsMap Tryz.prog 9 Rv b n a/\∀nm z,a.atKey (.string nm) (.held z)= .held ((f nm).getD z)
theorem kB.obj{f:By->Option jU}(h:kB w b n f):∃a c,w.heap[b]?=some (.map a c):=by
 obtain⟨d,⟨a,c,h1,_⟩,_⟩:=h;exact⟨a,c,h1⟩
theorem kB.kept{w':jW}{f:By->Option jU}(h:kB w b n f)(hk:w'.heap[b]?=w.heap[b]?):kB w' b n f:=by
 obtain⟨a,⟨c,d,h1,h2⟩,e⟩:=h;exact⟨a,⟨c,d,by rw[hk];exact h1,h2⟩,e⟩
theorem kB.lt{f:By->Option jU}(h:kB w b n f):b<w.heap.size:=by
 obtain⟨a,c,h1⟩:=h.obj;exact(aC.1 h1).1
theorem kB.made(w:jW):kB (w.alloc (.map #[] 0)) w.heap.size 0 (λ_=>none):=
 ⟨_,World.ownsMap_made w Tryz.prog 9 Rv,λnm z=>rfl⟩
theorem uQ(x:ByteArray)(a:x.size<=1000000):keyOf Tryz.prog 9 (.string x)=some (.string x.data.toList):=Go.WideMaps.keyOf_string_mk Tryz.underlying9 (by unfold maxLen;omega)
theorem kB.look{f:By->Option jU}(h:kB w b n f)(a:Tryz.prog.underlying t=some (.map 9 e)){z:jU}(c:(zeroValue e).run Tryz.prog w= .ok z w)(x:ByteArray)(d:x.size<=1000000):
  (Instr.lookup t (.map (some b)) (jT x) false).run Tryz.prog w= .ok ((f x.data.toList).getD z) w:=by
 obtain⟨g,h1,i⟩:=h;obtain⟨v,j,k,l⟩:=World.ownsMap.lookup h1 (Maps.string_keyed Tryz.underlying9) a c (show Rv z=some (.held z,[]) from rfl) (uQ x d);rw[i]at l;unfold Rv at l;simp only[bm,cw,dQ]at l;rw[k,l.1]
theorem zY{a b:By}(h:a≠b):(Lit.string a)≠.string b:=λe=>h (by injection e)
theorem kB.put{f:By->Option jU}(h:kB w b n f)(a:Tryz.prog.underlying t=some (.map 9 e))(c:n<100000000)(x:ByteArray)(d:x.size<=1000000)(v:jU):
  ∃w',(Instr.mapUpdate t (.map (some b)) (jT x) v).run Tryz.prog w= .ok () w'/\kB w' b (n+1) (λy=>if y=x.data.toList then some v else f y)/\w.grownBy w' (some b):=by
 obtain⟨g,h1,i⟩:=h;obtain⟨w',j,k,l⟩:=World.ownsMap.update h1 (Maps.string_keyed Tryz.underlying9) a (by unfold maxLen;omega) (uQ x d) (show Rv v=some (.held v,[]) from rfl);refine⟨w',j,⟨_,k,λnm z=>?_⟩,l⟩;by_cases e:nm=x.data.toList
 ·subst e;rw[Maps.atKey_put_same h1.isMap (by trivial)];simp
 ·rw[Maps.atKey_put_other (zY e),i];simp[e]
end Go.Proofs.YtnfhpdbbfejioaaGreatDoor
