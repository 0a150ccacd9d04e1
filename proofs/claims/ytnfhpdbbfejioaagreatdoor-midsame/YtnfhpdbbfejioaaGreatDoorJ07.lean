/- LE LF LG LH LI LU LK QB -/
import Derived.Test.YtnfhpdbbfejioaaGreatDoorJ05
import Derived.Test.YtnfhpdbbfejioaaGreatDoorJ02
import Derived.Deep.DeepCutAuto
set_option linter.unusedVariables false
set_option linter.unusedSimpArgs false
set_option maxRecDepth 100000
set_option maxHeartbeats 16000000
namespace Go.Proofs.YtnfhpdbbfejioaaGreatDoor.Mid
open Go Go.RowKit
variable {P d e f b p i u1 u2:Nat}{w W wr:jW}{c a n k cc:Int}{nm j op m:By}{l r g t:Tr}{v:jU}{R R':Nat->Nat}{s s':Wr}{cs:Array Value}{F:Lf}{x:Ms}
theorem kw(g k:Nat):((jA g):Addr).add k=(jB g k):=by unfold Addr.add;split<;>simp_all
abbrev wG(b d e:IntKind)(c a n:Int)(nm f:By)(l r g:Tr):Tr:= .agg [.lit (.int b c),.lit (.int d a),.lit (.int e n),.lit (.string nm),.lit (.string f),l,r,g]
structure NdW (w:jW) (b:Nat) (c a n:Int) (yn yo:ByteArray) (vl vr vg:jU):Prop where
 c0:w.cell? (jA b)=some (jV c)
 c2:w.cell? (jB b 2)=some (jV n)
 c3:w.cell? (jB b 3)=some (jT yn)
 c4:w.cell? (jB b 4)=some (jT yo)
 c5:w.cell? (jB b 5)=some vl
 c6:w.cell? (jB b 6)=some vr
 c7:w.cell? (jB b 7)=some vg
theorem Ds{d e f:IntKind}(h:ej (Lo (P-1)) w (wG d e f c a n nm j l r g) v):
  ∃(b:Nat)(vl vr k:jU)(m:jE),b<P-1/\v=ptr b/\(∀W,Below (P-1) w W->NdW W b c a n ⟨nm.toArray⟩ ⟨j.toArray⟩ vl vr k/\ej (Lo (P-1)) W l vl/\ej (Lo (P-1)) W r vr/\W.ownsRow 0 145 1 k m.length m/\ej (Lo (P-1)) W g (.tuple m.toArray))/\(∀i,k.ownBlock=some i->i<P-1):=by
 rw[ej]at h;obtain⟨b,vl,vr,k,m,o,p,q,s,u,x,y,z⟩:=h;refine⟨b,vl,vr,k,m,o,p,λW A=>?_,y⟩;have hk:eJ (Lo (P-1)) w W:=λb cs t o _ hc=>by rw[A.block b o];exact hc
 have hc:=(A.block b o).trans q;exact⟨⟨jc 0 hc,jc 2 hc,jc 3 hc,jc 4 hc,jc 5 hc,jc 6 hc,jc 7 hc⟩,hk.ex s,hk.ex u,hk.row (by decide) x y,hk.ex z⟩
def pz(P:Nat)(R:Nat->Nat)(d:Nat)(w:jW)(x:Ms)(s':Wr)(e:Ending)(w':jW):Prop:=
 ∃f g h,e=jR (.agg #[jV x.code,jV x.dst,jV x.a,jV x.b,jV x.c,jV x.n,jT ⟨x.op.toArray⟩,jV x.label,jT ⟨x.name.toArray⟩,jL f g h])/\∃R',fC R' w' P d s'/\Lw P R R' w w'/\gG R' w' (jL f g h) x.args
def Ad(a:Tr->Lm Nat):Prop:=∀(R:Nat->Nat)(w:jW)(P b:Nat)(s s':Wr)(t:Tr)(v:jU)(p:Nat),fC R w P b s->ej (Lo (P-1)) w t v->a t s=some (p,s')->aA 163 #[ptr P,v] w (lR P R b w (p:Int) s')
def PE(n:FuncId)(L:Tr->Lm Ms):Prop:=∀(R:Nat->Nat)(w:jW)(P a:Nat)(s s':Wr)(t:Tr)(v:jU)(x:Ms),fC R w P a s->ej (Lo (P-1)) w t v->L t s=some (x,s')->aA n #[ptr P,v] w (pz P R a w x s')
def Ce(n:FuncId)(a:Tr->Nat->Lm Unit):Prop:=∀(R:Nat->Nat)(w:jW)(P b:Nat)(s s':Wr)(t:Tr)(v:jU)(e:Nat)(u:Unit),fC R w P b s->ej (Lo (P-1)) w t v->a t e s=some (u,s')->aA n #[ptr P,v,jV (e:Int)] w (kR P R b w s')
theorem MR:Tryz.prog.underlying 92=some (.map 9 3):=Tryz.underlying92
theorem Wc.name{w:World}{a:Nat}{b c d e:Value}(h:Wc R w P a b c d e s)(nm:By)(f:nm.length<=1000000)(W:World)(g:W.heap[a]?=w.heap[a]?):(Instr.lookup 92 (.map (some a)) (.string ⟨nm.toArray⟩) false).run Tryz.prog W= .ok (jV (nG s.nm nm:Int)) W:=by
 obtain⟨n,i,j⟩:=h.m;have hk:keyOf Tryz.prog 9 (.string ⟨nm.toArray⟩)=some (.string nm):=by
  have:=rI ⟨nm.toArray⟩ (by simp[ByteArray.size];omega);simpa using this
 have:=(i.kept g).look IM MR (tF W) hk;rw[this];show Result.ok (((s.nm.lookup nm).map λ(p:Nat)=>Value.int .i64 (p:Int)).getD (jV 0)) W= .ok (jV (((s.nm.lookup nm).getD 0:Nat):Int)) W;cases s.nm.lookup nm<;>rfl
theorem mU(h:kQ c nm s=some (k,s')):s'=s/\((c=2/\nm.length<=1000/\s.ts[nG s.nm nm]?=some k)\/(c≠2/\k=if c=6 then 2 else 1)):=by
 unfold kQ at h;split at h
 ·rename_i hc;split at h
  ·rename_i a;split at h
   ·rename_i hk;injection h with h;injection h with h1 h2;subst h1;exact⟨h2.symm,.inl ⟨hc,a,hk⟩⟩
   ·cases h
  ·cases h
 ·rename_i hc;injection h with h;injection h with h1 h2;exact⟨h2.symm,.inr ⟨hc,h1.symm⟩⟩
theorem yE{f o p:IntKind}{u:By}(h:fC R w P d s)(x:ej (Lo (P-1)) w (wG f o p c a n nm u l r g) v)(hk:kQ c nm s=some (k,s')):
  aA 161 #[ptr P,v] w (lR P R d w k s'):=by
 obtain⟨rfl,hc⟩:=mU hk;obtain⟨b,vl,vr,z,A,B,rfl,C,D⟩:=Ds x;obtain⟨E,-⟩:=C w (aJ _ _);have F:Hid (∀W,(∀b,b<w.heap.size->W.heap[b]?=w.heap[b]?)->Below (P-1) w W->fC R W P d s'/\Lw P R R w W):=λW h1 h2=>⟨h.on h1 h2,h2,λ_ _=>rfl,λb B _=>h1 b B⟩;obtain⟨H,I,J,K,h⟩:=h;have hd:∀b,b<w.heap.size->w.drew.heap[b]?=w.heap[b]?:=λ_ _=>rfl;obtain⟨q,L,rfl⟩:=eh h.t;have M:w.cell? (jA P)=some (jL q s'.ts.length L):=jc 0 h.blk;have N:w.cell? (jB P 2)=some (.map (some d)):=jc 2 h.blk;have O:=E.c0;have Q:=E.c3;have S:Hid (lR P R d w k s' (jR (jV k)) w):=by
  obtain⟨T,U⟩:=F w (λ_ _=>rfl) (aJ _ _);exact⟨rfl,R,T,U⟩
 have V:Hid (lR P R d w k s' (jR (jV k)) w.drew):=by
  obtain⟨T,U⟩:=F w.drew (λ_ _=>rfl) (eH _ _);exact⟨rfl,R,T,U⟩
 rcases hc with⟨rfl,Y,Z⟩|⟨hc,rfl⟩
 ·have f:=h.name nm (by omega) w.drew rfl;have o:=(aK.1 Z).1;obtain⟨p,u,e,-,-⟩:=h.t.form (by omega);injection e with e1 e2 e3;subst e1;have z:w.cell? (jB p (nG s'.nm nm))=some (jV k):=by
   have:=h.t.cells (g:=p) rfl (nG s'.nm nm) (jV k) (by simp[fI,Z]);rw[kw]at this;exact this
  generalize lR P R d w k s'=G at S V⊢;generalize nG s'.nm nm=j at*;generalize s'.ts.length=m at*;obtain⟨y,A⟩:∃y:ByteArray,y=⟨nm.toArray⟩:=⟨_,rfl⟩;rw[<-A]at Q f;have H:(j:Int)<(m:Int):=by omega
  clear h C E x hk Z F hd B D A e2 e3 Y;go_enter Tryz.func161,Tryz.ntmps161
  go_wp2_with fail
  go_region
  all_goals
   go_wp2;exact V
 ·have h2:((c:Int)==2)=false:=by simpa using hc
  by_cases I:c=6
  ·subst I;generalize lR P R d w _ s'=G at S⊢;clear h C E x hk F hd B D V;go_enter Tryz.func161,Tryz.ntmps161;go_wp2;exact S
  ·have J:((c:Int)==6)=false:=by simpa using I
   rw[if_neg I]at S⊢;generalize lR P R d w 1 s'=G at S⊢;clear h C E x hk F hd B D V hc I;go_enter Tryz.func161,Tryz.ntmps161;go_wp2;exact S
theorem mJ{a:Nat}(h:fC R' W P a s)(b:Lw P R R' w W)(cs:Array Value)(t:TypeId):
  fC R' (W.alloc (.cells cs t)) P a s/\Lw P R R' w (W.alloc (.cells cs t))/\(W.alloc (.cells cs t)).heap[W.heap.size]?=some (.cells cs t)/\R' W.heap.size=0:=by
 obtain⟨h1,h2⟩:=h.al (.cells cs t);refine⟨h1,b.trans h2,heap_alloc_last W _,?_⟩;obtain⟨_,_,_,_,h⟩:=h;rcases b8 (R' W.heap.size) with e|e
 ·exact e
 ·have:=h.lo W.heap.size (by omega);omega
theorem Lw.box(h:Lw P R R' w W){t:TypeId}(a:w.heap[b]?=some (.cells cs t))(c:R b=0):W.heap[b]?=some (.cells cs t)/\R' b=0:=by
 have d:=(aC.1 a).1;exact⟨(h.keep b d (.inl c)).trans a,(h.role b d).trans c⟩
abbrev EG(W:jW)(b o:Nat)(x y z:jU):jW:=((W.setCell (jB b o) x).setCell (jB b (o+1)) y).setCell (jB b (o+2)) z
theorem CH(h:qZ F t s=some (p,s')):∃(j f e:IntKind)(c a n:Int)(nm i:By)(l r g:Tr),t=wG j f e c a n nm i l r g/\((c=2/\nm.length<=1000/\p=nG s.nm nm/\s'=s)\/
  (c≠2/\∃x b k d,F.L t s=some (x,b)/\kQ c nm {b with u1:=s.u1,u2:=s.u2}=some (k,{b with u1:=s.u1,u2:=s.u2})/\∃q,nX k {b with u1:=s.u1,u2:=s.u2}=some (q,d)/\pV x q d=some (p,s'))):=by
 unfold qZ at h;split at h
 ·rename_i j c f a e n nm i l r g;refine⟨j,f,e,c,a,n,nm,i,l,r,g,rfl,?_⟩;split at h
  ·rename_i hc;unfold iH at h;split at h
   ·rename_i w;injection h with h;injection h with h1 h2;exact .inl ⟨hc,w,h1.symm,h2.symm⟩
   ·cases h
  ·rename_i hc;obtain⟨x,b,h1,h⟩:=d_ h;obtain⟨u,z,h2,h⟩:=d_ h;injection h2 with h2;injection h2 with _ h2;subst h2;obtain⟨k,d,m,h⟩:=d_ h;obtain⟨rfl,y⟩:=mU m;obtain⟨q,o,v,h⟩:=d_ h;exact .inr ⟨hc,x,b,k,o,h1,m,q,v,h⟩
 ·cases h
theorem CJ(h:fC R w P b s)(a:nX k s=some (p,s')):aA 213 #[ptr P,jV k] w (lR P R b w (p:Int) s'):=by
 unfold nX at a;split at a
 ·rename_i e;subst e;exact CZ h a
 ·split at a
  ·rename_i e;subst e;exact qY h a
  ·cases a
theorem AU{d e l:Int}{f g:ByteArray}{av:jU}{t:TypeId}(h:W.heap[b]?=some (jC #[jV c,jV d,jV a,jV e,jV cc,jV n,jT f,jV l,jT g,av] t)):
  W.cell? (jA b)=some (jV c)/\W.cell? (jB b 1)=some (jV d)/\W.cell? (jB b 2)=some (jV a)/\W.cell? (jB b 3)=some (jV e)/\W.cell? (jB b 4)=some (jV cc)/\W.cell? (jB b 5)=some (jV n)/\W.cell? (jB b 6)=some (jT f)/\W.cell? (jB b 7)=some (jV l)/\W.cell? (jB b 8)=some (jT g)/\W.cell? (jB b 9)=some av:=
 ⟨jc 0 h,jc 1 h,jc 2 h,jc 3 h,jc 4 h,jc 5 h,jc 6 h,jc 7 h,jc 8 h,jc 9 h⟩
theorem rU{c a:Nat}(h:fC R' W P c s)(d:Lw P R R' w W)(e:a<=100001)(f:b<=100001):
  fC R' (EG W P 6 (jV 0) (jV (a:Int)) (jV (b:Int))) P c {s with u1:=a,u2:=b}/\Lw P R R' w (EG W P 6 (jV 0) (jV (a:Int)) (jV (b:Int))):=by
 obtain⟨g,i,j,l,h⟩:=h;have h1:=aH W P 6 _ _ (jV 0) h.blk;have h2:=aH _ P 7 _ _ (jV (a:Int)) h1;have m:=aH _ P 8 _ _ (jV (b:Int)) h2;have n:Below (P-1) W (EG W P 6 (jV 0) (jV (a:Int)) (jV (b:Int))):=(je.trans je).trans je;obtain⟨o,p⟩:=h.setU (s':={s with u1:=a,u2:=b}) (no:=0) n (λk hk q=>by
  rw[aG _ _ _ _ q,aG _ _ _ _ q,aG _ _ _ _ q]) (by exact m) rfl rfl rfl rfl rfl (h.ok.us e f)
 exact⟨⟨_,_,_,_,o⟩,d.trans p⟩
theorem oO(h:ej (Lo (P-1)) w t v)(a:Below (P-1) w W):ej (Lo (P-1)) W t v:=eJ.ex (λb cs t c _ hc=>by rw[a.block b c];exact hc) h
theorem EH(hL:PE 212 F.L):Ad (qZ F):=by
 intro R w P d s s' t v p h hx hv;obtain⟨k1,k2,k3,c,a,n,nm,op,l,r,g,rfl,hc⟩:=CH hv;have HX:=jI hx;obtain⟨b,vl,vr,vg,ys,hb,rfl,hw,ho⟩:=Ds hx;obtain⟨hN,-⟩:=hw w (aJ _ _);have c0:=hN.c0;have c3:=hN.c3;have HH:=jI h;obtain⟨tv,sv,v1,v2,h⟩:=h;rcases hc with⟨rfl,D1,rfl,rfl⟩|⟨hc,x,J,k,s3,e1,e2,q,e3,e4⟩
 ·have C5:=h.name nm (by omega) w.drew rfl;have d2:w.cell? ⟨P,2,none⟩=some (.map (some d)):=jc 2 h.blk;have HY:Hid (lR P R d w (nG s'.nm nm:Int) s' (.returned (.int .i64 (nG s'.nm nm:Int))) w.drew):=⟨rfl,R,HH.on (λ_ _=>rfl) (eH _ _),eH _ _,λ_ _=>rfl,λ_ _ _=>rfl⟩;generalize lR P R d w (nG s'.nm nm:Int) s'=G at HY⊢;generalize nG s'.nm nm=j at*;obtain⟨y,hy⟩:∃y:ByteArray,y=⟨nm.toArray⟩:=⟨_,rfl⟩;rw[<-hy]at c3 C5;clear h hw hN hx HX HH hb ho hy D1 hv hL;go_enter Tryz.func163,Tryz.ntmps163
  go_wp2_with fail
  go_region
  all_goals
   go_wp2;exact HY.out
 ·have D4:((c:Int)==2)=false:=by simpa using hc
  have B4:=h.ok.u1;have B1:=h.ok.u2;have d6:w.cell? ⟨P,6,none⟩=some (.int .i64 0):=jc 6 h.blk;have d7:w.cell? ⟨P,7,none⟩=some (.int .i64 (s.u1:Int)):=jc 7 h.blk;have d8:w.cell? ⟨P,8,none⟩=some (.int .i64 (s.u2:Int)):=jc 8 h.blk;obtain⟨W1,S⟩:=aB (w.alloc (.cells #[.int .i64 0,.int .i64 (s.u1:Int),.int .i64 (s.u2:Int)] 157));obtain⟨Z,E,T,C0⟩:=mJ HH.out (Lw.refl P R w) #[.int .i64 0,.int .i64 (s.u1:Int),.int .i64 (s.u2:Int)] 157;rw[<-S]at Z E T;have HC:=jI (hL R W1 P d s J _ _ x Z (oO hx E.bel) e1);have A8:Hid (∀R' W,Lw P R R' W1 W->W.heap[w.heap.size]?=some (.cells #[.int .i64 0,.int .i64 (s.u1:Int),.int .i64 (s.u2:Int)] 157)):=λR' W hl=>(hl.box T C0).1;have D0:=jI E;obtain⟨G,hG⟩:=aB (lR P R d w (p:Int) s');have HG:=jI hG;have HK:Hid (∀R' W,fC R' W P d {J with u1:=s.u1,u2:=s.u2}->Below (P-1) w W->aA 161 #[ptr P,ptr b] W (lR P R' d W k {J with u1:=s.u1,u2:=s.u2})):=λR' W h1 h2=>yE h1 (oO HX.out h2) e2;have HT:Hid (∀R' W,fC R' W P d {J with u1:=s.u1,u2:=s.u2}->aA 213 #[ptr P,.int .i64 k] W (lR P R' d W (q:Int) s3)):=λR' W h1=>CJ h1 e3;obtain⟨Y,O,xa,xb,u,N,xo,xl,xm,xg⟩:=x;obtain⟨yo,A3⟩:∃y:ByteArray,y=⟨xo.toArray⟩:=⟨_,rfl⟩;obtain⟨yn,V⟩:∃y:ByteArray,y=⟨xm.toArray⟩:=⟨_,rfl⟩;have HF:Hid (∀R' W o m f,fC R' W P d s3->gG R' W (.slice o m f) xg->aA 211 #[ptr P,.agg #[.int .i64 Y,.int .i64 O,.int .i64 xa,.int .i64 xb,.int .i64 u,.int .i64 N,.string yo,.int .i64 xl,.string yn,.slice o m f],.int .i64 (q:Int)] W (lR P R' d W (p:Int) s')):=λR' W o m f h1 h2=>by
   rw[A3,V];exact sP (x:=⟨Y,O,xa,xb,u,N,xo,xl,xm,xg⟩) h1 o m f h2 e4
  have B8:Hid (aA 212 #[ptr P,ptr b] W1 (λe w'=>∃o m f,e= .returned (.agg #[.int .i64 Y,.int .i64 O,.int .i64 xa,.int .i64 xb,.int .i64 u,.int .i64 N,.string yo,.int .i64 xl,.string yn,.slice o m f])/\∃R',fC R' w' P d J/\Lw P R R' W1 w'/\gG R' w' (.slice o m f) xg)):=by
   rw[A3,V];refine HC.mono ?_;rintro e w' ⟨o,m,f,he,R',q1,q2,q3⟩;exact⟨o,m,f,he,R',q1,q2,q3⟩
  have HU:Hid (∀R' W,fC R' W P d J->fC R' (((W.setCell ⟨P,6,none⟩ (.int .i64 0)).setCell ⟨P,7,none⟩ (.int .i64 (s.u1:Int))).setCell ⟨P,8,none⟩ (.int .i64 (s.u2:Int))) P d {J with u1:=s.u1,u2:=s.u2}/\Lw P R' R' W (((W.setCell ⟨P,6,none⟩ (.int .i64 0)).setCell ⟨P,7,none⟩ (.int .i64 (s.u1:Int))).setCell ⟨P,8,none⟩ (.int .i64 (s.u2:Int)))):=λR' W h1=>rU h1 (Lw.refl _ _ _) B4 B1;have D3:Hid (P<w.heap.size/\b<P):=⟨h.ltP,by omega⟩;rw[<-hG];generalize C7:({J with u1:=s.u1,u2:=s.u2}:Wr)=s2 at HK HT HU;generalize s.u1=u1 at*;generalize s.u2=u2 at*;clear h hw hN hx HX hb ho hv hL Z E T C0 HC A3 V hG e1 e2 e3 e4 hc B4 B1 HH C7;go_enter Tryz.func163,Tryz.ntmps163
  go_wp2_with(go_at_call 212;fail)
  rw[<-S];clear S;refine B8.mono ?_;rintro e w2 ⟨o,m,f,rfl,A,A2,A5,B7⟩;have K:=D0.trans A5;obtain⟨I,Q,U,B3⟩:=mJ A2 K #[.int .i64 Y,.int .i64 O,.int .i64 xa,.int .i64 xb,.int .i64 u,.int .i64 N,.string yo,.int .i64 xl,.string yn,.slice o m f] 125;have D:Lw P A A w2 (w2.alloc (.cells #[.int .i64 Y,.int .i64 O,.int .i64 xa,.int .i64 xb,.int .i64 u,.int .i64 N,.string yo,.int .i64 xl,.string yn,.slice o m f] 125)):=(A2.al _).2;obtain⟨z,A0⟩:=aB (w2.alloc (.cells #[.int .i64 Y,.int .i64 O,.int .i64 xa,.int .i64 xb,.int .i64 u,.int .i64 N,.string yo,.int .i64 xl,.string yn,.slice o m f] 125));rw[<-A0]at I Q U D;obtain⟨A1,B⟩:=HU.out A z I;have C:=A8.out A z (A5.trans D);have z0:=jc 0 C;have z1:=jc 1 C;have z2:=jc 2 C;obtain⟨M,H⟩:=aB (((z.setCell ⟨P,6,none⟩ (.int .i64 0)).setCell ⟨P,7,none⟩ (.int .i64 (u1:Int))).setCell ⟨P,8,none⟩ (.int .i64 (u2:Int)));rw[<-H]at A1 B;have HB:Hid (∀R' W,Lw P A R' z W->W.heap[w2.heap.size]?=some (.cells #[.int .i64 Y,.int .i64 O,.int .i64 xa,.int .i64 xb,.int .i64 u,.int .i64 N,.string yo,.int .i64 xl,.string yn,.slice o m f] 125)):=λR' W hl=>(hl.box U B3).1;have A6:Lw P A A M M.drew:=⟨eH _ _,λ_ _=>rfl,λ_ _ _=>rfl⟩;have C9:Hid (fC A M.drew P d s2):=A1.on (λ_ _=>rfl) (eH _ _);obtain⟨B6,D2,A9⟩:=j3 (B.trans A6) ((B7.kept D).kept (B.trans A6)) Q;obtain⟨y0,y1,y2,y3,y4,y5,y6,y7,y8,y9⟩:=AU (W:=M) (HB.out A M B);obtain⟨p6,p7,p8,f6,f7,f8⟩:(∃v,z.cell? ⟨P,6,none⟩=some v)/\(∃v,z.cell? ⟨P,7,none⟩=some v)/\(∃v,z.cell? ⟨P,8,none⟩=some v)/\z.frozen? ⟨P,6,none⟩=false/\z.frozen? ⟨P,7,none⟩=false/\z.frozen? ⟨P,8,none⟩=false:=by
   obtain⟨_,_,_,_,hh⟩:=I;exact⟨⟨_,jc 6 hh.blk⟩,⟨_,jc 7 hh.blk⟩,⟨_,jc 8 hh.blk⟩,ea hh.blk 6,ea hh.blk 7,ea hh.blk 8⟩
  obtain⟨x6,p6⟩:=p6;obtain⟨x7,p7⟩:=p7;obtain⟨x8,p8⟩:=p8;rw[A0]at z0 z1 z2 p6 p7 p8 f6 f7 f8 H;clear A2 A5 B7 K I Q U B3 D A1 B C A6 B8 HU A8 A0
  go_wp2_with fail
  rw[<-H];clear H z0 z1 z2 p6 p7 p8 f6 f7 f8
  go_region_with(first
   |(go_at_call 161;refine(HK.out A M.drew C9.out ((A9.trans B6.out).bel)).mono ?_;rintro e w5 ⟨rfl,R5,C2,A4⟩;have C6:Hid (fC R5 w5 P d s2):=C2;have B5:Hid (Lw P A R5 z w5):=B6.trans A4;have C3:Hid (gG R5 w5 (.slice o m f) xg):=D2.kept A4;obtain⟨t0,t1,t2,t3,t4,t5,t6,t7,t8,t9⟩:=AU (HB.out _ _ B5.out);clear C2 A4)
   |(go_at_call 213;refine(HT.out R5 w5 C6.out).mono ?_;rintro e w6 ⟨rfl,R6,B0,A7⟩;have C8:Hid (fC R6 w6 P d s3):=B0;have C1:Hid (Lw P A R6 z w6):=B5.trans A7;have C4:Hid (gG R6 w6 (.slice o m f) xg):=C3.kept A7;obtain⟨t0,t1,t2,t3,t4,t5,t6,t7,t8,t9⟩:=AU (HB.out _ _ C1.out);clear B0 A7)
   |(go_at_call 211;refine(HF.out R6 w6 o m f C8.out C4.out).mono ?_;rintro e w7 ⟨rfl,R7,B9,B2⟩;have HE:Hid (G (.returned (.int .i64 (p:Int))) w7):=(by show G _ _;rw[HG.out];exact⟨rfl,R7,B9,A9.trans (C1.trans B2)⟩);clear B9 B2))
  all_goals
   go_wp2;go_ret;exact HE.out
theorem jk{a:Func}{p:Tmp}(h:a.results=#[.cell p 125])(b:Array Value)(w:jW)(g:Nat)(c d e f i j k l m n:jU)(o:b.getD p undef=jP g)(q:w.heap[g]?=some (jC #[c,d,e,f,i,j,k,l,m,n] 125)):
  (results a b).run Tryz.prog w= .ok (.agg #[c,d,e,f,i,j,k,l,m,n]) w:=by
 have h1:(loadVar 125 (jA g)).run Tryz.prog w= .ok (.agg #[c,d,e,f,i,j,k,l,m,n]) w:=cm w g 125 125 _ (0,0) _ q Tryz.underlying125 rfl (by kernel_rfl);rw[gC h,o];simp[asAddr];exact h1
abbrev o9:Obj:=jC #[jV 0,jV 0,jV 0,jV 0,jV 0,jV 0,jT ⟨#[]⟩,jV 0,jT ⟨#[]⟩,jS] 125
abbrev nk(W:jW)(g:Nat)(a b c d e f h i j k:jU):jW:=(((((((((W.setCell (jA g) a).setCell (jB g 1) b).setCell (jB g 2) c).setCell (jB g 3) d).setCell (jB g 4) e).setCell (jB g 5) f).setCell (jB g 6) h).setCell (jB g 7) i).setCell (jB g 8) j).setCell (jB g 9) k
theorem Wc.other{d:jW}{l o p r:jU}(h:Wc R W P f l o p r s){g:Nat}{t:TypeId}(u:W.heap[g]?=some (.cells cs t))(v:t≠3)(w:R g=0)(hk:∀b,b≠g->d.heap[b]?=W.heap[b]?)(y:W.heap.size<=d.heap.size):Wc R d P f l o p r s:=by
 have z:∀b,R b≠0->d.heap[b]?=W.heap[b]?:=λb A=>hk b (λe=>A (by rw[e];exact w));obtain⟨B,C,D,E⟩:=h.st;obtain⟨n,F,G⟩:=h.m;refine⟨(z P (by rw[h.rP];omega)).trans h.blk,fX h.t (λi H=>z i (by rw[h.rt i H];omega)),⟨B,C,fX D (λi H=>z i (by rw[h.rs i H];omega)),λj x a I J=>?_⟩,fX h.p1 (λi H=>z i (by rw[h.r1 i H];omega)),fX h.p2 (λi H=>z i (by rw[h.r2 i H];omega)),⟨n,F.kept (z f (by rw[h.rm];omega)),G⟩,h.rP,h.rt,h.rs,h.r1,h.r2,h.rm,λb A=>⟨(h.lo b A).1,aO (h.lo b A).2 y⟩,h.ok⟩;obtain⟨q,c,e,h2⟩:=E j x a I J;refine⟨q,c,e,?_⟩;rcases h2 with h2|⟨k,K,L,M,N,O⟩
 ·exact .inl h2
 ·refine .inr ⟨k,K,L,M,(hk k (λQ=>?_)).trans N,O⟩;rw[Q,u]at N;injection N with N;injection N with _ N;exact v N
theorem gG.other{a:jW}{l:List Int}(h:gG R W v l){g:Nat}{t:TypeId}(d:W.heap[g]?=some (.cells cs t))(f:t≠3)(hk:∀b,b≠g->a.heap[b]?=W.heap[b]?):gG R a v l:=by
 obtain⟨q,c,e,h2⟩:=h;refine⟨q,c,e,?_⟩;rcases h2 with h2|⟨k,i,j,m,n,o⟩
 ·exact .inl h2
 ·refine .inr ⟨k,i,j,m,(hk k (λp=>?_)).trans n,o⟩;rw[p,d]at n;injection n with n;injection n with _ n;exact f n
theorem xQ(W:jW)(g:Nat)(a c d e f h i j k l:jU)(b:Nat)(m:b≠g):(nk W g a c d e f h i j k l).heap[b]?=W.heap[b]?:=by
 rw[aG _ _ _ _ m,aG _ _ _ _ m,aG _ _ _ _ m,aG _ _ _ _ m,aG _ _ _ _ m,aG _ _ _ _ m,aG _ _ _ _ m,aG _ _ _ _ m,aG _ _ _ _ m,aG _ _ _ _ m]
theorem zH(W:jW)(g:Nat)(t:TypeId)(a b c d e f i j k l m n o p q r s u v w:jU)(h:W.heap[g]?=some (jC #[a,b,c,d,e,f,i,j,k,l] t)):(nk W g m n o p q r s u v w).heap[g]?=some (jC #[m,n,o,p,q,r,s,u,v,w] t):=by
 have x:(W.setCell (jA g) m).heap[g]?=some (jC #[m,b,c,d,e,f,i,j,k,l] t):=aH _ g 0 _ t m h;have h1:((W.setCell (jA g) m).setCell (jB g 1) n).heap[g]?=some (jC #[m,n,c,d,e,f,i,j,k,l] t):=aH _ g 1 _ t n x;have h2:(((W.setCell (jA g) m).setCell (jB g 1) n).setCell (jB g 2) o).heap[g]?=some (jC #[m,n,o,d,e,f,i,j,k,l] t):=aH _ g 2 _ t o h1;have y:((((W.setCell (jA g) m).setCell (jB g 1) n).setCell (jB g 2) o).setCell (jB g 3) p).heap[g]?=some (jC #[m,n,o,p,e,f,i,j,k,l] t):=aH _ g 3 _ t p h2;have z:(((((W.setCell (jA g) m).setCell (jB g 1) n).setCell (jB g 2) o).setCell (jB g 3) p).setCell (jB g 4) q).heap[g]?=some (jC #[m,n,o,p,q,f,i,j,k,l] t):=aH _ g 4 _ t q y;have A:((((((W.setCell (jA g) m).setCell (jB g 1) n).setCell (jB g 2) o).setCell (jB g 3) p).setCell (jB g 4) q).setCell (jB g 5) r).heap[g]?=some (jC #[m,n,o,p,q,r,i,j,k,l] t):=aH _ g 5 _ t r z;have B:(((((((W.setCell (jA g) m).setCell (jB g 1) n).setCell (jB g 2) o).setCell (jB g 3) p).setCell (jB g 4) q).setCell (jB g 5) r).setCell (jB g 6) s).heap[g]?=some (jC #[m,n,o,p,q,r,s,j,k,l] t):=aH _ g 6 _ t s A;have C:((((((((W.setCell (jA g) m).setCell (jB g 1) n).setCell (jB g 2) o).setCell (jB g 3) p).setCell (jB g 4) q).setCell (jB g 5) r).setCell (jB g 6) s).setCell (jB g 7) u).heap[g]?=some (jC #[m,n,o,p,q,r,s,u,k,l] t):=aH _ g 7 _ t u B;have D:(((((((((W.setCell (jA g) m).setCell (jB g 1) n).setCell (jB g 2) o).setCell (jB g 3) p).setCell (jB g 4) q).setCell (jB g 5) r).setCell (jB g 6) s).setCell (jB g 7) u).setCell (jB g 8) v).heap[g]?=some (jC #[m,n,o,p,q,r,s,u,v,l] t):=aH _ g 8 _ t v C;have E:((((((((((W.setCell (jA g) m).setCell (jB g 1) n).setCell (jB g 2) o).setCell (jB g 3) p).setCell (jB g 4) q).setCell (jB g 5) r).setCell (jB g 6) s).setCell (jB g 7) u).setCell (jB g 8) v).setCell (jB g 9) w).heap[g]?=some (jC #[m,n,o,p,q,r,s,u,v,w] t):=aH _ g 9 _ t w D;exact E
theorem nW(h:fC R w P e s)(f:fC R' W P e s')(g:Lw P R R' (w.alloc o9) W)(c d a b cc n l:Int)(yo yn:ByteArray)(args:List Int)(j:jO)(m o:Nat)(q:gG R' W (jL j m o) args):
  (nk W w.heap.size (jV c) (jV d) (jV a) (jV b) (jV cc) (jV n) (jT yo) (jV l) (jT yn) (jL j m o)).heap[w.heap.size]?=some (jC #[jV c,jV d,jV a,jV b,jV cc,jV n,jT yo,jV l,jT yn,jL j m o] 125)/\
  pz P R e w ⟨c,d,a,b,cc,n,yo.data.toList,l,yn.data.toList,args⟩ s' (jR (.agg #[jV c,jV d,jV a,jV b,jV cc,jV n,jT yo,jV l,jT yn,jL j m o])) (nk W w.heap.size (jV c) (jV d) (jV a) (jV b) (jV cc) (jV n) (jT yo) (jV l) (jT yn) (jL j m o)):=by
 obtain⟨h1,h2,r,t⟩:=mJ h (Lw.refl P R w) #[jV 0,jV 0,jV 0,jV 0,jV 0,jV 0,jT ⟨#[]⟩,jV 0,jT ⟨#[]⟩,jS] 125;obtain⟨u,x⟩:=g.box r t;have y:P<w.heap.size:=by obtain⟨_,_,_,_,h⟩:=h;exact h.ltP
 have hk:=xQ W w.heap.size (jV c) (jV d) (jV a) (jV b) (jV cc) (jV n) (jT yo) (jV l) (jT yn) (jL j m o);have z:(nk W w.heap.size (jV c) (jV d) (jV a) (jV b) (jV cc) (jV n) (jT yo) (jV l) (jT yn) (jL j m o)).heap.size=W.heap.size:=by simp
 have A:(⟨yo.data.toList.toArray⟩:ByteArray)=yo:=by rw[bM]
 have B:(⟨yn.data.toList.toArray⟩:ByteArray)=yn:=by rw[bM]
 have C:∀(X:jW)(i:Nat)(v:jU),Below (P-1) X (X.setCell (jB w.heap.size i) v):=λX i v=>(aJ _ _).setCell (p:=(jB w.heap.size i)) (show P-1<=w.heap.size by omega) _;have D:Below (P-1) W (nk W w.heap.size (jV c) (jV d) (jV a) (jV b) (jV cc) (jV n) (jT yo) (jV l) (jT yn) (jL j m o)):=(((((((((C _ _ _).trans (C _ _ _)).trans (C _ _ _)).trans (C _ _ _)).trans (C _ _ _)).trans (C _ _ _)).trans (C _ _ _)).trans (C _ _ _)).trans (C _ _ _)).trans (C _ _ _);refine⟨zH W _ _ _ _ _ _ _ _ _ _ _ _ _ _ _ _ _ _ _ _ _ _ u,j,m,o,?_,R',?_,?_,?_⟩
 ·show _=Ending.returned (.agg #[_,_,_,_,_,_,jT ⟨yo.data.toList.toArray⟩,_,jT ⟨yn.data.toList.toArray⟩,_]);rw[A,B]
 ·obtain⟨E,F,G,H,f⟩:=f;exact⟨E,F,G,H,f.other u (by decide) x hk (by rw[z];exact aD _)⟩
 ·have I:=h2.trans g;refine⟨I.bel.trans D,I.role,λk J K=>?_⟩;rw[hk k (by omega)];exact I.keep k J K
 ·exact q.other u (by decide) hk
theorem CX{a:By}(h:ye F a l s=some (x,s')):∃p b z,F.V l s=some (p,b)/\kO b=some (z,s')/\((a=[45]/\x=⟨3,0,(z:Int),(p:Int),0,0,[45],0,[],[]⟩)\/(a≠[45]/\x=⟨3,0,(p:Int),(z:Int),0,0,[61,61],0,[],[]⟩)):=by
 unfold ye at h;obtain⟨p,b,h1,h⟩:=d_ h;obtain⟨z,c,h2,h⟩:=d_ h;injection h with h;injection h with h3 h4;subst h4;refine⟨p,b,z,h1,h2,?_⟩;by_cases e:a=[45]
 ·rw[if_pos e]at h3;exact .inl ⟨e,h3.symm⟩
 ·rw[if_neg e]at h3;exact .inr ⟨e,h3.symm⟩
theorem Bx(op:By):(⟨op.toArray⟩:ByteArray).toList=op:=by rw[<-my]
theorem o_{a:Nat}(h:fC R w P a s)(b:Lw P R R' (w.alloc o9) W):
  (W.cell? (jA w.heap.size)=some (jV 0)/\W.cell? (jB w.heap.size 1)=some (jV 0)/\W.cell? (jB w.heap.size 2)=some (jV 0)/\W.cell? (jB w.heap.size 3)=some (jV 0)/\W.cell? (jB w.heap.size 4)=some (jV 0)/\W.cell? (jB w.heap.size 5)=some (jV 0)/\W.cell? (jB w.heap.size 6)=some (jT ⟨#[]⟩)/\W.cell? (jB w.heap.size 7)=some (jV 0)/\W.cell? (jB w.heap.size 8)=some (jT ⟨#[]⟩)/\W.cell? (jB w.heap.size 9)=some jS)/\∀i,W.frozen? (jB w.heap.size i)=false:=by
 obtain⟨h1,h2,c,d⟩:=mJ h (Lw.refl P R w) #[jV 0,jV 0,jV 0,jV 0,jV 0,jV 0,jT ⟨#[]⟩,jV 0,jT ⟨#[]⟩,jS] 125;obtain⟨e,f⟩:=b.box c d;exact⟨AU e,λi=>ea e i⟩
theorem OD(d:Ad F.V){i j k:IntKind}(h:fC R w P f s)(m:ej (Lo (P-1)) w (wG i j k c a n nm op l r g) v)(o:ye F op l s=some (x,s')):
  aA 241 #[ptr P,v] w (pz P R f w x s'):=by
 obtain⟨p,q,z,t,u,A⟩:=CX o;obtain⟨b,vl,vr,B,C,D,rfl,E,H⟩:=Ds m;obtain⟨I,J⟩:=aB (w.alloc o9);obtain⟨K,L⟩:=h.al o9;rw[<-J]at K L;obtain⟨M,N,-⟩:=E I L.bel;have O:=M.c5;have Q:Hid (aA 163 #[ptr P,vl] I (lR P R f I (p:Int) q)):=d R I P f s q l vl p K N t;obtain⟨S,T⟩:∃y:ByteArray,y=⟨op.toArray⟩:=⟨_,rfl⟩;have U:Hid (∀W,Below (P-1) w W->W.cell? (jB b 4)=some (jT S)):=λW Y=>by rw[T];exact(E W Y).1.c4
 have Z:Hid (Lw P R R w I):=L;have i:Hid (fC R w P f s):=h;have j:Hid (I=w.alloc o9):=J;have k:S.toList=op:=by rw[T,Bx]
 obtain⟨G,B⟩:=aB (pz P R f w x s');have C:Hid (G=pz P R f w x s'):=B;rw[<-B];have D:I=w.alloc (jC #[jV 0,jV 0,jV 0,jV 0,jV 0,jV 0,jT ⟨#[]⟩,jV 0,jT ⟨#[]⟩,jS] 125):=J;rw[D]at O;clear E m H d K L M N B o h T t J;rcases A with⟨rfl,q⟩|⟨Y,q⟩
 ·have d:(S.toList==[45])=true:=by rw[k];rfl
  have m:Hid (x=_):=q;clear k q;go_enter Tryz.func241,Tryz.ntmps241
  go_wp2_with(go_at_call 163;fail)
  rw[<-D];clear D O;refine Q.out.mono ?_;rintro e o ⟨rfl,t,A,E⟩;have H:=U.out o (Z.out.trans E).bel;have J:Hid (aA 71 #[ptr P] o (lR P t f o (z:Int) s')):=nU A u;have K:Hid (Lw P R t I o):=E;clear A E
  go_wp2_with(go_at_call 71;fail)
  refine J.out.mono ?_;rintro e w3 ⟨rfl,L,M,N⟩;have T:Lw P R L (w.alloc o9) w3:=j.out▸K.out.trans N;obtain⟨⟨B,A0,A1,A2,A3,A4,A5,A6,A7,A8⟩,A9⟩:=o_ i.out T;have B0:=A9 0;have B1:=A9 1;have B2:=A9 2;have B3:=A9 3;have B4:=A9 4;have B5:=A9 5;have B6:=A9 6;have B7:=A9 7;have B8:=A9 8;have B9:=A9 9;obtain⟨C0,C1⟩:=nW i.out M T 3 0 (z:Int) (p:Int) 0 0 0 ⟨#[45]⟩ ⟨#[]⟩ [] none 0 0 (gG.none _ _);have C2:Hid (_=_):=C0;have C3:Hid (pz P R f w x s' _ _):=m.out▸C1;rw[Hid,<-C.out]at C3;have C4:Hid (G _ _):=C3;clear C3 M N T C0 C1 A9 H;go_wp2;refine bodyPost_ret (jk Tryz.results241 _ _ w.heap.size _ _ _ _ _ _ _ _ _ _ rfl C2.out) rfl ?_
  exact C4.out
 ·have d:(S.toList==[45])=false:=by rw[k];simpa using Y
  have m:Hid (x=_):=q;clear k q Y;go_enter Tryz.func241,Tryz.ntmps241
  go_wp2_with(go_at_call 163;fail)
  rw[<-D];clear D O;refine Q.out.mono ?_;rintro e o ⟨rfl,t,A,E⟩;have H:=U.out o (Z.out.trans E).bel;have J:Hid (aA 71 #[ptr P] o (lR P t f o (z:Int) s')):=nU A u;have K:Hid (Lw P R t I o):=E;clear A E
  go_wp2_with(go_at_call 71;fail)
  refine J.out.mono ?_;rintro e w3 ⟨rfl,L,M,N⟩;have T:Lw P R L (w.alloc o9) w3:=j.out▸K.out.trans N;obtain⟨⟨B,A0,A1,A2,A3,A4,A5,A6,A7,A8⟩,A9⟩:=o_ i.out T;have B0:=A9 0;have B1:=A9 1;have B2:=A9 2;have B3:=A9 3;have B4:=A9 4;have B5:=A9 5;have B6:=A9 6;have B7:=A9 7;have B8:=A9 8;have B9:=A9 9;obtain⟨C0,C1⟩:=nW i.out M T 3 0 (p:Int) (z:Int) 0 0 0 ⟨#[61,61]⟩ ⟨#[]⟩ [] none 0 0 (gG.none _ _);have C2:Hid (_=_):=C0;have C3:Hid (pz P R f w x s' _ _):=m.out▸C1;rw[Hid,<-C.out]at C3;have C4:Hid (G _ _):=C3;clear C3 M N T C0 C1 A9 H;go_wp2;refine bodyPost_ret (jk Tryz.results241 _ _ w.heap.size _ _ _ _ _ _ _ _ _ _ rfl C2.out) rfl ?_
  exact C4.out
def Zc(g:Nat)(W:jW):Prop:=(W.cell? (jA g)=some (jV 0)/\W.cell? (jB g 1)=some (jV 0)/\W.cell? (jB g 2)=some (jV 0)/\W.cell? (jB g 3)=some (jV 0)/\W.cell? (jB g 4)=some (jV 0)/\W.cell? (jB g 5)=some (jV 0)/\W.cell? (jB g 6)=some (jT ⟨#[]⟩)/\W.cell? (jB g 7)=some (jV 0)/\W.cell? (jB g 8)=some (jT ⟨#[]⟩)/\W.cell? (jB g 9)=some jS)/\∀i,W.frozen? (jB g i)=false
def Qw(g:Nat)(W:jW)(a b c d e f h i j k:jU)(G:Ending->jW->Prop):Prop:=
 Hid ((nk W g a b c d e f h i j k).heap[g]?=some (jC #[a,b,c,d,e,f,h,i,j,k] 125))/\Hid (G (jR (.agg #[a,b,c,d,e,f,h,i,j,k])) (nk W g a b c d e f h i j k))
def Ml(P:Nat)(R:Nat->Nat)(f:Nat)(w:jW)(c d a b cc n:Int)(g:ByteArray)(l:Int)(h:ByteArray)(s':Wr)(e:Ending)(w':jW):Prop:=
 e=jR (.agg #[jV c,jV d,jV a,jV b,jV cc,jV n,jT g,jV l,jT h,jS])/\∃R',fC R' w' P f s'/\Lw P R R' w w'
theorem EE(h:fC R w P e s)(f:fC R' W P e s')(g:Lw P R R' (w.alloc o9) W)(c d a b cc n l:Int)(i j:ByteArray):
  (nk W w.heap.size (jV c) (jV d) (jV a) (jV b) (jV cc) (jV n) (jT i) (jV l) (jT j) jS).heap[w.heap.size]?=some (jC #[jV c,jV d,jV a,jV b,jV cc,jV n,jT i,jV l,jT j,jS] 125)/\
  Ml P R e w c d a b cc n i l j s' (jR (.agg #[jV c,jV d,jV a,jV b,jV cc,jV n,jT i,jV l,jT j,jS])) (nk W w.heap.size (jV c) (jV d) (jV a) (jV b) (jV cc) (jV n) (jT i) (jV l) (jT j) jS):=by
 obtain⟨h1,k,m,o,h2,p,q,r,t⟩:=nW h f g c d a b cc n l i j [] none 0 0 (gG.none _ _);exact⟨h1,rfl,p,q,r⟩
theorem Ml.ls{d b l:Int}{yo yn:ByteArray}{e:Ending}{w':jW}(h:Ml P R f w c d a b cc n yo l yn s' e w'):pz P R f w ⟨c,d,a,b,cc,n,yo.data.toList,l,yn.data.toList,[]⟩ s' e w':=by
 obtain⟨h1,g,h2,i⟩:=h;have j:(⟨yo.data.toList.toArray⟩:ByteArray)=yo:=by rw[bM]
 have k:(⟨yn.data.toList.toArray⟩:ByteArray)=yn:=by rw[bM]
 refine⟨none,0,0,?_,g,h2,i,gG.none _ _⟩;rw[h1]
theorem xp{a:Tr->Nat->Lm Unit}(h:lW a t s=some (x,s')):∃p b e c d f g i j k l,h_ s=some (p,b)/\gY b=some (e,c)/\gX {fd with code:=1,dst:=(p:Int)} c=some (d,f)/\a t e f=some (g,i)/\gX {fd with code:=1,dst:=(p:Int),n:=1} i=some (j,k)/\jt e k=some (l,s')/\x=⟨2,0,(p:Int),0,0,0,[],0,[],[]⟩:=by
 unfold lW at h;obtain⟨p,b,h1,h⟩:=d_ h;obtain⟨e,c,h2,h⟩:=d_ h;obtain⟨d,f,m,h⟩:=d_ h;obtain⟨g,i,o,h⟩:=d_ h;obtain⟨j,k,q,h⟩:=d_ h;obtain⟨l,r,u,h⟩:=d_ h;injection h with h;injection h with h7 h8;subst h8;exact⟨p,b,e,c,d,f,g,i,j,k,l,h1,h2,m,o,q,u,h7.symm⟩
theorem EF{a:Tr->Nat->Lm Unit}(c:Ce 215 a)(h:fC R w P d s)(f:ej (Lo (P-1)) w t (ptr b))(g:lW a t s=some (x,s')):
  ∃p:Nat,x=⟨2,0,(p:Int),0,0,0,[],0,[],[]⟩/\aA 253 #[ptr P,ptr b] w (Ml P R d w 2 0 (p:Int) 0 0 0 ⟨#[]⟩ 0 ⟨#[]⟩ s'):=by
 obtain⟨p,i,l,j,k,m,n,o,q,r,u,v,y,z,A,B,C,rfl⟩:=xp g;refine⟨p,rfl,?_⟩;obtain⟨D,E⟩:=aB (w.alloc o9);obtain⟨F,H⟩:=h.al o9;rw[<-E]at F H;obtain⟨I,J,L,M,N⟩:=j5 (qY F v) (λW (K:Below (P-1) w W)=>oO f K) H h E;have O:=E;obtain⟨G,Q⟩:=aB (Ml P R d w 2 0 (p:Int) 0 0 0 ⟨#[]⟩ 0 ⟨#[]⟩ s');have S:=jI Q;rw[<-Q];clear F H Q g E h f;go_enter Tryz.func253,Tryz.ntmps253
 go_wp2_with(go_at_call 213;fail)
 rw[<-O];clear O;refine I.mono ?_;rintro e T ⟨rfl,U,V,Y⟩;have Z:=jI Y;have a:=jI (kg V y);clear V Y
 go_wp2_with(go_at_call 214;fail)
 refine a.mono ?_;rintro e i ⟨rfl,j,k,q⟩;have r:=jI (Z.trans q);have u:=jI (ny 1 (p:Int) 0 0 0 0 ⟨#[]⟩ 0 ⟨#[]⟩ [] none 0 0 k (gG.none _ _) z);clear k q a
 go_wp2_with(go_at_call 70;fail)
 refine u.mono ?_;rintro e D ⟨rfl,R4,v,K⟩;have f:=jI (r.trans K);have g:=jI (c R4 D P d m o t (ptr b) l n v (J D (L.trans f).bel) A);clear v K u
 go_wp2_with(go_at_call 215;fail)
 refine g.mono ?_;rintro e E ⟨rfl,R5,F,H⟩;have I:=jI (f.trans H);have O:=jI (ny 1 (p:Int) 0 0 0 1 ⟨#[]⟩ 0 ⟨#[]⟩ [] none 0 0 F (gG.none _ _) B);clear F H g
 go_wp2_with(go_at_call 70;fail)
 refine O.mono ?_;rintro e Q ⟨rfl,T,U,y⟩;have V:=jI (I.trans y);have Y:=jI (lH U C);clear U y O
 go_wp2_with(go_at_call 216;fail)
 refine Y.mono ?_;rintro e w7 ⟨rfl,i,j,Z⟩;have z:Lw P R i (w.alloc o9) w7:=N.out▸V.trans Z;obtain⟨⟨a,k,q,r,c,d,m,n,o,A⟩,J⟩:=o_ M z;have L:=J 0;have u:=J 1;have D:=J 2;have v:=J 3;have K:=J 4;have E:=J 5;have f:=J 6;have B:=J 7;have g:=J 8;have F:=J 9;obtain⟨H,Q⟩:=EE M j z 2 0 (p:Int) 0 0 0 0 ⟨#[]⟩ ⟨#[]⟩;have T:=jI H;have I:Hid (G _ _):=S.out▸Q;clear j Z z H Q J Y;go_wp2;refine bodyPost_ret (jk Tryz.results253 _ _ w.heap.size _ _ _ _ _ _ _ _ _ _ rfl T) rfl ?_
 exact I
theorem CG{a:By}(h:tj F t a l r s=some (x,s')):((a=[38,38]\/a=[124,124])/\lW F.U t s=some (x,s'))\/(¬(a=[38,38]\/a=[124,124])/\∃p b q,F.V l s=some (p,b)/\F.V r b=some (q,s')/\x=⟨3,0,(p:Int),(q:Int),0,0,a,0,[],[]⟩):=by
 unfold tj at h;split at h
 ·rename_i hc;exact .inl ⟨hc,h⟩
 ·rename_i hc;obtain⟨p,b,h1,h⟩:=d_ h;obtain⟨q,c,h2,h⟩:=d_ h;injection h with h;injection h with h3 h4;subst h4;exact .inr ⟨hc,p,b,q,h1,h2,h3.symm⟩
theorem NY(d:Ad F.V)(f:Ce 215 F.U){j k m:IntKind}(h:fC R w P i s)(o:ej (Lo (P-1)) w (wG j k m c a n nm op l r g) v)(t:tj F (wG j k m c a n nm op l r g) op l r s=some (x,s')):
  ∃(u z A:Int)(B:ByteArray),x=⟨u,0,z,A,0,0,B.data.toList,0,[],[]⟩/\aA 240 #[ptr P,v] w (Ml P R i w u 0 z A 0 0 B 0 ⟨#[]⟩ s'):=by
 have C:=jI o;obtain⟨b,vl,vr,D,E,H,rfl,I,J⟩:=Ds o;obtain⟨K,L⟩:=aB (w.alloc o9);obtain⟨M,N⟩:=h.al o9;rw[<-L]at M N;obtain⟨O,Q,-⟩:=I K N.bel;have S:=O.c4;have T:=O.c5;obtain⟨B,Y⟩:∃y:ByteArray,y=⟨op.toArray⟩:=⟨_,rfl⟩;have Z:B.toList=op:=by rw[Y,Bx]
 have j:B.data.toList=op:=by rw[Y]
 rw[<-Y]at S;have k:Hid (∀W,Below (P-1) w W->NdW W b c a n ⟨nm.toArray⟩ B vl vr D/\ej (Lo (P-1)) W r vr):=λW m=>by rw[Y];exact⟨(I W m).1,(I W m).2.2.1⟩
 obtain⟨u,z,A⟩:=j3 N h L;have E:=L;rcases CG t with⟨H,D⟩|⟨H,p,m,q,D,A0,rfl⟩
 ·obtain⟨p,rfl,A1⟩:=EF f M (oO o N.bel) D;refine⟨2,(p:Int),0,⟨#[]⟩,rfl,?_⟩;have f:=jI A1;obtain⟨G,A2⟩:=aB (Ml P R i w 2 0 (p:Int) 0 0 0 ⟨#[]⟩ 0 ⟨#[]⟩ s');have A3:=jI A2;rw[<-A2];rw[E]at S;have A4:Hid (∀w2 A5,fC A5 w2 P i s'->Lw P R A5 K w2->Zc w.heap.size w2/\Qw w.heap.size w2 (jV 2) (jV 0) (jV (p:Int)) (jV 0) (jV 0) (jV 0) (jT ⟨#[]⟩) (jV 0) (jT ⟨#[]⟩) jS G):=λw2 A5 A6 A7=>by
   have A8:Lw P R A5 (w.alloc o9) w2:=A.out▸A7;obtain⟨A9,B0⟩:=EE z A6 A8 2 0 (p:Int) 0 0 0 0 ⟨#[]⟩ ⟨#[]⟩;exact⟨o_ z A8,A9,by show G _ _;rw[A3.out];exact B0⟩
  clear I o C J M N O Q A2 t h Y j D L A1 T;rcases H with H|H
  ·have B1:(B.toList==[38,38])=true:=by rw[Z,H];rfl
   clear Z H;go_enter Tryz.func240,Tryz.ntmps240
   go_wp2_with(go_at_call 253;fail)
   rw[<-E];clear E S;refine f.mono ?_;rintro e w2 ⟨rfl,A5,B2,B3⟩;obtain⟨⟨⟨B4,B5,B6,B7,B8,B9,C0,C1,C2,C3⟩,C4⟩,C5,C6⟩:=A4 w2 A5 B2 B3;have C7:=C4 0;have C8:=C4 1;have C9:=C4 2;have D0:=C4 3;have D1:=C4 4;have D2:=C4 5;have D3:=C4 6;have D4:=C4 7;have D5:=C4 8;have D6:=C4 9;clear B2 B3 C4;go_wp2;refine bodyPost_ret (jk Tryz.results240 _ _ w.heap.size _ _ _ _ _ _ _ _ _ _ rfl C5) rfl ?_
   exact C6
  ·have B1:(B.toList==[38,38])=false:=by rw[Z,H];rfl
   have D7:(B.toList==[124,124])=true:=by rw[Z,H];rfl
   clear Z H;go_enter Tryz.func240,Tryz.ntmps240
   go_wp2_with(go_at_call 253;fail)
   rw[<-E];clear E S;refine f.mono ?_;rintro e w2 ⟨rfl,A5,B2,B3⟩;obtain⟨⟨⟨B4,B5,B6,B7,B8,B9,C0,C1,C2,C3⟩,C4⟩,C5,C6⟩:=A4 w2 A5 B2 B3;have C7:=C4 0;have C8:=C4 1;have C9:=C4 2;have D0:=C4 3;have D1:=C4 4;have D2:=C4 5;have D3:=C4 6;have D4:=C4 7;have D5:=C4 8;have D6:=C4 9;clear B2 B3 C4;go_wp2;refine bodyPost_ret (jk Tryz.results240 _ _ w.heap.size _ _ _ _ _ _ _ _ _ _ rfl C5) rfl ?_
   exact C6
 ·refine⟨3,(p:Int),(q:Int),B,by rw[j],?_⟩;have B1:(B.toList==[38,38])=false:=by rw[Z];simp;exact λe=>H (.inl e)
  have D7:(B.toList==[124,124])=false:=by rw[Z];simp;exact λe=>H (.inr e)
  have f:=jI (d R K P i s m l vl p M Q D);obtain⟨G,A2⟩:=aB (Ml P R i w 3 0 (p:Int) (q:Int) 0 0 B 0 ⟨#[]⟩ s');have A3:=jI A2;rw[<-A2];rw[E]at S T;clear I o C J M N O Q A2 t h Y j D L Z H;go_enter Tryz.func240,Tryz.ntmps240
  go_wp2_with(go_at_call 163;fail)
  rw[<-E];clear E S T;refine f.mono ?_;rintro e w2 ⟨rfl,A5,B2,B3⟩;obtain⟨o,t⟩:=k w2 (u.trans B3).bel;have S:=o.c4;have C:=o.c6;have I:=jI B3;have J:Hid (aA 163 #[ptr P,vr] w2.drew (lR P A5 i w2.drew (q:Int) s')):=d A5 w2.drew P i m s' r vr q (B2.on (λ_ _=>rfl) (eH _ _)) (oO t (eH _ _)) A0;clear B2 B3 o t
  go_wp2_with fail
  go_region_with(go_at_call 163;refine J.mono ?_;rintro e w3 ⟨rfl,K,L,M⟩;have N:Lw P R K (w.alloc o9) w3:=(A.out▸(I.trans ⟨eH _ _,λ_ _=>rfl,λ_ _ _=>rfl⟩).trans M);have O:=(k.out w3 (u.trans (A.out▸N)).bel).1.c4;obtain⟨⟨B4,B5,B6,B7,B8,B9,C0,C1,C2,C3⟩,C4⟩:=o_ z.out N;have C7:=C4 0;have C8:=C4 1;have C9:=C4 2;have D0:=C4 3;have D1:=C4 4;have D2:=C4 5;have D3:=C4 6;have D4:=C4 7;have D5:=C4 8;have D6:=C4 9;obtain⟨A9,B0⟩:=EE z.out L N 3 0 (p:Int) (q:Int) 0 0 0 B ⟨#[]⟩;have C5:Hid (_=_):=A9;have C6:Hid (G _ _):=A3.out▸B0;clear L M N A9 B0 C4)
  all_goals
   go_wp2;refine bodyPost_ret (jk Tryz.results240 _ _ w.heap.size _ _ _ _ _ _ _ _ _ _ rfl C5) rfl ?_
   exact C6
theorem pI(h:fC R w P e s)(f:fC R' W P e s')(g:Lw P R R' (w.alloc o9) W)(c d a b cc n l:Int)(i j:ByteArray)(args:List Int)(k:jO)(m o:Nat)(p:gG R' W (jL k m o) args){G:Ending->jW->Prop}(q:G=pz P R e w ⟨c,d,a,b,cc,n,i.data.toList,l,j.data.toList,args⟩ s'):
  Zc w.heap.size W/\Qw w.heap.size W (jV c) (jV d) (jV a) (jV b) (jV cc) (jV n) (jT i) (jV l) (jT j) (jL k m o) G:=by
 obtain⟨r,t⟩:=nW h f g c d a b cc n l i j args k m o p;exact⟨o_ h g,r,by show G _ _;rw[q];exact t⟩
theorem wY(h:fC R w P b s)(c a n:Int){G:Ending->jW->Prop}(d:G=pz P R b w ⟨c,0,a,0,0,n,[],0,[],[]⟩ s):
  Hid ((w.alloc (jC #[jV c,jV 0,jV a,jV 0,jV 0,jV n,jT ⟨#[]⟩,jV 0,jT ⟨#[]⟩,jS] 125)).heap[w.heap.size]?=some (jC #[jV c,jV 0,jV a,jV 0,jV 0,jV n,jT ⟨#[]⟩,jV 0,jT ⟨#[]⟩,jS] 125))/\Hid (G (jR (.agg #[jV c,jV 0,jV a,jV 0,jV 0,jV n,jT ⟨#[]⟩,jV 0,jT ⟨#[]⟩,jS])) (w.alloc (jC #[jV c,jV 0,jV a,jV 0,jV 0,jV n,jT ⟨#[]⟩,jV 0,jT ⟨#[]⟩,jS] 125))):=by
 refine⟨heap_alloc_last w _,?_⟩;show G _ _;rw[d];obtain⟨h1,h2⟩:=h.al (jC #[jV c,jV 0,jV a,jV 0,jV 0,jV n,jT ⟨#[]⟩,jV 0,jT ⟨#[]⟩,jS] 125);exact⟨none,0,0,rfl,R,h1,h2,gG.none _ _⟩
theorem Ey{e f i:IntKind}(h:fC R w P d s)(k:ej (Lo (P-1)) w (wG e f i c a n nm j l r g) v)(h2:c≠2)(m:c≠3)(o:c≠4)(p:c≠5)(q:c≠6)(t:c≠7)(u:c≠8)(x:c≠9):
  aA 212 #[ptr P,v] w (pz P R d w ⟨1,0,0,0,0,n,[],0,[],[]⟩ s):=by
 obtain⟨b,vl,vr,y,z,B,rfl,C,D⟩:=Ds k;obtain⟨E,-⟩:=C w (aJ _ _);have F:=E.c0;have H:=E.c2;obtain⟨G,I⟩:=aB (pz P R d w ⟨1,0,0,0,0,n,[],0,[],[]⟩ s);obtain⟨J,K⟩:=wY h 1 0 n I;rw[<-I];have L:((c:Int)==2)=false:=by simpa using h2
 have M:((c:Int)==3)=false:=by simpa using m
 have N:((c:Int)==4)=false:=by simpa using o
 have O:((c:Int)==5)=false:=by simpa using p
 have Q:((c:Int)==6)=false:=by simpa using q
 have S:((c:Int)==7)=false:=by simpa using t
 have T:((c:Int)==8)=false:=by simpa using u
 have U:((c:Int)==9)=false:=by simpa using x
 have V:=eF (A:=jC #[jV 0,jV 0,jV 0,jV 0,jV 0,jV 0,jT ⟨#[]⟩,jV 0,jT ⟨#[]⟩,jS] 125) F;have W:=eF (A:=jC #[jV 0,jV 0,jV 0,jV 0,jV 0,jV 0,jT ⟨#[]⟩,jV 0,jT ⟨#[]⟩,jS] 125) H;clear C k D h I E h2 m o p q t u x;go_enter Tryz.func212,Tryz.ntmps212;go_wp2;refine bodyPost_ret (jk Tryz.results212 _ _ w.heap.size _ _ _ _ _ _ _ _ _ _ rfl J) rfl ?_
 exact K
theorem zn{c:Nat}{d e f:IntKind}{i:By}(h:fC R w P c s)(j:ej (Lo (P-1)) w (wG d e f 9 a n nm i l r g) v):
  aA 212 #[ptr P,v] w (pz P R c w ⟨14,0,0,0,0,0,[],0,[],[]⟩ s):=by
 obtain⟨b,vl,vr,k,m,o,rfl,p,q⟩:=Ds j;obtain⟨t,-⟩:=p w (aJ _ _);have u:=t.c0;obtain⟨G,x⟩:=aB (pz P R c w ⟨14,0,0,0,0,0,[],0,[],[]⟩ s);obtain⟨y,z⟩:=wY h 14 0 0 x;rw[<-x];have B:=eF (A:=jC #[jV 0,jV 0,jV 0,jV 0,jV 0,jV 0,jT ⟨#[]⟩,jV 0,jT ⟨#[]⟩,jS] 125) u;clear p j q h x t;go_enter Tryz.func212,Tryz.ntmps212;go_wp2;refine bodyPost_ret (jk Tryz.results212 _ _ w.heap.size _ _ _ _ _ _ _ _ _ _ rfl y) rfl ?_
 exact z
theorem mr(W:jW)(b:Nat):W.drew.heap[b]?=W.heap[b]?:=rfl
theorem pz.drew{a:Nat}{e:Ending}(h:pz P R a w x s' e W):pz P R a w x s' e W.drew:=by
 obtain⟨b,c,d,h1,f,h2,g,i⟩:=h;have hd:Lw P f f W W.drew:=⟨eH _ _,λ_ _=>rfl,λ_ _ _=>rfl⟩;exact⟨b,c,d,h1,f,h2.on (λ_ _=>rfl) (eH _ _),g.trans hd,i.kept hd⟩
theorem CD{c:Nat}{d e f:IntKind}{k:By}(h:fC R w P c s)(m:ej (Lo (P-1)) w (wG d e f 2 a n nm k l r g) v)(o:nm.length<=1000):
  aA 212 #[ptr P,v] w (pz P R c w ⟨2,0,(nG s.nm nm:Int),0,0,0,[],0,[],[]⟩ s):=by
 obtain⟨b,vl,vr,p,q,t,rfl,u,x⟩:=Ds m;obtain⟨z,A⟩:=h.al o9;obtain⟨G,B⟩:=aB (pz P R c w ⟨2,0,(nG s.nm nm:Int),0,0,0,[],0,[],[]⟩ s);obtain⟨C,-⟩:=u (w.alloc o9) A.bel;obtain⟨y,D⟩:∃y:ByteArray,y=⟨nm.toArray⟩:=⟨_,rfl⟩;obtain⟨j,E⟩:=aB (nG s.nm nm);have F:=C.c0;have H:(w.alloc (jC #[jV 0,jV 0,jV 0,jV 0,jV 0,jV 0,jT ⟨#[]⟩,jV 0,jT ⟨#[]⟩,jS] 125)).cell? (jB b 3)=some (jT y):=by rw[D];exact C.c3
 obtain⟨I,J,K,L,M⟩:=z;have N:(Instr.lookup 92 (.map (some c)) (jT y) false).run Tryz.prog (w.alloc (jC #[jV 0,jV 0,jV 0,jV 0,jV 0,jV 0,jT ⟨#[]⟩,jV 0,jT ⟨#[]⟩,jS] 125)).drew= .ok (jV (j:Int)) (w.alloc (jC #[jV 0,jV 0,jV 0,jV 0,jV 0,jV 0,jT ⟨#[]⟩,jV 0,jT ⟨#[]⟩,jS] 125)).drew:=by
  rw[D,E];exact M.name nm (by omega) _ rfl
 have O:(w.alloc (jC #[jV 0,jV 0,jV 0,jV 0,jV 0,jV 0,jT ⟨#[]⟩,jV 0,jT ⟨#[]⟩,jS] 125)).cell? (jB P 2)=some (.map (some c)):=jc 2 M.blk;obtain⟨Q,S⟩:=aB (w.alloc (jC #[jV 0,jV 0,jV 0,jV 0,jV 0,jV 0,jT ⟨#[]⟩,jV 0,jT ⟨#[]⟩,jS] 125));have T:Hid (Zc w.heap.size Q/\Hid ((nk Q w.heap.size (jV 2) (jV 0) (jV (j:Int)) (jV 0) (jV 0) (jV 0) (jT ⟨#[]⟩) (jV 0) (jT ⟨#[]⟩) jS).drew.heap[w.heap.size]?=some (jC #[jV 2,jV 0,jV (j:Int),jV 0,jV 0,jV 0,jT ⟨#[]⟩,jV 0,jT ⟨#[]⟩,jS] 125))/\Hid (G (jR (.agg #[jV 2,jV 0,jV (j:Int),jV 0,jV 0,jV 0,jT ⟨#[]⟩,jV 0,jT ⟨#[]⟩,jS])) (nk Q w.heap.size (jV 2) (jV 0) (jV (j:Int)) (jV 0) (jV 0) (jV 0) (jT ⟨#[]⟩) (jV 0) (jT ⟨#[]⟩) jS).drew)):=by
  show _/\_;rw[S];obtain⟨U,V⟩:=nW (W:=w.alloc o9) h (h.al o9).1 (Lw.refl P R _) 2 0 (j:Int) 0 0 0 0 ⟨#[]⟩ ⟨#[]⟩ [] none 0 0 (gG.none _ _);refine⟨o_ h (Lw.refl _ _ _),(mr _ _).trans U,?_⟩;show G _ _;rw[B,<-E];exact pz.drew V
 rw[<-B];rw[<-S]at F H N O;have Y:=jI S;clear u m x h B C M A D o E;go_enter Tryz.func212,Tryz.ntmps212
 go_upto_region 1 with fail
 rw[<-S];clear S;obtain⟨⟨⟨Z,d,e,f,k,p,q,t,I,J⟩,K⟩,L,z⟩:=T.out;have c:=K 0;have Q:=K 1;have F:=K 2;have H:=K 3;have N:=K 4;have O:=K 5;have U:=K 6;have V:=K 7;have m:=K 8;have o:=K 9;clear K T Y
 go_wp2_with fail
 go_region
 all_goals
  go_wp2;refine bodyPost_ret (jk Tryz.results212 _ _ w.heap.size _ _ _ _ _ _ _ _ _ _ rfl L) rfl ?_
  exact z
def Uu(b P:Nat)(a c:Nat)(W:jW)(G:Ending->jW->Prop):Prop:=
 ((W.cell? (jA b)=some (jV 0)/\W.cell? (jB b 1)=some (jV (a:Int))/\W.cell? (jB b 2)=some (jV (c:Int)))/\(∃d e f,W.cell? (jB P 6)=some d/\W.cell? (jB P 7)=some e/\W.cell? (jB P 8)=some f)/\W.frozen? (jB P 6)=false/\W.frozen? (jB P 7)=false/\W.frozen? (jB P 8)=false)/\Hid (G (jR (.tuple #[])) (((W.setCell (jB P 6) (jV 0)).setCell (jB P 7) (jV (a:Int))).setCell (jB P 8) (jV (c:Int))))
theorem Hx{a:Nat->Nat}{c:Wr}(h:fC R w P b s)(h1:u1<=100001)(h2:u2<=100001)(d:fC a W P b c)(e:Lw P R a (w.alloc (jC #[jV 0,jV (u1:Int),jV (u2:Int)] 157)) W)(f:s'={c with u1:=u1,u2:=u2}){G:Ending->jW->Prop}(g:G=kR P R b w s'):Uu w.heap.size P u1 u2 W G:=by
 obtain⟨j,k,l,m⟩:=mJ h (Lw.refl P R w) #[jV 0,jV (u1:Int),jV (u2:Int)] 157;obtain⟨n,o⟩:=e.box l m;obtain⟨p,q⟩:=rU d (k.trans e) h1 h2;obtain⟨_,_,_,_,r⟩:=d;refine⟨⟨⟨jc 0 n,jc 1 n,jc 2 n⟩,⟨_,_,_,jc 6 r.blk,jc 7 r.blk,jc 8 r.blk⟩,ea r.blk 6,ea r.blk 7,ea r.blk 8⟩,?_⟩;show G _ _;rw[g,f];exact⟨rfl,a,p,q⟩
theorem Hy{a:Nat->Nat}{c:Wr}(h:fC R w P b s)(h1:u1<=100001)(h2:u2<=100001)(d:fC a W P b c)(e:Lw P R a (w.alloc (jC #[jV 0,jV (u1:Int),jV (u2:Int)] 157)) W):((W.cell? (jA w.heap.size)=some (jV 0)/\W.cell? (jB w.heap.size 1)=some (jV (u1:Int))/\W.cell? (jB w.heap.size 2)=some (jV (u2:Int)))/\(∃f g j,W.cell? (jB P 6)=some f/\W.cell? (jB P 7)=some g/\W.cell? (jB P 8)=some j)/\W.frozen? (jB P 6)=false/\W.frozen? (jB P 7)=false/\W.frozen? (jB P 8)=false)/\fC a (((W.setCell (jB P 6) (jV 0)).setCell (jB P 7) (jV (u1:Int))).setCell (jB P 8) (jV (u2:Int))) P b {c with u1:=u1,u2:=u2}/\Lw P a a W (((W.setCell (jB P 6) (jV 0)).setCell (jB P 7) (jV (u1:Int))).setCell (jB P 8) (jV (u2:Int))):=by
 obtain⟨k,l,m,n⟩:=mJ h (Lw.refl P R w) #[jV 0,jV (u1:Int),jV (u2:Int)] 157;obtain⟨o,p⟩:=e.box m n;obtain⟨q,r⟩:=rU d (Lw.refl P a W) h1 h2;obtain⟨_,_,_,_,t⟩:=d;exact⟨⟨⟨jc 0 o,jc 1 o,jc 2 o⟩,⟨_,_,_,jc 6 t.blk,jc 7 t.blk,jc 8 t.blk⟩,ea t.blk 6,ea t.blk 7,ea t.blk 8⟩,q,r⟩
theorem DA{D:Unit}(h:tq F t e s=some (D,s')):∃(q o w:IntKind)(c a n:Int)(nm b:By)(l r g:Tr)(i:Wr),t=wG q o w c a n nm b l r g/\s'={i with u1:=s.u1,u2:=s.u2}/\
  ((c=4/\b=[33]/\∃u,F.W l e s=some (u,i))\/
   (c=3/\b=[38,38]/\∃u f v,F.U l e s=some (u,f)/\F.U r e f=some (v,i))\/
   (c=3/\b=[124,124]/\∃k f u d v C x,gY s=some (k,f)/\F.W l k f=some (u,d)/\F.U r e d=some (v,C)/\jt k C=some (x,i))\/
   (¬(c=4/\b=[33])/\¬(c=3/\b=[38,38])/\¬(c=3/\b=[124,124])/\∃p f u,F.V (wG q o w c a n nm b l r g) s=some (p,f)/\gX {fd with code:=5,a:=(p:Int),label:=(e:Int)} f=some (u,i))):=by
 unfold tq at h;split at h
 ·rename_i q c o a w n nm b l r g;obtain⟨u,i,h1,h2⟩:=d_ h;injection h2 with h2;injection h2 with _ h2;refine⟨q,o,w,c,a,n,nm,b,l,r,g,i,rfl,h2.symm,?_⟩;split at h1
  ·rename_i hc;exact .inl ⟨hc.1,hc.2,u,h1⟩
  ·rename_i z;split at h1
   ·rename_i hc;obtain⟨x,d,j,m⟩:=d_ h1;exact .inr (.inl ⟨hc.1,hc.2,x,d,u,j,m⟩)
   ·rename_i A;split at h1
    ·rename_i hc;obtain⟨k,d,j,m⟩:=d_ h1;obtain⟨x,I,G,J⟩:=d_ m;obtain⟨y,K,H,E⟩:=d_ J;exact .inr (.inr (.inl ⟨hc.1,hc.2,k,d,x,I,y,K,u,j,G,H,E⟩))
    ·rename_i B;obtain⟨p,d,j,m⟩:=d_ h1;exact .inr (.inr (.inr ⟨z,A,B,p,d,u,j,m⟩))
 ·cases h
theorem DB{S:Unit}(h:tu F t e s=some (S,s')):∃(B A D:IntKind)(c a n:Int)(nm op:By)(l r g:Tr)(j:Wr),t=wG B A D c a n nm op l r g/\s'={j with u1:=s.u1,u2:=s.u2}/\
  ((c=4/\op=[33]/\∃u,F.U l e s=some (u,j))\/
   (c=3/\op=[124,124]/\∃u f v,F.W l e s=some (u,f)/\F.W r e f=some (v,j))\/
   (c=3/\op=[38,38]/\∃o f u d v k x,gY s=some (o,f)/\F.U l o f=some (u,d)/\F.W r e d=some (v,k)/\jt o k=some (x,j))\/
   (¬(c=4/\op=[33])/\¬(c=3/\op=[124,124])/\¬(c=3/\op=[38,38])/\∃p f q d z k u C v,F.V (wG B A D c a n nm op l r g) s=some (p,f)/\h_ {f with u1:=s.u1,u2:=s.u2}=some (q,d)/\kO d=some (z,k)/\gX {fd with code:=3,op:=[61,61],dst:=(q:Int),a:=(p:Int),b:=(z:Int)} k=some (u,C)/\gX {fd with code:=5,a:=(q:Int),label:=(e:Int)} C=some (v,j))):=by
 unfold tu at h;split at h
 ·rename_i B c A a D n nm op l r g;obtain⟨u,j,h1,h2⟩:=d_ h;injection h2 with h2;injection h2 with _ h2;refine⟨B,A,D,c,a,n,nm,op,l,r,g,j,rfl,h2.symm,?_⟩;split at h1
  ·rename_i hc;exact .inl ⟨hc.1,hc.2,u,h1⟩
  ·rename_i E;split at h1
   ·rename_i hc;obtain⟨x,d,m,w⟩:=d_ h1;exact .inr (.inl ⟨hc.1,hc.2,x,d,u,m,w⟩)
   ·rename_i I;split at h1
    ·rename_i hc;obtain⟨o,d,m,w⟩:=d_ h1;obtain⟨x,C,i,M⟩:=d_ w;obtain⟨y,N,K,G⟩:=d_ M;exact .inr (.inr (.inl ⟨hc.1,hc.2,o,d,x,C,y,N,u,m,i,K,G⟩))
    ·rename_i L;obtain⟨p,d,m,w⟩:=d_ h1;obtain⟨x,k,i,M⟩:=d_ w;injection i with i;injection i with _ i;subst i;obtain⟨q,P,K,G⟩:=d_ M;obtain⟨z,N,Q,J⟩:=d_ G;obtain⟨y,T,H,O⟩:=d_ J;exact .inr (.inr (.inr ⟨E,I,L,p,d,q,P,z,N,y,T,u,m,K,Q,H,O⟩))
 ·cases h
theorem Qd(d:Ad F.V)(f:Ce 215 F.U)(j:Ce 242 F.W):Ce 215 (tq F):=by
 intro R w P k s s' t v e m h o q;obtain⟨z,A,B,c,a,n,nm,op,l,r,g,C,rfl,D,E⟩:=DA q;have H:=jI (λW (j:Below (P-1) w W)=>oO o j);obtain⟨b,vl,vr,I,J,K,rfl,L,M⟩:=Ds o;obtain⟨N,O⟩:∃y:ByteArray,y=⟨op.toArray⟩:=⟨_,rfl⟩;have Q:N.toList=op:=by rw[O,Bx]
 have S:Hid (∀W,Below (P-1) w W->W.cell? (jA b)=some (jV c)/\W.cell? (jB b 4)=some (jT N)/\W.cell? (jB b 5)=some vl/\W.cell? (jB b 6)=some vr):=λW j=>⟨(L W j).1.c0,by rw[O];exact(L W j).1.c4,(L W j).1.c5,(L W j).1.c6⟩;have T:=jI (λW (j:Below (P-1) w W)=>(L W j).2.1);have Y:=jI (λW (j:Below (P-1) w W)=>(L W j).2.2.1);obtain⟨G,Z⟩:=aB (kR P R k w s');obtain⟨u1,m⟩:=aB s.u1;obtain⟨u2,z⟩:=aB s.u2;rw[<-m,<-z]at D;obtain⟨A,B⟩:=h.al (jC #[jV 0,jV (u1:Int),jV (u2:Int)] 157);obtain⟨I,J⟩:=aB (w.alloc (jC #[jV 0,jV (u1:Int),jV (u2:Int)] 157));have K:Hid (∀A0 A1,fC A0 A1 P k C->Lw P R A0 I A1->Uu w.heap.size P u1 u2 A1 G):=λA0 A1 A2 A3=>Hx h (by rw[m];obtain⟨_,_,_,_,A4⟩:=h;exact A4.ok.u1) (by rw[z];obtain⟨_,_,_,_,A4⟩:=h;exact A4.ok.u2) A2 (J▸A3) D Z;have A5:Hid (∀A0 A1 A6,fC A0 A1 P k A6->Lw P R A0 I A1->((A1.cell? (jA w.heap.size)=some (jV 0)/\A1.cell? (jB w.heap.size 1)=some (jV (u1:Int))/\A1.cell? (jB w.heap.size 2)=some (jV (u2:Int)))/\(∃A7 A8 A9,A1.cell? (jB P 6)=some A7/\A1.cell? (jB P 7)=some A8/\A1.cell? (jB P 8)=some A9)/\A1.frozen? (jB P 6)=false/\A1.frozen? (jB P 7)=false/\A1.frozen? (jB P 8)=false)/\fC A0 (((A1.setCell (jB P 6) (jV 0)).setCell (jB P 7) (jV (u1:Int))).setCell (jB P 8) (jV (u2:Int))) P k {A6 with u1:=s.u1,u2:=s.u2}/\Lw P A0 A0 A1 (((A1.setCell (jB P 6) (jV 0)).setCell (jB P 7) (jV (u1:Int))).setCell (jB P 8) (jV (u2:Int)))):=λA0 A1 A6 A2 A3=>by rw[<-m,<-z];exact Hy h (by rw[m];obtain⟨_,_,_,_,A4⟩:=h;exact A4.ok.u1) (by rw[z];obtain⟨_,_,_,_,A4⟩:=h;exact A4.ok.u2) A2 (J▸A3)
 rw[<-J]at A B;have B0:=jI A;have B1:=jI B;obtain⟨B2,B3,B4⟩:w.cell? ⟨P,6,none⟩=some (.int .i64 0)/\w.cell? ⟨P,7,none⟩=some (.int .i64 (u1:Int))/\w.cell? ⟨P,8,none⟩=some (.int .i64 (u2:Int)):=by
  obtain⟨_,_,_,_,A4⟩:=h;rw[m,z];exact⟨jc 6 A4.blk,jc 7 A4.blk,jc 8 A4.blk⟩
 obtain⟨B5,B6,B7,B8⟩:=S I B1.bel;rw[J]at B5 B6 B7 B8;rw[<-Z];have B9:=jI B;have C0:Hid (Lw P R R I I):=Lw.refl _ _ _;clear o L M Z q h A B O D B1 m z;rcases E with⟨rfl,o,u,q⟩|⟨rfl,o,u,D,v,q,E⟩|⟨rfl,o,L,D,u,M,v,O,x,q,E,Z,m⟩|⟨h1,h2,z,p,D,u,q,E⟩
 ·have A:(N.toList==[33])=true:=by rw[Q,o];rfl
  clear Q o;go_enter Tryz.func215,Tryz.ntmps215;have B:=jI (j R I P k s C l vl e u B0 (T I ((B9.trans C0).bel)) q)
  go_wp2_with(go_at_call 242;fail)
  rw[<-J];clear J B5 B6 B7 B8 B2 B3 B4;refine B.mono ?_;rintro e A1 ⟨rfl,A0,C1,C2⟩;have C3:=jI C1;have C4:=jI (C0.trans C2);clear C1 C2 B;obtain⟨⟨⟨C5,C6,C7⟩,⟨A7,A8,A9,C8,C9,D0⟩,D1,D2,D3⟩,D4⟩:=K A0 A1 C3 C4;obtain⟨B5,B6,B7,B8⟩:=S A1 (B9.trans C4).bel;clear K;go_wp2;go_end0;exact D4
 ·have A:(N.toList==[38,38])=true:=by rw[Q,o];rfl
  clear Q o;go_enter Tryz.func215,Tryz.ntmps215;have B:=jI (f R I P k s D l vl e u B0 (T I ((B9.trans C0).bel)) q)
  go_wp2_with(go_at_call 215;fail)
  rw[<-J];clear J B5 B6 B7 B8 B2 B3 B4;refine B.mono ?_;rintro e A1 ⟨rfl,A0,C1,C2⟩;have C3:=jI C1;have C4:=jI (C0.trans C2);clear C1 C2 B;have D5:=jI (f A0 A1 P k D C r vr e v C3 (Y A1 ((B9.trans C4).bel)) E);obtain⟨B5,B6,B7,B8⟩:=S A1 (B9.trans C4).bel
  go_wp2_with(go_at_call 215;fail)
  clear B5 B6 B7 B8;refine D5.mono ?_;rintro e C ⟨rfl,D6,D7,D8⟩;have D9:=jI D7;have E0:=jI (C4.trans D8);clear D7 D8 D5;obtain⟨⟨⟨C5,C6,C7⟩,⟨A7,A8,A9,C8,C9,D0⟩,D1,D2,D3⟩,D4⟩:=K D6 C D9 E0;obtain⟨B5,B6,B7,B8⟩:=S C (B9.trans E0).bel;clear K;go_wp2;go_end0;exact D4
 ·have A:(N.toList==[38,38])=false:=by rw[Q,o];rfl
  have E1:(N.toList==[124,124])=true:=by rw[Q,o];rfl
  clear Q o;go_enter Tryz.func215,Tryz.ntmps215;have B:=jI (kg B0 q)
  go_wp2_with(go_at_call 214;fail)
  rw[<-J];clear J B5 B6 B7 B8 B2 B3 B4;refine B.mono ?_;rintro e A1 ⟨rfl,A0,C1,C2⟩;have C3:=jI C1;have C4:=jI (C0.trans C2);clear C1 C2 B;have D5:=jI (j A0 A1 P k D M l vl L u C3 (T A1 ((B9.trans C4).bel)) E);obtain⟨B5,B6,B7,B8⟩:=S A1 (B9.trans C4).bel
  go_wp2_with(go_at_call 242;fail)
  clear B5 B6 B7 B8;refine D5.mono ?_;rintro e C ⟨rfl,D6,D7,D8⟩;have D9:=jI D7;have E0:=jI (C4.trans D8);clear D7 D8 D5;have j:=jI (f D6 C P k M O r vr e v D9 (Y C ((B9.trans E0).bel)) Z);obtain⟨B5,B6,B7,B8⟩:=S C (B9.trans E0).bel
  go_wp2_with(go_at_call 215;fail)
  clear B5 B6 B7 B8;refine j.mono ?_;rintro e T ⟨rfl,R4,o,L⟩;have f:=jI o;have Y:=jI (E0.trans L);clear o L j;have M:=jI (lH f m);obtain⟨B5,B6,B7,B8⟩:=S T (B9.trans Y).bel
  go_wp2_with(go_at_call 216;fail)
  clear B5 B6 B7 B8;refine M.mono ?_;rintro e O ⟨rfl,R5,Z,j⟩;have o:=jI Z;have L:=jI (Y.trans j);clear Z j M;obtain⟨⟨⟨C5,C6,C7⟩,⟨A7,A8,A9,C8,C9,D0⟩,D1,D2,D3⟩,D4⟩:=K R5 O o L;obtain⟨B5,B6,B7,B8⟩:=S O (B9.trans L).bel;clear K;go_wp2;go_end0;exact D4
 ·by_cases m:c=4
  rotate_left;have T:((c:Int)==4)=false:=by simpa using m
  by_cases f:c=3;have A:(N.toList==[38,38])=false:=by rw[Q];simp;exact λe=>h2 ⟨f,e⟩
  have E1:(N.toList==[124,124])=false:=by rw[Q];simp;exact λe=>z ⟨f,e⟩
  clear Q h1 h2 z m T;subst f
  rotate_left;have Y:((c:Int)==3)=false:=by simpa using f
  clear Q h1 h2 z m f
  rotate_left;have A:(N.toList==[33])=false:=by rw[Q];simp;exact λe=>h1 ⟨m,e⟩
  clear Q h1 h2 z;subst m
  all_goals
   go_enter Tryz.func215,Tryz.ntmps215;have B:=jI (d R I P k s D _ (ptr b) p B0 (H I ((B9.trans C0).bel)) q)
   go_wp2_with(go_at_call 163;fail)
   rw[<-J];clear J B5 B6 B7 B8 B2 B3 B4;refine B.mono ?_;rintro e A1 ⟨rfl,A0,C1,C2⟩;have C3:=jI C1;have C4:=jI (C0.trans C2);clear C1 C2 B;have D5:=jI (ny 5 0 (p:Int) 0 0 0 ⟨#[]⟩ (e:Int) ⟨#[]⟩ [] none 0 0 C3 (gG.none _ _) E);obtain⟨B5,B6,B7,B8⟩:=S A1 (B9.trans C4).bel
   go_wp2_with(go_at_call 70;fail)
   clear B5 B6 B7 B8;refine D5.mono ?_;rintro e C ⟨rfl,D6,D7,D8⟩;have D9:=jI D7;have E0:=jI (C4.trans D8);clear D7 D8 D5;obtain⟨⟨⟨C5,C6,C7⟩,⟨A7,A8,A9,C8,C9,D0⟩,D1,D2,D3⟩,D4⟩:=K D6 C D9 E0;obtain⟨B5,B6,B7,B8⟩:=S C (B9.trans E0).bel;clear K;go_wp2;go_end0;exact D4
theorem Qe(d:Ad F.V)(f:Ce 215 F.U)(j:Ce 242 F.W):Ce 242 (tu F):=by
 intro R w P k s s' t v e m h o A;obtain⟨B,C,D,c,a,n,nm,op,l,r,g,E,rfl,H,I⟩:=DB A;have J:=jI (λW (j:Below (P-1) w W)=>oO o j);obtain⟨b,vl,vr,K,L,M,rfl,N,O⟩:=Ds o;obtain⟨Q,S⟩:∃y:ByteArray,y=⟨op.toArray⟩:=⟨_,rfl⟩;have T:Q.toList=op:=by rw[S,Bx]
 have Y:Hid (∀W,Below (P-1) w W->W.cell? (jA b)=some (jV c)/\W.cell? (jB b 4)=some (jT Q)/\W.cell? (jB b 5)=some vl/\W.cell? (jB b 6)=some vr):=λW j=>⟨(N W j).1.c0,by rw[S];exact(N W j).1.c4,(N W j).1.c5,(N W j).1.c6⟩;have Z:=jI (λW (j:Below (P-1) w W)=>(N W j).2.1);have m:=jI (λW (j:Below (P-1) w W)=>(N W j).2.2.1);obtain⟨G,B⟩:=aB (kR P R k w s');obtain⟨u1,C⟩:=aB s.u1;obtain⟨u2,D⟩:=aB s.u2;rw[<-C,<-D]at H;obtain⟨K,L⟩:=h.al (jC #[jV 0,jV (u1:Int),jV (u2:Int)] 157);obtain⟨M,A0⟩:=aB (w.alloc (jC #[jV 0,jV (u1:Int),jV (u2:Int)] 157));have A1:Hid (∀A2 A3,fC A2 A3 P k E->Lw P R A2 M A3->Uu w.heap.size P u1 u2 A3 G):=λA2 A3 A4 A5=>Hx h (by rw[C];obtain⟨_,_,_,_,A6⟩:=h;exact A6.ok.u1) (by rw[D];obtain⟨_,_,_,_,A6⟩:=h;exact A6.ok.u2) A4 (A0▸A5) H B;have A7:Hid (∀A2 A3 A8,fC A2 A3 P k A8->Lw P R A2 M A3->((A3.cell? (jA w.heap.size)=some (jV 0)/\A3.cell? (jB w.heap.size 1)=some (jV (u1:Int))/\A3.cell? (jB w.heap.size 2)=some (jV (u2:Int)))/\(∃A9 B0 B1,A3.cell? (jB P 6)=some A9/\A3.cell? (jB P 7)=some B0/\A3.cell? (jB P 8)=some B1)/\A3.frozen? (jB P 6)=false/\A3.frozen? (jB P 7)=false/\A3.frozen? (jB P 8)=false)/\fC A2 (((A3.setCell (jB P 6) (jV 0)).setCell (jB P 7) (jV (u1:Int))).setCell (jB P 8) (jV (u2:Int))) P k {A8 with u1:=s.u1,u2:=s.u2}/\Lw P A2 A2 A3 (((A3.setCell (jB P 6) (jV 0)).setCell (jB P 7) (jV (u1:Int))).setCell (jB P 8) (jV (u2:Int)))):=λA2 A3 A8 A4 A5=>by rw[<-C,<-D];exact Hy h (by rw[C];obtain⟨_,_,_,_,A6⟩:=h;exact A6.ok.u1) (by rw[D];obtain⟨_,_,_,_,A6⟩:=h;exact A6.ok.u2) A4 (A0▸A5)
 rw[<-A0]at K L;have B2:=jI K;have B3:=jI L;obtain⟨B4,B5,B6⟩:w.cell? ⟨P,6,none⟩=some (.int .i64 0)/\w.cell? ⟨P,7,none⟩=some (.int .i64 (u1:Int))/\w.cell? ⟨P,8,none⟩=some (.int .i64 (u2:Int)):=by
  obtain⟨_,_,_,_,A6⟩:=h;rw[C,D];exact⟨jc 6 A6.blk,jc 7 A6.blk,jc 8 A6.blk⟩
 obtain⟨B7,B8,B9,C0⟩:=Y M B3.bel;rw[A0]at B7 B8 B9 C0;rw[<-B];have C1:=jI L;have C2:Hid (Lw P R R M M):=Lw.refl _ _ _;clear o N O B A h K L S H B3 C D;rcases I with⟨rfl,o,u,A⟩|⟨rfl,o,u,H,v,A,I⟩|⟨rfl,o,N,H,u,O,v,S,x,A,I,B,C⟩|⟨h1,h2,D,p,H,q,O,z,S,u,K,v,A,I,B,C,L⟩
 ·have K:(Q.toList==[33])=true:=by rw[T,o];rfl
  clear T o;go_enter Tryz.func242,Tryz.ntmps242;have C3:=jI (f R M P k s E l vl e u B2 (Z M ((C1.trans C2).bel)) A)
  go_wp2_with(go_at_call 215;fail)
  rw[<-A0];clear A0 B7 B8 B9 C0 B4 B5 B6;refine C3.mono ?_;rintro e A3 ⟨rfl,A2,C4,C5⟩;have C6:=jI C4;have C7:=jI (C2.trans C5);clear C4 C5 C3;obtain⟨⟨⟨C8,C9,D0⟩,⟨A9,B0,B1,D1,D2,D3⟩,D4,D5,D6⟩,D7⟩:=A1 A2 A3 C6 C7;obtain⟨B7,B8,B9,C0⟩:=Y A3 (C1.trans C7).bel;clear A1;go_wp2;go_end0;exact D7
 ·have K:(Q.toList==[124,124])=true:=by rw[T,o];rfl
  clear T o;go_enter Tryz.func242,Tryz.ntmps242;have C3:=jI (j R M P k s H l vl e u B2 (Z M ((C1.trans C2).bel)) A)
  go_wp2_with(go_at_call 242;fail)
  rw[<-A0];clear A0 B7 B8 B9 C0 B4 B5 B6;refine C3.mono ?_;rintro e A3 ⟨rfl,A2,C4,C5⟩;have C6:=jI C4;have C7:=jI (C2.trans C5);clear C4 C5 C3;have D8:=jI (j A2 A3 P k H E r vr e v C6 (m A3 ((C1.trans C7).bel)) I);obtain⟨B7,B8,B9,C0⟩:=Y A3 (C1.trans C7).bel
  go_wp2_with(go_at_call 242;fail)
  clear B7 B8 B9 C0;refine D8.mono ?_;rintro e E ⟨rfl,D9,E0,E1⟩;have E2:=jI E0;have E3:=jI (C7.trans E1);clear E0 E1 D8;obtain⟨⟨⟨C8,C9,D0⟩,⟨A9,B0,B1,D1,D2,D3⟩,D4,D5,D6⟩,D7⟩:=A1 D9 E E2 E3;obtain⟨B7,B8,B9,C0⟩:=Y E (C1.trans E3).bel;clear A1;go_wp2;go_end0;exact D7
 ·have K:(Q.toList==[124,124])=false:=by rw[T,o];rfl
  have E4:(Q.toList==[38,38])=true:=by rw[T,o];rfl
  clear T o;go_enter Tryz.func242,Tryz.ntmps242;have C3:=jI (kg B2 A)
  go_wp2_with(go_at_call 214;fail)
  rw[<-A0];clear A0 B7 B8 B9 C0 B4 B5 B6;refine C3.mono ?_;rintro e A3 ⟨rfl,A2,C4,C5⟩;have C6:=jI C4;have C7:=jI (C2.trans C5);clear C4 C5 C3;have D8:=jI (f A2 A3 P k H O l vl N u C6 (Z A3 ((C1.trans C7).bel)) I);obtain⟨B7,B8,B9,C0⟩:=Y A3 (C1.trans C7).bel
  go_wp2_with(go_at_call 215;fail)
  clear B7 B8 B9 C0;refine D8.mono ?_;rintro e E ⟨rfl,D9,E0,E1⟩;have E2:=jI E0;have E3:=jI (C7.trans E1);clear E0 E1 D8;have f:=jI (j D9 E P k O S r vr e v E2 (m E ((C1.trans E3).bel)) B);obtain⟨B7,B8,B9,C0⟩:=Y E (C1.trans E3).bel
  go_wp2_with(go_at_call 242;fail)
  clear B7 B8 B9 C0;refine f.mono ?_;rintro e Z ⟨rfl,R4,o,N⟩;have j:=jI o;have m:=jI (E3.trans N);clear o N f;have O:=jI (lH j C);obtain⟨B7,B8,B9,C0⟩:=Y Z (C1.trans m).bel
  go_wp2_with(go_at_call 216;fail)
  clear B7 B8 B9 C0;refine O.mono ?_;rintro e S ⟨rfl,R5,E,j⟩;have E5:=jI E;have E6:=jI (m.trans j);clear E j O;obtain⟨⟨⟨C8,C9,D0⟩,⟨A9,B0,B1,D1,D2,D3⟩,D4,D5,D6⟩,D7⟩:=A1 R5 S E5 E6;obtain⟨B7,B8,B9,C0⟩:=Y S (C1.trans E6).bel;clear A1;go_wp2;go_end0;exact D7
 ·by_cases Y:c=4
  rotate_left;have E7:((c:Int)==4)=false:=by simpa using Y
  by_cases E8:c=3;have K:(Q.toList==[124,124])=false:=by rw[T];simp;exact λe=>h2 ⟨E8,e⟩
  have E4:(Q.toList==[38,38])=false:=by rw[T];simp;exact λe=>D ⟨E8,e⟩
  clear T h1 h2 D Y E7;subst E8
  rotate_left;have E9:((c:Int)==3)=false:=by simpa using E8
  clear T h1 h2 D Y E8
  rotate_left;have K:(Q.toList==[33])=false:=by rw[T];simp;exact λe=>h1 ⟨Y,e⟩
  clear T h1 h2 D;subst Y
  all_goals
   go_enter Tryz.func242,Tryz.ntmps242;have C3:=jI (d R M P k s H _ (ptr b) p B2 (J M (C1.trans C2).bel) A)
   go_wp2_with(go_at_call 163;fail)
   rw[<-A0];clear A0 B7 B8 B9 C0 B4 B5 B6;refine C3.mono ?_;rintro d A3 ⟨rfl,A2,C4,C5⟩;obtain⟨⟨⟨C8,C9,D0⟩,⟨A9,B0,B1,D1,D2,D3⟩,D4,D5,D6⟩,E0,E1⟩:=A7 A2 A3 H C4 C5;obtain⟨k,J⟩:=aB (((A3.setCell (jB P 6) (jV 0)).setCell (jB P 7) (jV (u1:Int))).setCell (jB P 8) (jV (u2:Int)));rw[<-J]at E0 E1;have E3:=jI (Lw.trans C5 E1);have D8:=jI (qY E0 I);clear C4 C5 E0 E1 C3 A7
   go_wp2_with(go_at_call 213;fail)
   rw[<-J];clear J C8 C9 D0 D1 D2 D3 D4 D5 D6;clear A9 B0 B1;refine D8.mono ?_;rintro d Z ⟨rfl,R4,o,N⟩;have m:=jI (E3.trans N);have f:=jI (nU o B);clear o N D8
   go_wp2_with(go_at_call 71;fail)
   refine f.mono ?_;rintro d S ⟨rfl,R5,E,j⟩;have E6:=jI (m.trans j);have O:=jI (ny 3 (q:Int) (p:Int) (z:Int) 0 0 ⟨#[61,61]⟩ 0 ⟨#[]⟩ [] none 0 0 E (gG.none _ _) C);clear E j f
   go_wp2_with(go_at_call 70;fail)
   refine O.mono ?_;rintro d Q ⟨rfl,T,M,A⟩;have D:=jI (E6.trans A);have K:=jI (ny 5 0 (q:Int) 0 0 0 ⟨#[]⟩ (e:Int) ⟨#[]⟩ [] none 0 0 M (gG.none _ _) L);clear M A O
   go_wp2_with(go_at_call 70;fail)
   refine K.mono ?_;rintro d Y ⟨rfl,H,I,B⟩;obtain⟨⟨⟨C8,C9,D0⟩,⟨A9,B0,B1,D1,D2,D3⟩,D4,D5,D6⟩,D7⟩:=A1 H Y I (D.trans B);clear A1 I B K;go_wp2;go_end0;exact D7
theorem uZ(d:Ad F.V){i j k:IntKind}(o:Int)(hc:(c=6/\o=9)\/(c=7/\o=10))(h:fC R w P f s)(q:ej (Lo (P-1)) w (wG i j k c a n nm m l r g) v)(t:F.V l s=some (p,s')):
  aA 212 #[ptr P,v] w (pz P R f w ⟨o,0,(p:Int),0,0,0,[],0,[],[]⟩ s'):=by
 obtain⟨b,vl,vr,u,x,y,rfl,z,A⟩:=Ds q;obtain⟨B,C⟩:=h.al o9;obtain⟨D,E,-⟩:=z (w.alloc o9) C.bel;have H:=D.c0;have I:=D.c5;obtain⟨J,K⟩:=aB (w.alloc (jC #[jV 0,jV 0,jV 0,jV 0,jV 0,jV 0,jT ⟨#[]⟩,jV 0,jT ⟨#[]⟩,jS] 125));have L:Hid (aA 163 #[ptr P,vl] J (lR P R f J (p:Int) s')):=by
  show Calls _ _ _ _ _;rw[K];exact d R (w.alloc o9) P f s s' l vl p B E t
 have M:=jI K;have N:=jI h;obtain⟨G,O⟩:=aB (pz P R f w ⟨o,0,(p:Int),0,0,0,[],0,[],[]⟩ s');have Q:=jI O;rw[<-O];have S:Hid (∀T U,fC T U P f s'->Lw P R T J U->Zc w.heap.size U/\Qw w.heap.size U (jV o) (jV 0) (jV (p:Int)) (jV 0) (jV 0) (jV 0) (jT ⟨#[]⟩) (jV 0) (jT ⟨#[]⟩) jS G):=λT U W Y=>pI N.out W (M.out▸Y) o 0 (p:Int) 0 0 0 0 ⟨#[]⟩ ⟨#[]⟩ [] none 0 0 (gG.none _ _) Q.out;clear z q A h O D B C E t M N Q;rcases hc with⟨rfl,rfl⟩|⟨rfl,rfl⟩
 ·go_enter Tryz.func212,Tryz.ntmps212
  go_wp2_with(go_at_call 163;fail)
  rw[<-K];clear K H I;refine L.mono ?_;rintro e U ⟨rfl,T,Z,i⟩;obtain⟨⟨⟨j,k,m,u,x,y,d,f,J,o⟩,q⟩,t,z⟩:=S T U Z i;have A:=q 0;have B:=q 1;have C:=q 2;have D:=q 3;have E:=q 4;have M:=q 5;have N:=q 6;have O:=q 7;have Q:=q 8;have W:=q 9;clear Z i q S;go_wp2;refine bodyPost_ret (jk Tryz.results212 _ _ w.heap.size _ _ _ _ _ _ _ _ _ _ rfl t) rfl ?_
  exact z
 ·go_enter Tryz.func212,Tryz.ntmps212
  go_wp2_with(go_at_call 163;fail)
  rw[<-K];clear K H I;refine L.mono ?_;rintro e U ⟨rfl,T,Z,i⟩;obtain⟨⟨⟨j,k,m,u,x,y,d,f,J,o⟩,q⟩,t,z⟩:=S T U Z i;have A:=q 0;have B:=q 1;have C:=q 2;have D:=q 3;have E:=q 4;have M:=q 5;have N:=q 6;have O:=q 7;have Q:=q 8;have W:=q 9;clear Z i q S;go_wp2;refine bodyPost_ret (jk Tryz.results212 _ _ w.heap.size _ _ _ _ _ _ _ _ _ _ rfl t) rfl ?_
  exact z
theorem u9{f i j:IntKind}{k:By}(m:FuncId)(hc:(c=3/\m=240)\/(c=4/\m=241))(h:fC R w P d s)(o:ej (Lo (P-1)) w (wG f i j c a n nm k l r g) v)(p:∀W R',fC R' W P d s->ej (Lo (P-1)) W (wG f i j c a n nm k l r g) v->aA m #[ptr P,v] W (pz P R' d W x s')):
  aA 212 #[ptr P,v] w (pz P R d w x s'):=by
 have q:=jI o;obtain⟨b,vl,vr,t,u,z,rfl,A,B⟩:=Ds o;obtain⟨C,D⟩:=h.al o9;obtain⟨E,F,-⟩:=A (w.alloc o9) D.bel;have H:=E.c0;obtain⟨I,J⟩:=aB (w.alloc (jC #[jV 0,jV 0,jV 0,jV 0,jV 0,jV 0,jT ⟨#[]⟩,jV 0,jT ⟨#[]⟩,jS] 125));have K:=jI J;have L:aA m #[ptr P,ptr b] I (pz P R d I x s'):=by
  rw[J];exact p (w.alloc o9) R C (oO q D.bel)
 have M:=jI h;obtain⟨G,N⟩:=aB (pz P R d w x s');have O:=jI N;rw[<-N];obtain⟨Q,S,T,U,V,Y,Z,f,i,j⟩:=x;obtain⟨k,t⟩:∃y:ByteArray,y=⟨Z.toArray⟩:=⟨_,rfl⟩;obtain⟨u,z⟩:∃y:ByteArray,y=⟨i.toArray⟩:=⟨_,rfl⟩;have Z:Hid (aA m #[ptr P,ptr b] I (λe w'=>∃i m A0,e=jR (.agg #[jV Q,jV S,jV T,jV U,jV V,jV Y,jT k,jV f,jT u,jL i m A0])/\∃R',fC R' w' P d s'/\Lw P R R' I w'/\gG R' w' (jL i m A0) j)):=by
  rw[t,z];refine L.mono ?_;rintro e w' ⟨i,m,A0,A1,R',A2,A3,A4⟩;exact⟨i,m,A0,A1,R',A2,A3,A4⟩
 have A5:Hid (∀A6 A7 i m A0,fC A6 A7 P d s'->Lw P R A6 I A7->gG A6 A7 (jL i m A0) j->Zc w.heap.size A7/\Qw w.heap.size A7 (jV Q) (jV S) (jV T) (jV U) (jV V) (jV Y) (jT k) (jV f) (jT u) (jL i m A0) G):=λA6 A7 i m A0 d I A8=>pI M.out d (K.out▸I) Q S T U V Y f k u j i m A0 A8 (by rw[O.out,t,z]);clear A o B h N E C D F p L q K M O t z;rcases hc with⟨rfl,rfl⟩|⟨rfl,rfl⟩
 ·go_enter Tryz.func212,Tryz.ntmps212
  go_wp2_with(go_at_call 240;fail)
  rw[<-J];clear J H;refine Z.mono ?_;rintro e A7 ⟨i,m,A0,rfl,A6,o,p,A8⟩;obtain⟨⟨⟨q,A,B,C,D,E,F,K,L,M⟩,N⟩,O,Q⟩:=A5 A6 A7 i m A0 o p A8;have S:=N 0;have T:=N 1;have U:=N 2;have V:=N 3;have Y:=N 4;have f:=N 5;have j:=N 6;have k:=N 7;have t:=N 8;have u:=N 9;clear o p N A5 A8;go_wp2;refine bodyPost_ret (jk Tryz.results212 _ _ w.heap.size _ _ _ _ _ _ _ _ _ _ rfl O) rfl ?_
  exact Q
 ·go_enter Tryz.func212,Tryz.ntmps212
  go_wp2_with(go_at_call 241;fail)
  rw[<-J];clear J H;refine Z.mono ?_;rintro e A7 ⟨i,m,A0,rfl,A6,o,p,A8⟩;obtain⟨⟨⟨q,A,B,C,D,E,F,K,L,M⟩,N⟩,O,Q⟩:=A5 A6 A7 i m A0 o p A8;have S:=N 0;have T:=N 1;have U:=N 2;have V:=N 3;have Y:=N 4;have f:=N 5;have j:=N 6;have k:=N 7;have t:=N 8;have u:=N 9;clear o p N A5 A8;go_wp2;refine bodyPost_ret (jk Tryz.results212 _ _ w.heap.size _ _ _ _ _ _ _ _ _ _ rfl O) rfl ?_
  exact Q
theorem DI(c:Ad F.V){f:Wr}{i j k:IntKind}{q:Nat}(h:fC R w P d s)(o:ej (Lo (P-1)) w (wG i j k 8 a n nm m l r g) v)(t:F.V l s=some (p,f))(u:F.V r f=some (q,s')):
  aA 212 #[ptr P,v] w (pz P R d w ⟨11,0,(p:Int),(q:Int),0,0,[],0,[],[]⟩ s'):=by
 obtain⟨b,vl,vr,x,y,z,rfl,A,B⟩:=Ds o;obtain⟨C,D⟩:=h.al o9;obtain⟨E,H,-⟩:=A (w.alloc o9) D.bel;have I:=E.c0;have J:=E.c5;obtain⟨K,L⟩:=aB (w.alloc (jC #[jV 0,jV 0,jV 0,jV 0,jV 0,jV 0,jT ⟨#[]⟩,jV 0,jT ⟨#[]⟩,jS] 125));have M:Hid (aA 163 #[ptr P,vl] K (lR P R d K (p:Int) f)):=by
  show Calls _ _ _ _ _;rw[L];exact c R (w.alloc o9) P d s f l vl p C H t
 have N:Hid (∀W,Below (P-1) w W->W.cell? (jB b 6)=some vr/\ej (Lo (P-1)) W r vr):=λW O=>⟨(A W O).1.c6,(A W O).2.2.1⟩;have Q:=jI L;have S:Hid (Lw P R R w K):=Q.out▸D;have T:=jI h;obtain⟨G,U⟩:=aB (pz P R d w ⟨11,0,(p:Int),(q:Int),0,0,[],0,[],[]⟩ s');have Y:=jI U;rw[<-U];have Z:Hid (∀i j,fC i j P d s'->Lw P R i K j->Zc w.heap.size j/\Qw w.heap.size j (jV 11) (jV 0) (jV (p:Int)) (jV (q:Int)) (jV 0) (jV 0) (jT ⟨#[]⟩) (jV 0) (jT ⟨#[]⟩) jS G):=λi j k m=>pI T.out k (Q.out▸m) 11 0 (p:Int) (q:Int) 0 0 0 ⟨#[]⟩ ⟨#[]⟩ [] none 0 0 (gG.none _ _) Y.out;clear A o B h U E C D H t Q T Y;go_enter Tryz.func212,Tryz.ntmps212
 go_wp2_with(go_at_call 163;fail)
 rw[<-L];clear L I J;refine M.mono ?_;rintro e j ⟨rfl,i,x,y⟩;obtain⟨z,O⟩:=N j (S.trans y).bel;have K:=jI y;have o:=jI (c i j P d f s' r vr q x O u);clear x y O
 go_wp2_with(go_at_call 163;fail)
 refine o.mono ?_;rintro e t ⟨rfl,A,B,C⟩;obtain⟨⟨⟨D,E,H,I,J,L,M,Q,T,U⟩,Y⟩,k,m⟩:=Z A t B (K.trans C);have N:=Y 0;have S:=Y 1;have c:=Y 2;have d:=Y 3;have f:=Y 4;have u:=Y 5;have i:=Y 6;have j:=Y 7;have x:=Y 8;have y:=Y 9;clear B C Y Z z;go_wp2;refine bodyPost_ret (jk Tryz.results212 _ _ w.heap.size _ _ _ _ _ _ _ _ _ _ rfl k) rfl ?_
 exact m
theorem px(l:List Ms)(s:Ms)(x:Int):fA (l++[s]) x=(fA l x).or (if s.code=6/\s.label=x then some l.length else none):=by
 unfold fA;rw[List.findIdx?_append];congr 1;by_cases h:s.code=6/\s.label=x
 ·rw[if_pos h];simp[h.1,h.2]
 ·rw[if_neg h];have:(s.code==6&&s.label==x)=false:=by
   rw[cE];intro e;simp at e;exact h e
  simp[this]
theorem tY{l:List Ms}{x:Int}:fA l x=none↔∀s∈l,¬(s.code=6/\s.label=x):=by
 unfold fA;rw[List.findIdx?_eq_none_iff];constructor
 ·intro h s a e;have:=h s a;simp[e.1,e.2]at this
 ·intro h s a;have:=h s a;rw[cE];intro e;simp at e;exact this e
theorem oc{l:List Ms}{s:Ms}:gB (l++[s])↔gB l/\(s.code=6->fA l s.label=none):=by
 unfold gB;rw[dJ,cN];by_cases h:s.code=6
 ·have e:([s].filter (λs=>s.code==6)).map (·.label)=[s.label]:=by simp[h]
  rw[e,b_];constructor
  ·rintro⟨h1,_,c⟩;refine⟨h1,λ_=>tY.2 λt d e=>?_⟩;refine c t.label (aT.2 ⟨t,cY.2 ⟨d,by simp[e.1]⟩,rfl⟩) s.label (by simp) e.2
  ·rintro⟨h1,h2⟩;refine⟨h1,by simp,λa f b g e=>?_⟩;obtain⟨t,d,rfl⟩:=aT.1 f;have d:=cY.1 d;simp at g;exact tY.1 (h2 h) t d.1 ⟨by simpa using d.2,by rw[e,g]⟩
 ·have e:([s].filter (λs=>s.code==6)).map (·.label)=[]:=by simp[h]
  rw[e,bT];exact⟨λa=>⟨a,λb=>absurd b h⟩,λa=>a.1⟩
theorem yL{l:List Ms}(h:gB l):gB (l.take i):=by
 unfold gB at h⊢;exact h.sublist (((List.take_sublist i l).filter _).map _)
theorem gI{α:Type}{l:List α}{s:α}(h:l[i]?=some s):l.take (i+1)=l.take i++[s]:=by
 obtain⟨h1,rfl⟩:=aK.1 h;exact(List.take_append_getElem h1).symm
def LbP(l:List Ms)(w:jW)(e:Ending)(w':jW):Prop:=
 az w w'/\((gB l/\e=jR (.tuple #[.map (some w.heap.size),.bool true])/\∃n,n<=l.length/\Mp 3 w' w.heap.size (n_ l) n)\/(¬gB l/\e=jR (.tuple #[.map none,.bool false])))
structure PY (l:List Ms) (w wr:jW) (i:Nat):Prop where
 bel:az w wr
 mp:∃n,n<=i/\Mp 3 wr w.heap.size (n_ (l.take i)) n
 ok:gB (l.take i)
theorem PZ{l:List Ms}{a:jW}{s:Ms}(h:PY l w wr i)(b:l[i]?=some s)(c:s.code=6)(d:fA (l.take i) s.label=none)(f:az wr a)(j:qN s.label)(m:i<=1000000):
  ∃o,(Instr.mapUpdate 118 (.map (some w.heap.size)) (jV s.label) (jV (i:Int))).run Tryz.prog a= .ok () o/\PY l w o (i+1)/\a.grownBy o (some w.heap.size):=by
 obtain⟨n,p,q⟩:=h.mp;have r:=q.lt;have t:(l.take i).length=i:=by have:=(aK.1 b).1;simp;omega
 obtain⟨o,h1,h2,u⟩:=(q.kept (f.block _ r)).put Sb yG (by omega) (yF _ j) trivial (jV (i:Int)) (g:=n_ (l.take (i+1))) (by
   show(fA (l.take (i+1)) s.label).map _=_;rw[gI b,px,d,if_pos ⟨c,rfl⟩,t];rfl) (λy v=>by
   cases y with
   |int k x=>
    cases k<;>try rfl
    show(fA (l.take (i+1)) x).map _=(fA (l.take i) x).map _;rw[gI b,px,if_neg (λe=>v (by rw[e.2])),Option.or_none]
   |_=>rfl)
 refine⟨o,h1,⟨?_,⟨_,?_,h2⟩,?_⟩,u⟩
 ·exact(h.bel.trans (f.mono h.bel.size)).grown u (aP h.bel.size f.size) (λk e=>by injection e with e;omega)
 ·split<;>omega
 ·rw[gI b];exact oc.2 ⟨h.ok,λ_=>d⟩
theorem Ln{l:List Ms}{a:jW}{s:Ms}(h:PY l w wr i)(b:l[i]?=some s)(c:s.code≠6)(d:az wr a):PY l w a (i+1):=by
 obtain⟨n,f,g⟩:=h.mp;have e:n_ (l.take (i+1))=n_ (l.take i):=by
  funext y
  cases y with
  |int k x=>
   cases k<;>try rfl
   show(fA (l.take (i+1)) x).map _=(fA (l.take i) x).map _;rw[gI b,px,if_neg (λe=>c e.1),Option.or_none]
  |_=>rfl
 refine⟨h.bel.trans (d.mono h.bel.size),⟨n,by omega,?_⟩,?_⟩
 ·rw[e];exact g.kept (d.block _ g.lt)
 ·rw[gI b];exact oc.2 ⟨h.ok,λe=>absurd e c⟩
theorem ip(w:jW)(A:Obj):az w (w.alloc A):=(aJ _ _).alloc (aD _) _
theorem tZ(w:World)(fb d:Nat)(F:Mf)(h:eX w fb d F):aA 76 #[.pointer (some ⟨fb,d,none⟩)] w (LbP F.steps w):=by
 obtain⟨q,c,f,hc,l⟩:=h.c3;have r:=jI l;obtain⟨n,t⟩:=aB F.steps.length;have u:=jI t;have z:n<=1000000:=by rw[t];exact h.i2.2.2
 rw[<-t]at f hc;have B:∀W:World,(Instr.makeMap 118 none).run Tryz.prog W= .ok (.map (some W.heap.size)) (W.alloc (.map #[] 0)):=λW=>by simp[Instr.makeMap,go_sem]
 have C:=eF (A:= .map #[] 0) f;generalize D:LbP F.steps w=G;have E:=jI D;have H:Hid (PY F.steps w (w.alloc (.map #[] 0)) 0):=⟨ip _ _,⟨0,aD _,by
  have e:n_ (F.steps.take 0)=λ_=>none:=by
   funext y
   cases y with
   |int k x=>cases k<;>rfl
   |_=>rfl
  rw[e];exact Mp.made 3 w⟩,by simp[gB]⟩
 clear D l h t f;go_enter Tryz.func76,Tryz.ntmps76
 go_wp2_with fail
 obtain⟨I,J⟩:=aB (w.alloc (.map #[] 0));rw[<-J]at H⊢;clear J C
 go_loopw [2,14] (λK v wr=>∃i:Nat,i<=n/\K= .map (some w.heap.size)/\v= .int .i64 i/\Hid (PY F.steps w wr i)) (λ_ v _=>n-(intOf v).toNat)
 case atStart=>exact⟨0,aQ _,rfl,rfl,H⟩
 case round=>
  obtain⟨i,L,rfl,rfl,M⟩:=hrel;by_cases N:i<n
  ·obtain⟨s,O⟩:∃s,F.steps[i]?=some s:=⟨F.steps[i]'(by rw[<-u.out];exact N),aI _⟩;obtain⟨gs,P,rfl,Q⟩:∃g p,q=some ⟨g,p,none⟩/\∀j s,F.steps[j]?=some s->g8 w g (p+j*10) s:=by
    rcases r with h|h
    ·rw[h]at O;simp at O
    ·exact h
   have S:=jI (Q i s O);have T:∀(o:Nat)(v:Value),w.cell? ⟨gs,o,none⟩=some v->wr.cell? ⟨gs,o,none⟩=some v:=λo v U=>by
    rw[M.bel.cell (p:=⟨gs,o,none⟩) (fE U)];exact U
   have V:=T _ _ S.c0;have Y:=T _ _ S.c1;have Z:=T _ _ S.c2;have d:=T _ _ S.c3;have z:=T _ _ S.c4;have B:=T _ _ S.c5;have f:=T _ _ S.c6;have l:=T _ _ S.c7;have t:=T _ _ S.c8;obtain⟨D,C,I,J,rfl,_⟩:=S.c9;have H:=T _ _ C;obtain⟨K,L⟩:=aB s.args.length;rw[<-L]at H;obtain⟨N,P⟩:∃N:ByteArray,N=⟨s.op.toArray⟩:=⟨_,rfl⟩;obtain⟨r,U⟩:∃r:ByteArray,r=⟨s.name.toArray⟩:=⟨_,rfl⟩;rw[<-P]at f;rw[<-U]at t;have Y:=jI O;clear T O Q C L P U;have Z:(i:Int)<(n:Int):=by omega
   obtain⟨cd,d⟩:∃cd,s.code=cd:=⟨_,rfl⟩;obtain⟨lb,z⟩:∃lb,s.label=lb:=⟨_,rfl⟩;have B:Hid (s.code=cd/\s.label=lb):=⟨d,z⟩;rw[d]at V;rw[z]at l;obtain⟨D,H⟩:=aB (wr.alloc (.cells #[.int .i64 cd,.int .i64 s.dst,.int .i64 s.a,.int .i64 s.b,.int .i64 s.c,.int .i64 s.n,.string N,.int .i64 lb,.string r,.slice I K J] 125));have f:Hid (az wr D):=by rw[H];exact ip _ _
   by_cases t:cd=6
   ·subst t;cases O:fA (F.steps.take i) lb with
    |none=>
     obtain⟨Q,T,C,L⟩:=PZ M Y d (by rw[z];exact O) f S.i1.2.2.2.2.2.2 (by omega);rw[z]at T;obtain⟨m,_,P⟩:=M.mp;have lk:=(P.kept (f.block _ P.lt)).look2 Sb yG (tF D) (yF lb (by rw[<-z];exact S.i1.2.2.2.2.2.2));have U:n_ (F.steps.take i) (.int .i64 lb)=none:=by show(fA (F.steps.take i) lb).map _=none;rw[O];rfl
     rw[U]at lk;have Z:=lk;rw[H]at T Z;have V:=jI C;clear P lk U O d z C L H f;go_wp2;exact⟨⟨i+1,by omega,rfl,by go_num,V⟩,by simp[intOf];omega⟩
    |some k=>
     obtain⟨m,_,P⟩:=M.mp;have lk:=(P.kept (f.block _ P.lt)).look2 Sb yG (tF D) (yF lb (by rw[<-z];exact S.i1.2.2.2.2.2.2));have U:n_ (F.steps.take i) (.int .i64 lb)=some (.int .i64 (k:Int)):=by show(fA (F.steps.take i) lb).map _=_;rw[O];rfl
     rw[U]at lk;have Z:=lk;rw[H]at Z;have l:Hid (G (.returned (.tuple #[.map none,.bool false])) (wr.alloc (.cells #[.int .i64 6,.int .i64 s.dst,.int .i64 s.a,.int .i64 s.b,.int .i64 s.c,.int .i64 s.n,.string N,.int .i64 lb,.string r,.slice I K J] 125))):=by
      show G _ _;rw[<-E.out,<-H];refine⟨M.bel.trans (f.mono M.bel.size),.inr ⟨λB=>?_,rfl⟩⟩;have:=yL (i:=i+1) B;rw[gI Y.out]at this;have:=(oc.1 this).2 d;rw[z,O]at this;cases this
     clear P lk U O d z H f;go_wp2;exact l
   ·have Q:(cd==6)=false:=by simpa using t
    have V:Hid (PY F.steps w D (i+1)):=Ln M Y (by rw[d];exact t) f;rw[H]at V;clear d z H f;go_wp2;exact⟨⟨i+1,by omega,rfl,by go_num,V⟩,by simp[intOf];omega⟩
  ·have T:i=n:=by omega
   subst T;have l:Hid (G (.returned (.tuple #[.map (some w.heap.size),.bool true])) wr):=by
    show G _ _;rw[<-E.out];have e:F.steps.take i=F.steps:=by rw[u.out,cx]
    obtain⟨m,S,C⟩:=M.mp;have B:=M.ok;rw[e]at C B;exact⟨M.bel,.inl ⟨B,rfl,m,by rw[<-u.out];exact S,C⟩⟩
   go_wp2;exact l
end Go.Proofs.YtnfhpdbbfejioaaGreatDoor.Mid
