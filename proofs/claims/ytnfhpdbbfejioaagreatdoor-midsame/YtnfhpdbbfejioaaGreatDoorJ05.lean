/- NE NF NG NH NI LA QA LB LC LD LT SH2 -/
import Derived.Test.YtnfhpdbbfejioaaGreatDoorJ03
import Derived.BigQuiet
import Derived.Maps.RangeWalk
set_option linter.unusedVariables false
set_option linter.unusedSimpArgs false
set_option maxRecDepth 100000
set_option maxHeartbeats 16000000
namespace Go.Proofs.YtnfhpdbbfejioaaGreatDoor.Mid
open Go Go.RowKit
theorem Sm.newX{w0:jW}{P:Nat}{a:jU}{w:jW}{r:Rs}{d:Nat}(h:Sm w0 P a w r d){b:Nat}(c:w.heap.size<=b):¬Xs P r b:=by
 intro e;rcases e with rfl|e|e
 ·have:=h.ltP;omega
 ·obtain⟨p,f,rfl⟩:=aT.1 e;obtain⟨j,g⟩:=a7 f;obtain⟨l,_,_,_,i⟩:=h.arr j p.1 p.2 g;have:=(aC.1 i).1;omega
 ·have:=(h.out.lt b e).2;omega
theorem Sm.setL{w0:jW}{P:Nat}{a:jU}{w:jW}{r:Rs}{d:Nat}(h:Sm w0 P a w r d){B i:Nat}{v:jU}(c:¬Xs P r B)(f:w0.heap.size<=B):Sm w0 P a (w.setCell (jB B i) v) r d:=by
 have g:∀b,b≠B->(w.setCell (jB B i) v).heap[b]?=w.heap[b]?:=λb j=>aG _ _ _ _ j;have m:(w.setCell (jB B i) v).heap.size=w.heap.size:=by simp
 refine⟨h.lt,by rw[m];exact h.le,λb h1 h2=>?_,?_,h.inp,fX h.out (λk hk=>g k (λe=>c (.inr (.inr (e▸hk))))),h.apart,h.alen,λk b n hk=>?_,h.lo,h.nd,h.few,h.told,h.deep⟩
 ·rw[g b (by omega)];exact h.kp b h1 h2
 ·rw[g P (λe=>c (.inl e.symm))];exact h.pb
 ·obtain⟨l,o,p,q,s⟩:=h.arr k b n hk;refine⟨l,o,p,q,?_⟩;rw[g b (λe=>c (.inr (.inl (e▸aT.2 ⟨(b,n),aM hk,rfl⟩))))];exact s
theorem Fz.setL{P:Nat}{E:Nat->Prop}{w w1:jW}{r r1:Rs}(h:Fz P E w r w1 r1){B i:Nat}{v:jU}(a:w.heap.size<=B):Fz P E w r (w1.setCell (jB B i) v) r1:=
 ⟨h.os,h.tape,h.output,by simp;exact h.size,λb c d e=>by rw[aG _ _ _ _ (by show b≠B;omega)];exact h.blk b c d e,h.pre,h.new⟩
theorem wd{a:Func}{p:Tmp}(h:a.results=#[.cell p 179])(b:Array Value)(w:jW)(g:Nat)(c d:jU)(e:b.getD p undef=jP g)(f:w.heap[g]?=some (jC #[c,d] 179)):
  (results a b).run Tryz.prog w= .ok (.agg #[c,d]) w:=by
 have h1:(loadVar 179 (jA g)).run Tryz.prog w= .ok (.agg #[c,d]) w:=cm w g 179 179 _ (0,0) _ f Tryz.underlying179 rfl (by kernel_rfl);rw[gC h,e];simp[asAddr];exact h1
theorem Ow{w:jW}{B:Nat}{a b x z:jU}(h:w.heap[B]?=some (jC #[a,b] 179)):((w.setCell (jA B) x).setCell (jB B 1) z).heap[B]?=some (jC #[x,z] 179):=aH _ _ _ _ _ _ (aH _ _ _ _ _ _ h)
def Rs.new1(r:Rs)(b:Nat)(n:Nat):Rs:={r with ab:=r.ab++[(b,n)],s:={r.s with hp:=r.s.hp++[List.replicate n 0]}}
theorem Sm.newA{w0:jW}{P:Nat}{c:jU}{w:jW}{r:Rs}{d:Nat}(h:Sm w0 P c w r d){n:Nat}(f:n<=40):Sm w0 P c (w.alloc (jC (fI (List.replicate n 0)).toArray 2)) (r.new1 w.heap.size n) d/\Fz P iL w r (w.alloc (jC (fI (List.replicate n 0)).toArray 2)) (r.new1 w.heap.size n):=by
 have g:=eL w (jC (fI (List.replicate n 0)).toArray 2);have j:=h.below g;have m:=h.newX (aD w.heap.size);have o:(r.new1 w.heap.size n).ab.map (·.1)=r.ab.map (·.1)++[w.heap.size]:=by simp[Rs.new1]
 refine⟨⟨j.lt,j.le,j.kp,j.pb,j.inp,j.out,?_,?_,?_,?_,?_,j.few,j.told,j.deep⟩,⟨g.os,g.tape,g.output,g.size,λb h1 _ _=>g.block b h1,⟨[(w.heap.size,n)],rfl⟩,?_⟩⟩
 ·intro i p q;rw[o]at q;rcases bE.1 q with q|q
  ·exact h.apart i p q
  ·rw[a_]at q;subst q;exact m (.inr (.inr p))
 ·show(r.ab++_).length=(r.s.hp++_).length;simp[h.alen]
 ·intro i b k p;have t:(r.ab++[(w.heap.size,n)])[i]?=some (b,k):=p;show∃l,(r.s.hp++[List.replicate n 0])[i]?=some l/\_;rcases bG i r.ab.length with u|v
  ·rw[aW u]at t;obtain⟨l,x,y,z,A⟩:=j.arr i b k t;exact⟨l,by rw[aW (by rw[<-h.alen];exact u)];exact x,y,z,A⟩
  ·rw[aX v]at t;have B:i-r.ab.length=0:=by
    rcases b8 (i-r.ab.length) with e|e
    ·exact e
    ·rw[dw (by simp;omega)]at t;cases t
   rw[B]at t;have C:(w.heap.size,n)=(b,k):=by simpa using t
   injection C with C e2;subst C;subst e2;refine⟨List.replicate n 0,?_,by simp,f,heap_alloc_last _ _⟩;rw[aX (by rw[<-h.alen];exact v),<-h.alen,B];rfl
 ·intro b q;rw[o]at q;rcases bE.1 q with q|q
  ·exact h.lo b q
  ·rw[a_]at q;subst q;exact h.le
 ·rw[o];refine b_.2 ⟨h.nd,by simp,λa D b g e=>?_⟩;rw[a_]at g;subst g;subst e;exact m (.inr (.inl D))
 ·intro b E F;rcases E with E|E|E
  ·exact absurd (.inl E) F
  ·rw[o]at E;rcases bE.1 E with E|E
   ·exact absurd (.inr (.inl E)) F
   ·rw[a_]at E;omega
  ·exact absurd (.inr (.inr E)) F
theorem zR{n:Int}{s:Sg}(h:n<0\/40<n):qj n s= .error (4,s.out):=if_pos h
theorem zT{n:Int}{s:Sg}(h:0<=n/\n<=40):qj n s= .ok ((0,some s.hp.length),{s with hp:=s.hp++[List.replicate n.toNat 0]}):=if_neg (by omega)
theorem vU{w0:jW}{P:Nat}{a:jU}{w:jW}{r:Rs}{d:Nat}(h:Sm w0 P a w r d){q:Option Nat}{p:jO}{l c:Nat}(e:pA r.ab q (jL p l c)):(ie r.s q).length=l:=by
 cases q with
 |none=>
  injection e with _ h2 _;rw[h2];rfl
 |some i=>
  obtain⟨b,n,h1,h2⟩:=e;injection h2 with _ h3 _;obtain⟨f,g,j,_,_⟩:=h.arr i b n h1;show(r.s.hp.getD i []).length=l;rw[aU,g,h3];exact j
def Rs.put1(r:Rs)(i j:Nat)(n:Int):Rs:={r with s:={r.s with hp:=r.s.hp.modify i (λl=>l.set j n)}}
theorem Sm.putA{w0:jW}{P:Nat}{a:jU}{w:jW}{r:Rs}{d:Nat}(h:Sm w0 P a w r d){i b k j:Nat}{n:Int}(c:r.ab[i]?=some (b,k)):Sm w0 P a (w.setCell (jB b j) (jV n)) (r.put1 i j n) d/\Fz P iL w r (w.setCell (jB b j) (jV n)) (r.put1 i j n):=by
 have f:b∈r.ab.map (·.1):=aT.2 ⟨(b,k),aM c,rfl⟩;have g:∀x,x≠b->(w.setCell (jB b j) (jV n)).heap[x]?=w.heap[x]?:=λx o=>aG _ _ _ _ o;have p:(w.setCell (jB b j) (jV n)).heap.size=w.heap.size:=by simp
 have q:=h.lo b f;refine⟨⟨h.lt,by rw[p];exact h.le,λx h1 h2=>?_,?_,h.inp,fX h.out (λx o=>g x (λe=>h.apart x o (e▸f))),h.apart,?_,λx y m o=>?_,h.lo,h.nd,h.few,h.told,h.deep⟩,⟨rfl,rfl,rfl,by rw[p];exact aD _,λx _ o _=>g x (λe=>o (.inr (.inl (e▸f)))),aN,λx h1 h2=>absurd h1 h2⟩⟩
 ·rw[g x (by omega)];exact h.kp x h1 h2
 ·rw[g P (h.ne f).symm];exact h.pb
 ·show r.ab.length=(r.s.hp.modify i _).length;rw[List.length_modify];exact h.alen
 ·have t:r.ab[x]?=some (y,m):=o;obtain⟨l,u,v,z,A⟩:=h.arr x y m t;show∃l,(r.s.hp.modify i _)[x]?=some l/\_;by_cases e:i=x
  ·subst e;rw[c]at t;injection t with t;injection t with e1 B;subst e1;subst B;refine⟨l.set j n,by rw[dR,u];rfl,by rw[cP];exact v,z,?_⟩;rw[aH _ _ _ _ _ _ A];congr 2;apply cT;simp[fI]
  ·refine⟨l,by rw[dS _ _ e];exact u,v,z,?_⟩;have C:y≠b:=λB=>by
    have D:(r.ab.map (·.1))[i]?=some b:=by rw[bw,c];rfl
    have E:(r.ab.map (·.1))[x]?=some y:=by rw[bw,t];rfl
    rw[B]at E;exact e ((dL (aK.1 D).1 h.nd).1 (D.trans E.symm))
   rw[g y C];exact A
theorem wh{q:Option Nat}{i n:Int}{s:Sg}(h:i<0\/((ie s q).length:Int)<=i):qm q i n s= .error (3,s.out):=if_pos h
theorem z8{q:Option Nat}{i n:Int}{s:Sg}(h:¬(i<0\/((ie s q).length:Int)<=i)):qm q i n s= .ok ((),{s with hp:=s.hp.modify (q.getD 0) (λl=>l.set i.toNat n)}):=if_neg h
theorem fZ{X:Mx}{w:jW}{r:Rs}{d:Nat}{w1:jW}{a:Rs}(b:Sm X.w0 X.P X.fv w r d)(c:Fz X.P iL (w.alloc zv) r w1 a):w1.heap[w.heap.size]?=some zv/\¬Xs X.P a w.heap.size:=by
 have f:=b.newX (aD w.heap.size);refine⟨by rw[c.blk w.heap.size (by simp) f (λe=>e)];exact heap_alloc_last _ _,λh=>?_⟩;have:=c.new _ h f;simp at this;omega
theorem nT{X:Mx}{w:jW}{r:Rs}{w1:jW}{r1:Rs}{A:Obj}(a:Fz X.P iL (w.alloc A) r w1 r1):Fz X.P iL w r w1 r1:=(Fz.below ((aJ _ _).alloc (aD _) A)).trans a
theorem wj{X:Mx}{w:jW}{r:Rs}{d:Nat}{w1:jW}{a:Rs}{b:Nat}{k:Int}(h1:Sm X.w0 X.P X.fv w1 a b)(c:Fz X.P iL (w.alloc zv) r w1 a):ur X w r d (.error (k,a.s.out)) (kz k) w1:=⟨a,b,h1,nT c,.inr ⟨k,rfl,rfl⟩⟩
theorem wk{X:Mx}{w:jW}{r:Rs}{d:Nat}{w1:jW}{a:Rs}{y:Vl}{p:jO}{l c:Nat}(b:Sm X.w0 X.P X.fv w r d)(h1:Sm X.w0 X.P X.fv w1 a d)(e:Fz X.P iL (w.alloc zv) r w1 a)(f:pA a.ab y.2 (jL p l c)):
  ((w1.setCell (jA w.heap.size) (jV y.1)).setCell (jB w.heap.size 1) (jL p l c)).heap[w.heap.size]?=some (jC #[jV y.1,jL p l c] 179)/\ur X w r d (.ok (y,a.s)) (jR (uF y.1 (jL p l c))) ((w1.setCell (jA w.heap.size) (jV y.1)).setCell (jB w.heap.size 1) (jL p l c)):=by
 obtain⟨h2,g⟩:=fZ b e;refine⟨Ow h2,a,d,(h1.setL g b.le).setL g b.le,?_,.inl ⟨y,p,l,c,rfl,rfl,rfl,f⟩⟩;exact((nT e).setL (aD _)).setL (aD _)
theorem T9{fs:By->Option Mf}{g d:Nat}{s:Ms}{o:List Vl}(h:s.code=9):eI fs g d s o=qj (pl o s.a).1:=by unfold eI;simp[h]
theorem R_{fs:By->Option Mf}{g d:Nat}{s:Ms}{o:List Vl}(h:s.code=14):eI fs g d s o=gb rE λn=>gp (n,none):=by unfold eI;simp[h]
theorem T_{fs:By->Option Mf}{g d:Nat}{s:Ms}{o:List Vl}(h:s.code=3):eI fs g d s o=gb (gU s.op (pl o s.a).1 (pl o s.b).1) λn=>gp (n,none):=by unfold eI;simp[h]
theorem Ua{fs:By->Option Mf}{g d:Nat}{s:Ms}{o:List Vl}(h:s.code=2):eI fs g d s o=gp (pl o s.a):=by unfold eI;simp[h]
theorem Sa{fs:By->Option Mf}{g d:Nat}{s:Ms}{o:List Vl}(h:s.code=11):eI fs g d s o=gb (lQ (pl o s.a).2 (pl o s.b).1) λn=>gp (n,none):=by unfold eI;simp[h]
theorem Pz{X:Mx}(f:oU X){s:Ms}{b o:Nat}(h:g8 X.wc b o s)(hc:s.code=9){g d j:Nat}{w:jW}{r:Rs}{own:List Vl}(m:Sm X.w0 X.P X.fv w r d)(t:nO w j r.ab own)(u:0<=s.a/\s.a<own.length)(hk:own.length<=1000000):
  aA 82 (KX X b o j own.length) w (ur X w r d (eI X.fs g d s own r.s)):=by
 have v:=eF (A:=zv) (f.cell m h.c0);have x:=eF (A:=zv) (f.cell m h.c2);rw[hc]at v;obtain⟨q,z,B,C⟩:=t.get u.1 u.2;have D:=jI m;obtain⟨ia,E⟩:∃ia:Nat,s.a=ia:=⟨s.a.toNat,by omega⟩;obtain⟨k,F⟩:∃k,own.length=k:=⟨_,rfl⟩;have H:ia<k:=by omega
 obtain⟨n,I⟩:∃n,(pl own s.a).1=n:=⟨_,rfl⟩;rw[I]at z;rw[E]at x z;rw[aR]at z;have J:=eF (A:=zv) z;have K:Hid (eI X.fs g d s own r.s=qj n r.s):=by rw[<-I];exact dW (T9 hc) _
 show aA 82 #[ptr X.P,jQ (some (jB b o)),jL (some (jA j)) own.length own.length] w _;generalize L:ur X w r d (eI X.fs g d s own r.s)=G;have M:=jI L;rw[F];rw[F]at hk;clear m h hc f L u z B C E F t I;go_enter Tryz.func82,Tryz.ntmps82
 go_wp2_with(go_at_call 117;fail)
 refine(rh _ _).mono ?_;have N:Hid (Sm X.w0 X.P X.fv (w.alloc zv) r d):=D.below (eL _ _);rintro e O (⟨I,rfl,rfl⟩|⟨Q,S,rfl,T⟩)
 ·refine⟨rfl,?_⟩;rw[<-M.out,K.out,zR I];exact wj N (Fz.refl _ _ _ _)
 ·obtain⟨U,V⟩:=N.newA (n:=n.toNat) (by omega);rw[<-T]at U V;have W:=jI (jN U V);have F:=(fZ D W.out.2).1;have Y:=jc 0 F;have Z:=jc 1 F;have v:=ea F 0;have H:=ea F 1;have x:=jI (jN Q S);obtain⟨J,j⟩:=aB n.toNat;have f:=jI j;rw[<-j];obtain⟨h,m⟩:=aB ((w.alloc zv).heap.size);have t:=jI m;rw[<-m];clear U V T F Q S j m;go_wp2;have u:=D.alen
  obtain⟨z,B⟩:=wk (y:=(0,some r.s.hp.length)) (p:=some (jA h)) (l:=J) (c:=J) D W.out.1 W.out.2 ⟨(w.alloc zv).heap.size,n.toNat,by show(r.ab++_)[r.s.hp.length]?=_;rw[<-u];simp,by rw[f.out,t.out]⟩;refine bodyPost_ret (wd Tryz.results82 _ _ w.heap.size _ _ rfl z) rfl ?_;rw[<-M.out,K.out,zT x.out];exact B
theorem G_{X:Mx}(a:oU X){s:Ms}{b o:Nat}(f:g8 X.wc b o s)(hc:s.code=14){g d h:Nat}{w:jW}{r:Rs}{own:List Vl}(j:Sm X.w0 X.P X.fv w r d):
  aA 82 (KX X b o h own.length) w (ur X w r d (eI X.fs g d s own r.s)):=by
 have k:=eF (A:=zv) (a.cell j f.c0);rw[hc]at k;have m:=jI j;have q:Hid (eI X.fs g d s own r.s=(gb rE λn=>gp (n,none)) r.s):=dW (R_ hc) _;generalize t:ur X w r d (eI X.fs g d s own r.s)=G;have u:=jI t;clear j f hc a t;go_enter Tryz.func82,Tryz.ntmps82
 go_wp2_with(go_at_call 118;fail)
 refine(tP X.toCx _ r d (m.below (eL _ _))).mono ?_;rintro e v ⟨x,rfl,h1,h2⟩;obtain⟨nx,z⟩:∃nx,r.s.inp.headD 0=nx:=⟨_,rfl⟩;rw[z];have B:=jI z;clear z;have C:=jI (jN h1 h2);have D:=(fZ m C.out.2).1;have E:=jc 0 D;have F:=jc 1 D;have H:=ea D 0;have I:=ea D 1;clear h1 h2 D;go_wp2;obtain⟨J,K⟩:=wk (y:=(nx,none)) (p:=none) (l:=0) (c:=0) m C.out.1 C.out.2 rfl
 refine bodyPost_ret (wd Tryz.results82 _ _ w.heap.size _ _ rfl J) rfl ?_;rw[<-u.out,q.out];rw[<-B.out]at K⊢;exact K
theorem gD(w:jW)(m:Nat):az w (w.drewN m):=⟨rfl,rfl,rfl,aD _,λ_ _=>rfl⟩
theorem pJ{a:List (Nat×Nat)}{x:Option Nat}{q:jU}(h:pA a x q):∃p l c,q=jL p l c:=by
 cases x with
 |none=>exact⟨_,_,_,h⟩
 |some i=>
  obtain⟨b,n,_,h2⟩:=h;exact⟨_,_,_,h2⟩
theorem Jz{X:Mx}(e:oU X){s:Ms}{b o:Nat}(f:g8 X.wc b o s)(hc:s.code=2){g d h:Nat}{w:jW}{r:Rs}{own:List Vl}(i:Sm X.w0 X.P X.fv w r d)(j:nO w h r.ab own)(m:0<=s.a/\s.a<own.length)(hk:own.length<=1000000):
  aA 82 (KX X b o h own.length) w (ur X w r d (eI X.fs g d s own r.s)):=by
 have t:=eF (A:=zv) (e.cell i f.c0);have u:=eF (A:=zv) (e.cell i f.c2);rw[hc]at t;obtain⟨q,x,y,z⟩:=j.get m.1 m.2;obtain⟨p,l,c,rfl⟩:=pJ z;have B:=jI i;obtain⟨ia,C⟩:∃ia:Nat,s.a=ia:=⟨s.a.toNat,by omega⟩;obtain⟨k,D⟩:∃k,own.length=k:=⟨_,rfl⟩;have E:ia<k:=by omega
 obtain⟨n,F⟩:∃n,(pl own s.a).1=n:=⟨_,rfl⟩;have H:=jI z;have I:=jI F;rw[F]at x;rw[C]at u x y;rw[aR]at x y;have J:=eF (A:=zv) x;have K:=eF (A:=zv) y;have L:Hid (eI X.fs g d s own r.s= .ok (pl own s.a,r.s)):=dW (Ua hc) _;show aA 82 #[ptr X.P,jQ (some (jB b o)),jL (some (jA h)) own.length own.length] w _;generalize M:ur X w r d (eI X.fs g d s own r.s)=G;have N:=jI M;rw[D];rw[D]at hk;clear i f hc e M m x y z C D j F;go_enter Tryz.func82,Tryz.ntmps82;go_wp2;refine bodyPost_ret (v:=uF n (jL p l c)) (by simp[results,Tryz.results82,go_sem]) rfl ?_
 rw[<-N.out,L.out];exact⟨r,d,B.below (eL _ _),Fz.below (eL _ _),.inl ⟨pl own s.a,p,l,c,rfl,rfl,by rw[I.out],H⟩⟩
theorem vh{c:By}{a b:Int}{s:Sg}{k:Int}(h:(gj c a b).2=k)(d:k≠0):gU c a b s= .error (k,s.out):=by
 unfold gU;rw[if_pos (by rw[h];exact d),h];rfl
theorem vk{c:By}{a b:Int}{s:Sg}(h:(gj c a b).2=0):gU c a b s= .ok ((gj c a b).1,s):=by
 unfold gU;rw[if_neg (by rw[h];simp)];rfl
theorem NV{X:Mx}(f:oU X){s:Ms}{b o:Nat}(h:g8 X.wc b o s)(hc:s.code=3){g d j:Nat}{w:jW}{r:Rs}{own:List Vl}(t:Sm X.w0 X.P X.fv w r d)(u:nO w j r.ab own)(v:0<=s.a/\s.a<own.length)(x:0<=s.b/\s.b<own.length)(hk:own.length<=1000000):
  aA 82 (KX X b o j own.length) w (ur X w r d (eI X.fs g d s own r.s)):=by
 have z:=eF (A:=zv) (f.cell t h.c0);have B:=eF (A:=zv) (f.cell t h.c2);have C:=eF (A:=zv) (f.cell t h.c3);have D:=eF (A:=zv) (f.cell t h.c6);rw[hc]at z;obtain⟨q,E,-,-⟩:=u.get v.1 v.2;obtain⟨F,H,-,-⟩:=u.get x.1 x.2;have I:=jI t;obtain⟨ia,J⟩:∃ia:Nat,s.a=ia:=⟨s.a.toNat,by omega⟩;obtain⟨ib,K⟩:∃ib:Nat,s.b=ib:=⟨s.b.toNat,by omega⟩;obtain⟨k,L⟩:∃k,own.length=k:=⟨_,rfl⟩;have M:ia<k:=by omega
 have N:ib<k:=by omega
 obtain⟨n,O⟩:∃n,(pl own s.a).1=n:=⟨_,rfl⟩;obtain⟨m,Q⟩:∃m,(pl own s.b).1=m:=⟨_,rfl⟩;rw[O]at E;rw[Q]at H;rw[J]at B E;rw[K]at C H;rw[aR]at E H;have S:=eF (A:=zv) E;have T:=eF (A:=zv) H;obtain⟨y,U⟩:∃y:ByteArray,(⟨s.op.toArray⟩:ByteArray)=y:=⟨_,rfl⟩;rw[U]at D;have V:y.data.toList=s.op:=by rw[<-U]
 obtain⟨n1,Y⟩:∃n1,(gj s.op n m).1=n1:=⟨_,rfl⟩;obtain⟨n2,Z⟩:∃n2,(gj s.op n m).2=n2:=⟨_,rfl⟩;have F:Hid (∀W,aA 116 #[jT y,jV n,jV m] W λe w'=>e=jR (.tuple #[jV n1,jV n2])/\w'=W):=λW=>by
  have:=sB y n m W;rw[V]at this;refine this.mono ?_;rintro e w' ⟨rfl,rfl⟩;exact⟨by rw[Y,Z],rfl⟩
 have M:=jI (jN Y Z);have N:Hid (eI X.fs g d s own r.s=(gb (gU s.op n m) λn=>gp (n,none)) r.s):=by rw[<-O,<-Q];exact dW (T_ hc) _
 show aA 82 #[ptr X.P,jQ (some (jB b o)),jL (some (jA j)) own.length own.length] w _;generalize j:ur X w r d (eI X.fs g d s own r.s)=G;have A0:=jI j;rw[L];rw[L]at hk;clear t h hc f j v x E H J K L u O Q U V Y Z;go_enter Tryz.func82,Tryz.ntmps82
 go_wp2_with fail
 go_quiet ((go_at_call 116;exact Calls.quiet_of_same (F _)))
 obtain⟨W1,f⟩:=aB ((w.alloc zv).drewN nq);have h:Below (w.alloc zv).heap.size (w.alloc zv) W1:=by rw[f];exact gD _ _
 have t:Hid (Sm X.w0 X.P X.fv W1 r d/\Fz X.P iL (w.alloc zv) r W1 r):=⟨(I.below (eL _ _)).below h,Fz.below h⟩;have L:=(fZ I t.out.2).1;have u:=jc 0 L;have v:=jc 1 L;have x:=ea L 0;have E:=ea L 1;rw[<-f];clear f h L z B C D S T;by_cases H:n2=0
 ·subst H
  go_wp2_with(go_at_call 78;fail)
  obtain⟨J,K⟩:=wk (y:=(n1,none)) (p:=none) (l:=0) (c:=0) I t.out.1 t.out.2 rfl;refine bodyPost_ret (wd Tryz.results82 _ _ w.heap.size _ _ rfl J) rfl ?_;rw[<-A0.out,N.out,ft (vk M.out.2),M.out.1];exact K
 ·have hd:(n2 !=0)=true:=by simpa using H
  have O:=jI H;clear H
  go_wp2_with(go_at_call 78;refine(eQ _ _).mono ?_;rintro e w' ⟨rfl,rfl⟩)
  refine⟨rfl,?_⟩;rw[<-A0.out,N.out,gS (vh M.out.2 O.out)];exact wj t.out.1 t.out.2
theorem Hq{w0:jW}{P:Nat}{a:jU}{w:jW}{r:Rs}{d:Nat}(f:Sm w0 P a w r d){x:Option Nat}{p:jO}{l c:Nat}(g:pA r.ab x (jL p l c))(i:Int):
  ((i<0\/((ie r.s x).length:Int)<=i)/\∀W,aA 81 #[jL p l c,jV i] W λe w'=>e=kz 3/\w'=W)\/
  (∃b n j,x=some j/\r.ab[j]?=some (b,n)/\¬(i<0\/((ie r.s x).length:Int)<=i)/\0<=i/\i<n/\n<=40/\w.cell? (jB b i.toNat)=some (jV ((ie r.s x).getD i.toNat 0))/\w.frozen? (jB b i.toNat)=false/\∀W,aA 81 #[jL p l c,jV i] W λe w'=>e=jR (jQ (some (jB b i.toNat)))/\w'=W):=by
 have k:=vU f g;cases x with
 |none=>
  injection g with h1 h2 h3;subst h1 h2 h3
  left
  refine⟨?_,λW=>qq i W⟩;show i<0\/(0:Int)<=i;omega
 |some j=>
  obtain⟨b,n,m,o⟩:=g;injection o with o g3 g4;subst o g3 g4;obtain⟨ll,q,t,u,v⟩:=f.arr j b c m;have e:ie r.s (some j)=ll:=by show r.s.hp.getD j []=ll;rw[aU,q];rfl
  by_cases h:i<0\/(c:Int)<=i
  ·left
   refine⟨by rw[k];exact h,λW=>(n7 b c c i W u).mono ?_⟩;rintro e w' ⟨⟨_,rfl⟩|⟨y,z,rfl⟩,rfl⟩
   ·exact⟨rfl,rfl⟩
   ·omega
  ·right
   refine⟨b,c,j,rfl,m,by rw[k];exact h,by omega,by omega,u,?_,ea v _,λW=>(n7 b c c i W u).mono ?_⟩
   ·rw[e];refine eo v ?_;have:i.toNat<ll.length:=by omega
    simp[fI,aI this]
   ·rintro e w' ⟨⟨y,rfl⟩|⟨y,z,rfl⟩,rfl⟩
    ·omega
    ·exact⟨rfl,rfl⟩
theorem Sp{q:Option Nat}{i:Int}{s:Sg}(h:i<0\/((ie s q).length:Int)<=i):lQ q i s= .error (3,s.out):=if_pos h
theorem Sq{q:Option Nat}{i:Int}{s:Sg}(h:¬(i<0\/((ie s q).length:Int)<=i)):lQ q i s= .ok ((ie s q).getD i.toNat 0,s):=if_neg h
theorem Lp{X:Mx}(f:oU X){s:Ms}{b o:Nat}(h:g8 X.wc b o s)(hc:s.code=11){g d i:Nat}{w:jW}{r:Rs}{own:List Vl}(t:Sm X.w0 X.P X.fv w r d)(u:nO w i r.ab own)(y:0<=s.a/\s.a<own.length)(z:0<=s.b/\s.b<own.length)(hk:own.length<=1000000):
  aA 82 (KX X b o i own.length) w (ur X w r d (eI X.fs g d s own r.s)):=by
 have B:=eF (A:=zv) (f.cell t h.c0);have C:=eF (A:=zv) (f.cell t h.c2);have D:=eF (A:=zv) (f.cell t h.c3);rw[hc]at B;obtain⟨q,-,E,F⟩:=u.get y.1 y.2;obtain⟨p,l,c,rfl⟩:=pJ F;obtain⟨H,I,-,-⟩:=u.get z.1 z.2;have J:=jI t;have K:Hid (Sm X.w0 X.P X.fv (w.alloc zv) r d):=t.below (eL _ _);obtain⟨ia,L⟩:∃ia:Nat,s.a=ia:=⟨s.a.toNat,by omega⟩;obtain⟨ib,M⟩:∃ib:Nat,s.b=ib:=⟨s.b.toNat,by omega⟩;obtain⟨k,N⟩:∃k,own.length=k:=⟨_,rfl⟩;have O:ia<k:=by omega
 have Q:ib<k:=by omega
 obtain⟨m,S⟩:∃m,(pl own s.b).1=m:=⟨_,rfl⟩;obtain⟨x,T⟩:∃x,(pl own s.a).2=x:=⟨_,rfl⟩;rw[T]at F;rw[S]at I;rw[L]at C E;rw[M]at D I;rw[aR]at E I;have U:=eF (A:=zv) E;have V:=eF (A:=zv) I;have Y:Hid (eI X.fs g d s own r.s=(gb (lQ x m) λn=>gp (n,none)) r.s):=by rw[<-T,<-S];exact dW (Sa hc) _
 have Z:=Hq K F m;show aA 82 #[ptr X.P,jQ (some (jB b o)),jL (some (jA i)) own.length own.length] w _;generalize B:ur X w r d (eI X.fs g d s own r.s)=G;have H:=jI B;rw[N];rw[N]at hk;clear t h hc f B y z E I L M N u S T F;have O:Hid (∀W,aA 81 #[jL p l c,jV m] W λe w'=>(((m<0\/((ie r.s x).length:Int)<=m)/\e=kz 3)\/(∃Q C v,(¬(m<0\/((ie r.s x).length:Int)<=m)/\(ie r.s x).getD m.toNat 0=v)/\(w.alloc zv).cell? (jB Q C)=some (jV v)/\e=jR (jQ (some (jB Q C)))))/\w'=W):=λW=>by
  rcases Z with⟨h1,D⟩|⟨Q,n,j,-,-,h1,h2,U,V,i,-,D⟩
  ·refine(D W).mono ?_;rintro e w' ⟨rfl,rfl⟩;exact⟨.inl ⟨h1,rfl⟩,rfl⟩
  ·refine(D W).mono ?_;rintro e w' ⟨rfl,rfl⟩;exact⟨.inr ⟨Q,m.toNat,_,⟨h1,rfl⟩,i,rfl⟩,rfl⟩
 have f:Hid (∀W,Below (w.alloc zv).heap.size (w.alloc zv) W->(m<0\/((ie r.s x).length:Int)<=m)->G (kz 3) W):=λW z h1=>by
  rw[<-H.out,Y.out,gS (Sp h1)];exact wj (K.below z) (Fz.below z)
 have h:Hid (∀v A W,(¬(m<0\/((ie r.s x).length:Int)<=m)/\(ie r.s x).getD m.toNat 0=v)->Below (w.alloc A).heap.size (w.alloc A) W->G (jR (uF v jS)) W):=λv A W h1 z=>by
  rw[<-H.out,Y.out,ft (Sq h1.1),h1.2];have t:=(eL w A).trans (z.mono (eL w A).size);exact⟨r,d,J.below t,Fz.below t,.inl ⟨(v,none),none,0,0,rfl,rfl,rfl,rfl⟩⟩
 clear Z;go_enter Tryz.func82,Tryz.ntmps82
 go_wp2_with fail
 go_region_with(go_at_call 81;refine(O _).mono ?_;rintro e u ⟨⟨h1,rfl⟩|⟨Q,C,v,h1,i,rfl⟩,rfl⟩;exact⟨rfl,f _ (by repeat first|exact aJ _ _|refine bF ?_) h1⟩;have y:Hid (¬(m<0\/((ie r.s x).length:Int)<=m)/\(ie r.s x).getD m.toNat 0=v):=h1;clear h1)
 all_goals
  go_wp2;refine bodyPost_ret (v:=uF v jS) (by simp[results,Tryz.results82,go_sem]) rfl ?_
  exact h v _ _ y (by repeat first|exact aJ _ _|refine bF ?_)
theorem LB:(Tryz.prog.info? 179).map (λi=>(i.zero,i.size,i.bytes))=some (some (.agg #[jV 0,jS]),2,32):=by kernel_rfl
def zs:Nat->jE
 |0=>[]
 |n+1=>jV 0::jS::zs n
theorem Ay:∀n,(zs n).length=n*2
 |0=>rfl
 |n+1=>by simp only[zs,aZ,Ay n];omega
theorem wC:∀(n j:Nat),j<n*2->(zs n)[j]?=some (if j%2=0 then jV 0 else jS)
 |0,j,h=>by omega
 |n+1,0,h=>rfl
 |n+1,1,h=>rfl
 |n+1,j+2,h=>by
  show(zs n)[j]?=_;rw[wC n j (by omega),show(j+2)%2=j%2 by omega]
theorem DG(n:Nat):madeCells (Value.agg #[jV 0,jS]).cells (n*2)=(zs n).toArray:=by
 apply cT;apply List.ext_getElem?;intro j;by_cases a:j<n*2
 ·rw[show(zs n).toArray.toList=zs n from rfl,wC n j a];have h2:j%2=0\/j%2=1:=by omega
  show(madeCells #[Value.int .i64 0,jS] (n*2)).toList[j]?=_;rcases h2 with h2|h2<;>simp[madeCells,a,h2]
 ·rw[show(zs n).toArray.toList=zs n from rfl,dw (l:=zs n) (by rw[Ay];omega)];simp[madeCells,a]
theorem LC(n:Nat)(a:n<=1000000)(w:jW):(Instr.makeSlice 122 (jV (n:Int)) (jV (n:Int))).run Tryz.prog w= .ok (jL (some (jA w.heap.size)) n n) (w.alloc (jC (zs n).toArray 179)):=by
 obtain⟨i,b,c,d,e⟩:=info_parts LB;have:=cQ w 122 179 i _ Tryz.underlying122 b c .i64 .i64 (n:Int) (n:Int) (by omega) (by omega) (by rw[d];simp;omega) (by rw[e];omega) (by omega);rw[d]at this;simp only[aR,DG]at this;exact this
def UH(k:Nat)(w:jW)(e:Ending)(w':jW):Prop:=∃A,e=jR (jL (some ⟨w.heap.size+1,0,none⟩) k k)/\w'=(w.alloc A).alloc (jC (zs k).toArray 179)
theorem uY{fb a:Nat}{F:Mf}{mv:jU}(w:jW){q:jO}{c:Nat}(h:w.cell? (jB fb (a+2))=some (jL q F.types.length c))(hk:F.types.length<=1000000)(b:Nat)(d:mv= .map (some b)):
  aA 51 #[.agg #[jQ (some (jB fb a)),mv]] w (UH F.types.length w):=by
 subst d;obtain⟨k,e⟩:∃k,F.types.length=k:=⟨_,rfl⟩;rw[e]at h hk⊢;have h1:=eF (A:=jC #[jQ (some (jB fb a)),.map (some b)] 120) h;have f:=LC k hk;clear e h;go_enter Tryz.func51,Tryz.ntmps51;go_wp2;go_ret;exact⟨_,rfl,rfl⟩
def QT(w:jW)(a:Nat)(l:List Ms):Prop:=∀W,(∀b,b<w.heap.size->W.heap[b]?=w.heap[b]?)->∀x,qN x->(Instr.lookup 118 (.map (some a)) (jV x) false).run Tryz.prog W= .ok (jV (((fA l x).getD 0:Nat):Int)) W
abbrev In(F:Mf)(i:Int):Prop:=0<=i/\i<F.types.length
structure Ji (fs:By->Option Mf) (F:Mf) (s:Ms):Prop where
 code:1<=s.code/\s.code<=14
 dst:s.code=1\/s.code=2\/s.code=3\/s.code=7\/s.code=9\/s.code=10\/s.code=11\/s.code=14->In F s.dst
 a:s.code=2\/s.code=3\/s.code=5\/s.code=8\/s.code=9\/s.code=10\/s.code=11\/s.code=12\/s.code=13->In F s.a
 b:s.code=3\/s.code=11\/s.code=12->In F s.b
 c:s.code=12->In F s.c
 goes:s.code=4\/s.code=5->∃k,fA F.steps s.label=some k
 call:s.code=7->∃G,fs s.name=some G/\s.args.length<=G.types.length/\∀x∈s.args,In F x
structure El (X:Mx) (F:Mf) (fb fo mb:Nat):Prop where
 fn:eX X.wc fb fo F
 lab:QT X.wc mb F.steps
 ok:∀s∈F.steps,Ji X.fs F s
 last:∃s,F.steps[F.steps.length-1]?=some s/\(s.code=8\/s.code=4)
abbrev zr:Obj:=jC #[jQ none,.map none] 120
abbrev Iy(fb a b:Nat):jU:= .agg #[jQ (some (jB fb a)),.map (some b)]
structure ux (X:Mx):Prop where
 look:∀nm F,X.fs nm=some F->∃fb fo mb,El X F fb fo mb/\∀W,(∀b,b<X.wc.heap.size->W.heap[b]?=X.wc.heap[b]?)->(Instr.lookup 112 X.fv (jT ⟨nm.toArray⟩) false).run Tryz.prog W= .ok (Iy fb fo mb) W
theorem oU.all{X:Mx}(h:oU X){w:jW}{r:Rs}{d:Nat}(a:Sm X.w0 X.P X.fv w r d):∀b,b<X.wc.heap.size->w.heap[b]?=X.wc.heap[b]?:=λb c=>by
 have h1:=h.size;have h2:=a.lt;rw[a.kp b (by omega) (by omega),h.keep b c]
def fK(fs:By->Option Mf)(g d:Nat)(F:Mf)(o:List Vl):ld Int:=if 40<=d then gt 5 else iK fs g (d+1) F 0 o
def SM(X:Mx)(w:jW)(r:Rs)(d a:Nat)(x:Except (Int×List Int) (Int×Sg))(e:Ending)(w':jW):Prop:=
 ∃c f,Sm X.w0 X.P X.fv w' c f/\Fz X.P (λb=>b=a) w r w' c/\((∃n,f=d/\x= .ok (n,c.s)/\e=jR (jV n))\/(∃k,x= .error (k,c.s.out)/\e=kz k))
def uy(X:Mx)(g:Nat):Prop:=∀(F:Mf)(fb a b:Nat),El X F fb a b->∀(w:jW)(r:Rs)(d c:Nat)(o:List Vl),Sm X.w0 X.P X.fv w r d->nO w c r.ab o->o.length=F.types.length->X.w0.heap.size<=c->(∀out,fK X.fs g d F o r.s≠.error (99,out))->
 aA 50 #[ptr X.P,Iy fb a b,jL (some (jA c)) o.length o.length] w (SM X w r d c (fK X.fs g d F o r.s))
theorem Fz.drop{P:Nat}{E:Nat->Prop}{w w':jW}{r r':Rs}(h:Fz P E w r w' r')(a:∀b,E b->w.heap.size<=b):Fz P iL w r w' r':=
 ⟨h.os,h.tape,h.output,h.size,λb c d _=>h.blk b c d (λe=>by have:=a b e;omega),h.pre,h.new⟩
theorem wT{cs:jE}{i:Nat}{a b:jU}(j:Nat):((cs.set (i*2) a).set (i*2+1) b)[j]?=if j=i*2+1 then(if j<cs.length then some b else none) else if j=i*2 then(if j<cs.length then some a else none) else cs[j]?:=by
 by_cases h1:j=i*2+1
 ·subst h1;rw[if_pos rfl,dm];simp
 ·have c:¬i*2+1=j:=λe=>h1 e.symm;rw[if_neg h1,dm,if_neg c,dm];by_cases h2:j=i*2
  ·subst h2;simp
  ·have d:¬i*2=j:=λe=>h2 e.symm;rw[if_neg h2,if_neg d]
theorem nO.put{w:jW}{a:Nat}{b:List (Nat×Nat)}{l:List Vl}(h:nO w a b l){i:Nat}(c:i<l.length){x:Vl}{q:jU}(d:pA b x.2 q):nO ((w.setCell (jB a (i*2)) (jV x.1)).setCell (jB a (i*2+1)) q) a b (l.set i x):=by
 obtain⟨cs,hc,f,g⟩:=h;refine⟨(cs.set (i*2) (jV x.1)).set (i*2+1) q,?_,by simp[f],λj y k=>?_⟩
 ·rw[aH _ _ _ _ _ _ (aH _ _ _ _ _ _ hc)];simp
 ·rw[dm]at k;rw[wT,wT];by_cases e:i=j
  ·subst e;rw[if_pos rfl,if_pos c]at k;injection k with k;subst k;refine⟨q,?_,?_,d⟩
   ·rw[if_neg (by omega),if_pos rfl,if_pos (by omega)]
   ·rw[if_pos rfl,if_pos (by omega)]
  ·rw[if_neg e]at k;obtain⟨m,n,o,p⟩:=g j y k;refine⟨m,?_,?_,p⟩
   ·rw[if_neg (by omega),if_neg (by omega)];exact n
   ·rw[if_neg (by omega),if_neg (by omega)];exact o
theorem nO.free{w:jW}{a:Nat}{b:List (Nat×Nat)}{l:List Vl}(h:nO w a b l)(i:Nat):w.frozen? (jB a i)=false:=by
 obtain⟨cs,hc,_⟩:=h;exact ea hc i
def Em(G:Mf)(o:List Vl)(l:List Int)(i:Nat):List Vl:=((l.take i).map (pl o))++List.replicate (G.types.length-i) (0,none)
theorem AL{G:Mf}{o:List Vl}{l:List Int}{i:Nat}(h:i<=l.length)(h2:l.length<=G.types.length):(Em G o l i).length=G.types.length:=by
 simp[Em];omega
theorem Jj{G:Mf}{o:List Vl}{l:List Int}{i:Nat}{a:Int}(h:l[i]?=some a)(h2:l.length<=G.types.length):(Em G o l i).set i (pl o a)=Em G o l (i+1):=by
 have b:i<l.length:=(aK.1 h).1;have e:l[i]=a:=(aK.1 h).2;unfold Em;rw[show G.types.length-i=(G.types.length-(i+1))+1 by omega,dE,List.set_append_right _ _ (by simp;omega),List.take_succ_eq_append_getElem b,e];simp[dC (aL b)]
theorem AO{G:Mf}{o:List Vl}{l:List Int}:Em G o l l.length=theirs G o l:=by
 unfold Em theirs;rw[cx]
theorem En(w:jW)(a:Nat)(b:List (Nat×Nat))(n:Nat)(h:w.heap[a]?=some (jC (zs n).toArray 179)):nO w a b (List.replicate n (0,none)):=by
 refine⟨zs n,h,by rw[Ay];simp,λi x c=>?_⟩;have d:i<n:=by have:=(aK.1 c).1;simpa using this
 have e:x=(0,none):=by rw[dl,if_pos d]at c;injection c with c;exact c.symm
 subst e;refine⟨jS,?_,?_,rfl⟩
 ·rw[wC n _ (by omega),if_pos (by omega)]
 ·rw[wC n _ (by omega),if_neg (by omega)]
theorem S_{fs:By->Option Mf}{g d:Nat}{s:Ms}{o:List Vl}{G:Mf}(h:s.code=7)(a:fs s.name=some G):eI fs g d s o=gb (fK fs g d G (theirs G o s.args)) λn=>gp (n,none):=by
 unfold eI fK;simp only[h,a];by_cases hd:40<=d
 ·simp[hd];rfl
 ·simp[hd]
theorem Jk{X:Mx}(hX:oU X)(hF:ux X){F:Mf}{s:Ms}{b o:Nat}(H:g8 X.wc b o s)(A6:Ji X.fs F s)(hc:s.code=7){g d ob:Nat}(hC:uy X g){w:World}{r:Rs}{own:List Vl}(hs:Sm X.w0 X.P X.fv w r d)(ho:nO w ob r.ab own)(hl:own.length=F.types.length)(hk:own.length<=1000000)(A0:∀out,eI X.fs g d s own r.s≠.error (99,out)):
  aA 82 (KX X b o ob own.length) w (ur X w r d (eI X.fs g d s own r.s)):=by
 obtain⟨G,hG,B2,A8⟩:=A6.call hc;obtain⟨fb,S,L,hR,m⟩:=hF.look _ _ hG;rw[S_ hc hG]at A0⊢;have c0:=eF (A:=zv) (hX.cell hs H.c0);have c8:=eF (A:=zv) (hX.cell hs H.c8);rw[hc]at c0;have p0:(w.alloc zv).cell? ⟨X.P,0,none⟩=some X.fv:=eF (jc 0 hs.pb);have HS:=jI hs;have T:Hid (Sm X.w0 X.P X.fv (w.alloc zv) r d):=hs.below (eL _ _);obtain⟨y,hy⟩:∃y:ByteArray,(⟨s.name.toArray⟩:ByteArray)=y:=⟨_,rfl⟩;rw[hy]at c8 m;have C4:=m (w.alloc zv).drew (λb J=>hX.all T.out b J);have C9:=m ((w.alloc zv).alloc zr).drew (λb J=>hX.all (T.below (eL _ zr)) b J);have C8:=eF (A:=zr) c8;have B9:=eF (A:=zr) p0;have HX:=jI hX;have HR:=jI hR;have D:Hid (nO w ob r.ab own/\own.length=F.types.length/\(∀x∈s.args,In F x)/\s.args.length<=G.types.length):=⟨ho,hl,A8,B2⟩;obtain⟨C7,HC,C1⟩:=j3 H hC ((fP A0).1);show aA 82 #[ptr X.P,.pointer (some ⟨b,o,none⟩),.slice (some ⟨ob,0,none⟩) own.length own.length] w _;obtain⟨k,f⟩:∃k,own.length=k:=⟨_,rfl⟩;have HK:=jI f;generalize A9:ur X w r d (gb (fK X.fs g d G (theirs G own s.args)) (λn=>gp (n,none)) r.s)=GG;have HG:=jI A9;rw[f];rw[f]at hk;clear hs H hc hX hF A6 hC ho hl A0 hG B2 A8 hR m hy f A9;go_enter Tryz.func82,Tryz.ntmps82
 go_wp2_with fail
 go_region
 all_goals
  obtain⟨W3,B⟩:=aB (((w.alloc zv).alloc (.cells #[.pointer (some ⟨fb,S,none⟩),.map (some L)] 120)).drew);have z:Below (w.alloc zv).heap.size (w.alloc zv) W3:=by rw[B];exact(eL _ _).drew
  have A7:W3.heap.size=w.heap.size+2:=by rw[B];simp
  have i9:W3.heap[w.heap.size+1]?=some (.cells #[.pointer (some ⟨fb,S,none⟩),.map (some L)] 120):=by
   have e:(w.alloc zv).heap.size=w.heap.size+1:=by simp
   rw[<-e,B];exact heap_alloc_last (w.alloc zv) _
  rw[<-B];clear B C4 C9 c8 C8 p0 B9 c0;have d0:=jc 0 i9;have d1:=jc 1 i9;have Z:=jI (T.below z);obtain⟨vt,A3,qt,ct,rfl,-,-,-⟩:=HR.fn.c2;have B4:Hid (aA 51 #[Iy fb S L] W3 (UH G.types.length W3)):=uY W3 (HX.cell Z.out A3) HR.fn.i2.2.1 L rfl;clear A3
  go_wp2_with(go_at_call 51;fail)
  refine B4.mono ?_;rintro e W4 ⟨A,rfl,Y⟩;have C:az W3 W4:=by rw[Y];exact(eL _ _).trans ((eL (W3.alloc A) _).mono (eL W3 A).size)
  obtain⟨tb,O⟩:∃tb,W3.heap.size+1=tb:=⟨_,rfl⟩;obtain⟨kt,u⟩:∃kt,G.types.length=kt:=⟨_,rfl⟩;have A4:W4.heap[tb]?=some (.cells (zs kt).toArray 179):=by
   have e:(W3.alloc A).heap.size=tb:=by simp;omega
   rw[Y,<-e,u];exact heap_alloc_last (W3.alloc A) _
  have M:Hid (W3.heap.size+1=tb/\W3.heap.size=w.heap.size+2/\G.types.length=kt/\kt<=1000000):=⟨O,A7,u,by have:=HR.fn.i2.2.1;omega⟩;have D2:=jI (Z.below C);have C0:Hid (Below (w.alloc zv).heap.size (w.alloc zv) W4/\W4.heap[w.heap.size+1]?=some (.cells #[.pointer (some ⟨fb,S,none⟩),.map (some L)] 120)):=⟨z.trans (C.mono z.size),by rw[C.block _ (by omega)];exact i9⟩;have B8:Hid (nO W4 tb r.ab (Em G own s.args 0)):=by
   have:=En W4 tb r.ab kt A4;show nO W4 tb r.ab _;unfold Em;simpa[u] using this
  obtain⟨va,A5,qa,ca,rfl,C5,-,B1⟩:=C7.c9;have a9:=HX.cell D2.out A5;have C3:=jI B1;obtain⟨n,hn⟩:∃n,s.args.length=n:=⟨_,rfl⟩;have HN:=jI hn;rw[hn]at a9 C5;rw[O,u];have N:Hid (az W3 W4/\Below (w.alloc zv).heap.size (w.alloc zv) W3):=⟨C,z⟩;clear Y C z A7 i9 d0 d1 B4 A4 O u B1 A5 hn
  go_wp2_with fail
  go_loopw [74] (λv wr=>∃i:Nat,i<=n/\v= .int .i64 i/\Hid (nO wr tb r.ab (Em G own s.args i))/\Hid (Below tb W4 wr)) (λv _=>n-(intOf v).toNat)
  case atStart=>exact⟨0,aQ _,rfl,B8,aJ _ _⟩
  case round=>
   obtain⟨i,D4,rfl,HI,HB⟩:=hrel;have A2:Hid (az W3 wr):=by
    have h1:=N.out.1;have h2:=HB.out;have h3:=M.out.1;exact h1.trans (h2.mono (by omega))
   have A1:=jI (Z.below A2.out);have U:=jI (N.out.2.trans (A2.mono N.out.2.size));have I:wr.heap[w.heap.size+1]?=some (.cells #[.pointer (some ⟨fb,S,none⟩),.map (some L)] 120):=by
    rw[HB.block _ (by have:=M.out;omega)];exact C0.out.2
   by_cases D3:i<n
   ·have B6:=HN.out;obtain⟨x,hx⟩:∃x,s.args[i]?=some x:=⟨s.args[i]'(by omega),aI (by omega)⟩;have t:=D.out.2.2.1 x (aM hx);obtain⟨ga,oa,rfl,E⟩:∃g o,qa=some ⟨g,o,none⟩/\∀j x,s.args[j]?=some x->X.wc.cell? ⟨g,o+j,none⟩=some (.int .i64 x):=by
     rcases C3.out with h|h
     ·rw[h]at hx;simp at hx
     ·exact h
    have q1:=HX.cell A1.out (E i x hx);obtain⟨ix,D1⟩:∃ix:Nat,x=ix:=⟨x.toNat,by omega⟩;have D5:ix<k:=by have:=HK.out;have:=D.out.2.1;have:=t.2;omega
    have B3:nO wr ob r.ab own:=D.out.1.mono (by
     have h1:=D.out.1.lt;rw[U.block ob (by simp;omega),ed h1]) aN
    obtain⟨qv,u1,u2,u3⟩:=B3.get t.1 (by rw[D.out.2.1];exact t.2);obtain⟨p5,l5,c5,rfl⟩:=pJ u3;obtain⟨nv,W⟩:∃nv,(pl own x).1=nv:=⟨_,rfl⟩;rw[W]at u1;have a:=AL (o:=own) (i:=i) (by omega:i<=s.args.length) D.out.2.2.2;obtain⟨qo,v1,v2,-⟩:=HI.get (i:=(i:Int)) (by omega) (by rw[a];have:=D.out.2.2.2;omega);rw[aR]at v1 v2;have v3:=HI.free (i*2);have v4:=HI.free (i*2+1);have D6:i<kt:=by have:=M.out.2.2.1;have:=D.out.2.2.2;omega
    have B5:Hid (nO ((wr.setCell ⟨tb,i*2,none⟩ (.int .i64 nv)).setCell ⟨tb,i*2+1,none⟩ (.slice p5 l5 c5)) tb r.ab (Em G own s.args (i+1))):=by
     have:=HI.put (i:=i) (x:=pl own x) (q:= .slice p5 l5 c5) (by rw[a];have:=D.out.2.2.2;omega) u3;rw[Jj hx D.out.2.2.2,W]at this;exact this
    have C2:Hid (Below tb W4 ((wr.setCell ⟨tb,i*2,none⟩ (.int .i64 nv)).setCell ⟨tb,i*2+1,none⟩ (.slice p5 l5 c5))):=by
     have h:=HB.out;exact⟨h.os,h.tape,h.output,by simp;exact h.size,λb J=>by rw[aG _ _ _ _ (by show b≠tb;omega),aG _ _ _ _ (by show b≠tb;omega)];exact h.block b J⟩
    subst D1;rw[aR]at u1 u2;clear hx t E B3 u3 W a I B6;go_wp2;exact⟨⟨i+1,by omega,by go_num,B5,C2⟩,by simp[intOf];omega⟩
   ·have B0:i=s.args.length:=by have:=HN.out;omega
    have B7:Hid (nO wr tb r.ab (theirs G own s.args)):=by have:=HI.out;rw[B0,AO]at this;exact this
    have a:(theirs G own s.args).length=kt:=by rw[<-AO,AL (aD _) D.out.2.2.2];exact M.out.2.2.1
    have d0:=jc 0 I;have d1:=jc 1 I;have D0:Hid (aA 50 #[ptr X.P,Iy fb S L,.slice (some ⟨tb,0,none⟩) kt kt] wr (SM X wr r d tb (fK X.fs g d G (theirs G own s.args) r.s))):=by
     have:=HC.out G fb S L HR.out wr r d tb (theirs G own s.args) A1.out B7.out (by rw[a];exact M.out.2.2.1.symm) (by have:=HS.le;have:=M.out;omega) C1.out;rw[a]at this;exact this
    clear B0 a I a9
    go_wp2_with(go_at_call 50;fail)
    refine D0.mono ?_;rintro e w5 ⟨r5,d5,h5,V,⟨n5,rfl,K,rfl⟩|⟨k5,K,rfl⟩⟩
    ·have Q:Hid (Sm X.w0 X.P X.fv w5 r5 d5/\Fz X.P iL (w.alloc zv) r w5 r5):=⟨h5,((Fz.below U.out).trans V).drop (λb J=>by subst J;have:=M.out;simp;omega)⟩;have C6:=jI K;have f:=(fZ HS.out Q.out.2).1;have b1:=jc 0 f;have b2:=jc 1 f;have b3:=ea f 0;have b4:=ea f 1;clear h5 V K f d0 d1;go_wp2;obtain⟨e1,e2⟩:=wk (y:=(n5,none)) (p:=none) (l:=0) (c:=0) HS.out Q.out.1 Q.out.2 rfl
     refine bodyPost_ret (wd Tryz.results82 _ _ w.heap.size _ _ rfl e1) rfl ?_;rw[<-HG.out,ft C6.out];exact e2
    ·refine⟨rfl,?_⟩;rw[<-HG.out,gS K];exact wj h5 (((Fz.below U.out).trans V).drop (λb J=>by subst J;have:=M.out;simp;omega))
structure Wr where
 ts:List Int
 ss:List Ms
 nm:List (By×Nat)
 sp1:List Nat
 sp2:List Nat
 u1:Nat
 u2:Nat
 no:Option Nat
 lb:Nat
abbrev Lm(α:Type):=Wr->Option (α×Wr)
def lp{α:Type}(a:α):Lm α:=λw=>some (a,w)
def lb{α β:Type}(x:Lm α)(f:α->Lm β):Lm β:=λw=>
 match x w with
 |none=>none
 |some (a,w1)=>f a w1
def ln{α:Type}:Lm α:=λ_=>none
def fd:Ms:=⟨0,0,0,0,0,0,[],0,[],[]⟩
def kh(x:Int):Bool:=decide (-9223372036854775808<=x)&&decide (x<=9223372036854775807)
def yc(s:Ms):Bool:=kh s.code&&kh s.dst&&kh s.a&&kh s.b&&kh s.c&&kh s.n&&kh s.label&&decide (s.op.length<=1000)&&decide (s.name.length<=1000)&&decide (s.args.length<=100000)&&s.args.all kh
def gX(s:Ms):Lm Unit:=λw=>if decide (w.ss.length<100000)&&yc s then some ((),{w with ss:=w.ss++[s]}) else none
def h9(k:Int):Lm Nat:=λw=>if decide (w.ts.length<100000)&&kh k then some (w.ts.length,{w with ts:=w.ts++[k]}) else none
def h_:Lm Nat:=λw=>
 if w.u1=w.sp1.length then(if w.ts.length<100000 then some (w.ts.length,{w with ts:=w.ts++[1],sp1:=w.sp1++[w.ts.length],u1:=w.u1+1}) else none)
 else match w.sp1[w.u1]? with
  |some p=>some (p,{w with u1:=w.u1+1})
  |none=>none
def rz:Lm Nat:=λw=>
 if w.u2=w.sp2.length then(if w.ts.length<100000 then some (w.ts.length,{w with ts:=w.ts++[2],sp2:=w.sp2++[w.ts.length],u2:=w.u2+1}) else none)
 else match w.sp2[w.u2]? with
  |some p=>some (p,{w with u2:=w.u2+1})
  |none=>none
def nX(k:Int):Lm Nat:=if k=2 then rz else if k=1 then h_ else ln
def lB(a b:Nat):Lm Unit:=λw=>some ((),{w with u1:=a,u2:=b})
def kO:Lm Nat:=λw=>
 match w.no with
 |some p=>some (p,w)
 |none=>if w.ts.length<100000 then some (w.ts.length,{w with ts:=w.ts++[1],no:=some w.ts.length}) else none
def gY:Lm Nat:=λw=>if w.lb<100000 then some (w.lb+1,{w with lb:=w.lb+1}) else none
def nG(l:List (By×Nat))(x:By):Nat:=(l.lookup x).getD 0
def iH(x:By):Lm Nat:=λw=>if x.length<=1000 then some (nG w.nm x,w) else none
def lJ(x:By)(p:Nat):Lm Unit:=λw=>if w.nm.length<100000/\x.length<=1000/\p<100000 then some ((),{w with nm:=(x,p)::w.nm}) else none
def kQ(c:Int)(x:By):Lm Int:=λw=>if c=2 then(if x.length<=1000 then(match w.ts[nG w.nm x]? with|some k=>some (k,w)|none=>none) else none) else some (if c=6 then 2 else 1,w)
def pV(s:Ms)(p:Nat):Lm Nat:=if s.code=2/\s.a=(p:Int) then lp p else lb (gX {s with dst:=(p:Int)}) λ_=>lp p
def jt(l:Nat):Lm Unit:=gX {fd with code:=6,label:=l}
def lK(a:Tr->Lm Nat):List Tr->Lm (List Int)
 |[]=>lp []
 |x::xs=>lb (a x) λp=>lb (lK a xs) λb=>lp ((p:Int)::b)
def mf:Tr->List Tr
 | .slice [x] [g]=>x::mf g
 |_=>[]
structure Lf where
 V:Tr->Lm Nat
 L:Tr->Lm Ms
 U:Tr->Nat->Lm Unit
 W:Tr->Nat->Lm Unit
def lW(b:Tr->Nat->Lm Unit)(t:Tr):Lm Ms:=lb h_ λp=>lb gY λe=>lb (gX {fd with code:=1,dst:=p}) λ_=>lb (b t e) λ_=>lb (gX {fd with code:=1,dst:=p,n:=1}) λ_=>lb (jt e) λ_=>lp {fd with code:=2,a:=p}
def tj(F:Lf)(t:Tr)(op:By)(l r:Tr):Lm Ms:=if op=[38,38]\/op=[124,124] then lW F.U t else lb (F.V l) λx=>lb (F.V r) λy=>lp {fd with code:=3,op:=op,a:=x,b:=y}
def ye(F:Lf)(op:By)(l:Tr):Lm Ms:=lb (F.V l) λx=>lb kO λz=>lp (if op=[45] then{fd with code:=3,op:=[45],a:=z,b:=x} else{fd with code:=3,op:=[61,61],a:=x,b:=z})
def qZ(F:Lf):Tr->Lm Nat
 | .agg [.lit (.int b c),.lit (.int d a),.lit (.int e n),.lit (.string nm),.lit (.string f),l,r,xs]=>
  if c=2 then iH nm
  else λw=>(lb (F.L (.agg [.lit (.int b c),.lit (.int d a),.lit (.int e n),.lit (.string nm),.lit (.string f),l,r,xs])) λs=>lb (lB w.u1 w.u2) λ_=>lb (kQ c nm) λk=>lb (nX k) λp=>pV s p) w
 |_=>ln
def ki(F:Lf):Tr->Lm Ms
 | .agg [.lit (.int d c),.lit (.int e a),.lit (.int f n),.lit (.string nm),.lit (.string g),l,r,xs]=>
  if c=2 then lb (iH nm) λp=>lp {fd with code:=2,a:=p}
  else if c=3 then tj F (.agg [.lit (.int d c),.lit (.int e a),.lit (.int f n),.lit (.string nm),.lit (.string g),l,r,xs]) g l r
  else if c=4 then ye F g l
  else if c=5 then lb (lK F.V (mf xs)) λh=>lp {fd with code:=7,name:=nm,args:=h}
  else if c=6 then lb (F.V l) λx=>lp {fd with code:=9,a:=x}
  else if c=7 then lb (F.V l) λx=>lp {fd with code:=10,a:=x}
  else if c=8 then lb (F.V l) λx=>lb (F.V r) λy=>lp {fd with code:=11,a:=x,b:=y}
  else if c=9 then lp {fd with code:=14}
  else lp {fd with code:=1,n:=n}
 |_=>ln
def tq(F:Lf):Tr->Nat->Lm Unit
 | .agg [.lit (.int b c),.lit (.int d a),.lit (.int f n),.lit (.string nm),.lit (.string g),l,r,xs],e=>λw=>
  (lb (if c=4/\g=[33] then F.W l e
   else if c=3/\g=[38,38] then lb (F.U l e) λ_=>F.U r e
   else if c=3/\g=[124,124] then lb gY λh=>lb (F.W l h) λ_=>lb (F.U r e) λ_=>jt h
   else lb (F.V (.agg [.lit (.int b c),.lit (.int d a),.lit (.int f n),.lit (.string nm),.lit (.string g),l,r,xs])) λp=>gX {fd with code:=5,a:=p,label:=e}) λ_=>lB w.u1 w.u2) w
 |_,_=>ln
def tu(F:Lf):Tr->Nat->Lm Unit
 | .agg [.lit (.int d c),.lit (.int f a),.lit (.int g n),.lit (.string nm),.lit (.string op),l,r,xs],e=>λw=>
  (lb (if c=4/\op=[33] then F.U l e
   else if c=3/\op=[124,124] then lb (F.W l e) λ_=>F.W r e
   else if c=3/\op=[38,38] then lb gY λh=>lb (F.U l h) λ_=>lb (F.W r e) λ_=>jt h
   else lb (F.V (.agg [.lit (.int d c),.lit (.int f a),.lit (.int g n),.lit (.string nm),.lit (.string op),l,r,xs])) λp=>lb (lB w.u1 w.u2) λ_=>lb h_ λq=>lb kO λz=>lb (gX {fd with code:=3,op:=[61,61],dst:=q,a:=p,b:=z}) λ_=>gX {fd with code:=5,a:=q,label:=e}) λ_=>lB w.u1 w.u2) w
 |_,_=>ln
def lX(S:Tr->Lm Unit):List Tr->Lm Unit
 |[]=>lp ()
 |x::xs=>lb (S x) λ_=>lb (lB 0 0) λ_=>lX S xs
def pW:Tr->Lm Int
 | .agg [.lit (.int b c),.lit (.int d a),.lit (.int e n),.lit (.string nm),.lit (.string f),l,r,xs]=>kQ c nm
 |_=>ln
def lL(F:Lf)(p:Nat)(t:Tr):Lm Nat:=lb (F.L t) λs=>pV s p
def lM(F:Lf)(S:Tr->Lm Unit)(v:Tr)(a el:List Tr):Lm Unit:=lb gY λo=>lb (F.U v o) λ_=>lb (lX S a) λ_=>
 if el=[] then jt o else lb gY λe=>lb (gX {fd with code:=4,label:=e}) λ_=>lb (jt o) λ_=>lb (lX S el) λ_=>jt e
def tA(F:Lf)(S:Tr->Lm Unit)(v:Tr)(b:List Tr):Lm Unit:=lb gY λa=>lb gY λe=>lb (jt a) λ_=>lb (F.U v e) λ_=>lb (lX S b) λ_=>lb (gX {fd with code:=4,label:=a}) λ_=>jt e
def pg(F:Lf)(S:Tr->Lm Unit):Tr->Lm Unit
 | .agg [.lit (.int d c),.lit (.int e a),.lit (.string nm),f,v,g,el]=>
  if c=1 then lb (pW v) λk=>lb (h9 k) λp=>lb (lL F p v) λ_=>lJ nm p
  else if c=2 then lb (iH nm) λp=>lb (lL F p v) λ_=>lp ()
  else if c=3 then lb (F.V f) λi=>lb (F.V v) λx=>lb (iH nm) λp=>gX {fd with code:=12,a:=p,b:=i,c:=x}
  else if c=4 then lM F S v (mf g) (mf el)
  else if c=5 then tA F S v (mf g)
  else if c=6 then lb (F.V v) λp=>gX {fd with code:=8,a:=p}
  else if c=7 then lb (F.V v) λp=>gX {fd with code:=13,a:=p}
  else if c=8 then lb (F.V v) λ_=>lp ()
  else lp ()
 |_=>ln
def DR(F:Lf):Nat->Tr->Lm Unit
 |0=>λ_=>ln
 |g+1=>pg F (DR F g)
def ku:List (By×Int)->Lm Unit
 |[]=>lp ()
 |p::a=>lb (h9 p.2) λk=>lb (lJ p.1 k) λ_=>ku a
def pX(l:List Ms):Bool:=match l.getLast? with|some s=>s.code==8|none=>false
def Dj:Lm Unit:=λw=>if pX w.ss then some ((),w) else(lb kO λz=>gX {fd with code:=8,a:=z}) w
def uh:Wr:=⟨[],[],[],[],[],0,0,none,0⟩
theorem d_{α c:Type}{x:Lm α}{f:α->Lm c}{w d:Wr}{b:c}(h:lb x f w=some (b,d)):∃a w1,x w=some (a,w1)/\f a w1=some (b,d):=by
 unfold lb at h;cases e:x w with
 |none=>rw[e]at h;cases h
 |some r=>obtain⟨a,w1⟩:=r;rw[e]at h;exact⟨a,w1,rfl,h⟩
def Mp(k:TypeId)(w:jW)(b:Nat)(f:Lit->Option jU)(n:Nat):Prop:=
 ∃a,w.ownsMap Tryz.prog k Rv b n a/\Maps.size a=n/\∀c,(∀z,a.atKey c (.held z)= .held ((f c).getD z))/\Maps.has a c=(f c).isSome
theorem Hg{k:TypeId}{w:jW}{b n:Nat}{D:DataW jU}(h:w.ownsMap Tryz.prog k Rv b n D):w.ownsMap Tryz.prog k Rv b (Maps.size D) D:=by
 obtain⟨a,c,h1,h2,d,rfl⟩:=h;exact⟨a,c,h1,h2,by simp[Maps.size,length_sorted],rfl⟩
theorem Mp.obj{k:TypeId}{w:jW}{b n:Nat}{f:Lit->Option jU}(h:Mp k w b f n):∃a c,w.heap[b]?=some (.map a c):=by
 obtain⟨d,⟨a,c,h1,_⟩,_⟩:=h;exact⟨a,c,h1⟩
theorem Mp.kept{k:TypeId}{w w':jW}{b n:Nat}{f:Lit->Option jU}(h:Mp k w b f n)(hk:w'.heap[b]?=w.heap[b]?):Mp k w' b f n:=by
 obtain⟨a,⟨c,d,h1,h2⟩,e⟩:=h;exact⟨a,⟨c,d,by rw[hk];exact h1,h2⟩,e⟩
theorem Mp.lt{k:TypeId}{w:jW}{b n:Nat}{f:Lit->Option jU}(h:Mp k w b f n):b<w.heap.size:=by
 obtain⟨a,c,h1⟩:=h.obj;exact(aC.1 h1).1
theorem Mp.made(k:TypeId)(w:jW):Mp k (w.alloc (.map #[] 0)) w.heap.size (λ_=>none) 0:=
 ⟨_,World.ownsMap_made w Tryz.prog k Rv,rfl,λa=>⟨λz=>rfl,rfl⟩⟩
theorem Mp.look{k:TypeId}{w:jW}{b n:Nat}{f:Lit->Option jU}{t e:TypeId}(h:Mp k w b f n)(a:Maps.Keyed Tryz.prog k)(c:Tryz.prog.underlying t=some (.map k e)){z:jU}(d:(zeroValue e).run Tryz.prog w= .ok z w){g:jU}{i:Lit}(j:keyOf Tryz.prog k g=some i):
  (Instr.lookup t (.map (some b)) g false).run Tryz.prog w= .ok ((f i).getD z) w:=by
 obtain⟨l,h1,_,m⟩:=h;obtain⟨v,o,p,q⟩:=World.ownsMap.lookup h1 a c d (show Rv z=some (.held z,[]) from rfl) j;rw[(m i).1]at q;unfold Rv at q;simp only[bm,cw,dQ]at q;rw[p,q.1]
theorem Mp.look2{k:TypeId}{w:jW}{b n:Nat}{f:Lit->Option jU}{t e:TypeId}(h:Mp k w b f n)(a:Maps.Keyed Tryz.prog k)(c:Tryz.prog.underlying t=some (.map k e)){z:jU}(d:(zeroValue e).run Tryz.prog w= .ok z w){g:jU}{i:Lit}(j:keyOf Tryz.prog k g=some i):
  (Instr.lookup t (.map (some b)) g true).run Tryz.prog w= .ok (.tuple #[(f i).getD z,.bool (f i).isSome]) w:=by
 obtain⟨l,h1,_,m⟩:=h;obtain⟨v,o,p,q⟩:=World.ownsMap.look_ok h1 a c d (show Rv z=some (.held z,[]) from rfl) j;rw[(m i).1]at q;unfold Rv at q;simp only[bm,cw,dQ]at q;rw[p,q.1,(m i).2]
theorem Mp.len{k:TypeId}{w:jW}{b n:Nat}{f:Lit->Option jU}{t e:TypeId}(h:Mp k w b f n)(a:Tryz.prog.underlying t=some (.map k e))(ty:TypeId):(Builtin.len_ #[t] ty #[.map (some b)]).run Tryz.prog w= .ok (jV n) w:=by
 obtain⟨c,h1,h2,_⟩:=h;rw[h1.len a ty,h2]
theorem Mp.put{k:TypeId}{w:jW}{b n:Nat}{f g:Lit->Option jU}{t e:TypeId}(h:Mp k w b f n)(a:Maps.Keyed Tryz.prog k)(c:Tryz.prog.underlying t=some (.map k e))(d:n<100000000){i:jU}{j:Lit}(l:keyOf Tryz.prog k i=some j)(m:WideAt.IsKeyLit j)(v:jU)
  (o:g j=some v) (p:∀y,y≠j->g y=f y):
  ∃w',(Instr.mapUpdate t (.map (some b)) i v).run Tryz.prog w= .ok () w'/\Mp k w' b g (if(f j).isSome then n else n+1)/\w.grownBy w' (some b):=by
 obtain⟨q,h1,h2,r⟩:=h;obtain⟨w',s,u,x⟩:=World.ownsMap.update h1 a c (by unfold maxLen;omega) l (show Rv v=some (.held v,[]) from rfl);have A:Maps.size (q.put j (.held v))=if(f j).isSome then n else n+1:=by rw[Maps.size_put (h1.tidy a),(r j).2,h2]
 refine⟨w',s,⟨_,?_,A,λy=>?_⟩,x⟩
 ·rw[<-A];exact Hg u
 ·by_cases e:y=j
  ·subst e;refine⟨λz=>?_,?_⟩
   ·rw[Maps.atKey_put_same h1.isMap m,o];rfl
   ·rw[Maps.has_put_same h1.isMap m,o];rfl
  ·refine⟨λz=>?_,?_⟩
   ·rw[Maps.atKey_put_other e,p y e];exact(r y).1 z
   ·rw[Maps.has_put_other e,p y e];exact(r y).2
theorem yF(x:Int)(a:qN x):keyOf Tryz.prog 3 (.int .i64 x)=some (.int .i64 x):=Maps.keyOf_int_mk Tryz.underlying3 (WalkArith.wf_i64 (by have:=a.1;have:=a.2;omega))
theorem rI(x:ByteArray)(a:x.size<=9223372036854775807):keyOf Tryz.prog 9 (.string x)=some (.string x.data.toList):=Go.WideMaps.keyOf_string_mk Tryz.underlying9 (by unfold maxLen;omega)
theorem Sb:Maps.Keyed Tryz.prog 3:=Maps.int_keyed Tryz.underlying3
theorem IM:Maps.Keyed Tryz.prog 9:=Maps.string_keyed Tryz.underlying9
theorem yG:Tryz.prog.underlying 118=some (.map 3 3):=Tryz.underlying118
theorem uT:Tryz.prog.underlying 107=some (.map 9 109):=Tryz.underlying107
theorem tF(w:jW):(zeroValue 3).run Tryz.prog w= .ok (jV 0) w:=by kernel_rfl
theorem Af(w:jW):(zeroValue 109).run Tryz.prog w= .ok (jQ none) w:=by kernel_rfl
def n_(l:List Ms):Lit->Option jU
 | .int .i64 x=>(fA l x).map λ(k:Nat)=>jV (k:Int)
 |_=>none
def gB(l:List Ms):Prop:=((l.filter (λs=>s.code==6)).map (·.label)).Nodup
def CO(s:Ms)(d:jU):jE:=[jV s.code,jV s.dst,jV s.a,jV s.b,jV s.c,jV s.n,jT ⟨s.op.toArray⟩,jV s.label,jT ⟨s.name.toArray⟩,d]
def qV:List Ms->jE->jE
 |s::b,a::c=>CO s a++qV b c
 |_,_=>[]
theorem sJ:∀(b:List Ms)(c:jE)(j:Nat)(s:Ms)(a:jU),b[j]?=some s->c[j]?=some a->∀i,i<10->(qV b c)[j*10+i]?=(CO s a)[i]?
 |s::b,a::c,0,s',d,h,g,i,f=>by
  simp only[bD,bm]at h g;subst h g;show(CO s a++qV b c)[0*10+i]?=_;rw[aW (by have:(CO s a).length=10:=rfl;omega)];congr 1;omega
 |s::b,a::c,j+1,s',d,h,g,i,f=>by
  simp only[bL]at h g;have:=sJ b c j s' d h g i f;have e:(CO s a).length=10:=rfl;show(CO s a++qV b c)[(j+1)*10+i]?=_;rw[aX (by omega),e,show(j+1)*10+i-10=j*10+i by omega];exact this
theorem uG:∀(b:List Ms)(c:jE)(s:Ms)(a:jU),c.length=b.length->qV (b++[s]) (c++[a])=qV b c++CO s a
 |[],[],s,a,_=>by simp[qV]
 |s'::b,d::c,s,a,h=>by
  simp only[dP,qV,uG b c s a (by simpa using h),dn]
def gG(R:Nat->Nat)(w:jW)(v:jU)(l:List Int):Prop:=
 ∃q c,v=jL q l.length c/\(l=[]\/∃g cs,q=some (jA g)/\R g=0/\w.heap[g]?=some (.cells cs 3)/\∀(j:Nat)(x:Int),l[j]?=some x->cs[j]?=some (Value.int .i64 x))
theorem gG.none(R:Nat->Nat)(w:jW):gG R w jS []:=⟨_,_,rfl,.inl rfl⟩
structure Lw (P:Nat) (R R':Nat->Nat) (w w':jW):Prop where
 bel:Below (P-1) w w'
 role:∀b,b<w.heap.size->R' b=R b
 keep:∀b,b<w.heap.size->(R b=0\/7<=R b)->w'.heap[b]?=w.heap[b]?
theorem Lw.refl(P:Nat)(R:Nat->Nat)(w:jW):Lw P R R w w:=⟨aJ _ _,λ_ _=>rfl,λ_ _ _=>rfl⟩
theorem Lw.trans{P:Nat}{R a c:Nat->Nat}{w w1 w2:jW}(h:Lw P R a w w1)(g:Lw P a c w1 w2):Lw P R c w w2:=
 ⟨h.bel.trans g.bel,λb d=>(g.role b (aO d h.bel.size)).trans (h.role b d),λb d e=>(g.keep b (aO d h.bel.size) (by rw[h.role b d];exact e)).trans (h.keep b d e)⟩
theorem gG.kept{P:Nat}{R R':Nat->Nat}{w w':jW}{v:jU}{l:List Int}(h:gG R w v l)(a:Lw P R R' w w'):gG R' w' v l:=by
 obtain⟨q,c,e,h⟩:=h;refine⟨q,c,e,?_⟩;rcases h with h|⟨g,cs,b,d,f,i⟩
 ·exact .inl h
 ·have j:=(aC.1 f).1;exact .inr ⟨g,cs,b,(a.role g j).trans d,(a.keep g j (.inl d)).trans f,i⟩
def Q7:Option Nat->Int
 |none=> -1
 |some p=>p
def TA(l:List (By×Nat)):Lit->Option jU
 | .string x=>(l.lookup x).map λ(p:Nat)=>jV (p:Int)
 |_=>none
abbrev oH(l:List Nat):jE:=l.map λ(p:Nat)=>jV (p:Int)
structure jG (s:Wr):Prop where
 ts:s.ts.length<=100000
 ss:s.ss.length<=100000
 p1:s.sp1.length<=s.ts.length
 p2:s.sp2.length<=s.ts.length
 nm:s.nm.length<=100000
 lb:s.lb<=100000
 u1:s.u1<=100001
 u2:s.u2<=100001
 oks:∀x∈s.ss,yc x=true
 okt:∀x∈s.ts,kh x=true
 s1:∀p∈s.sp1,p<100000
 s2:∀p∈s.sp2,p<100000
 no:∀p,s.no=some p->p<100000
 nms:∀x∈s.nm,x.2<100000
structure Wc (R:Nat->Nat) (w:jW) (P mb:Nat) (tv sv v1 v2:jU) (s:Wr):Prop where
 blk:w.heap[P]?=some (jC #[tv,sv,.map (some mb),jS,v1,v2,jV 0,jV s.u1,jV s.u2,jV (Q7 s.no),jV s.lb] 159)
 t:w.ownsRow P 3 1 tv s.ts.length (fI s.ts)
 st:∃avs,avs.length=s.ss.length/\w.ownsRow P 125 10 sv s.ss.length (qV s.ss avs)/\∀(j:Nat)(x:Ms)(a:jU),s.ss[j]?=some x->avs[j]?=some a->gG R w a x.args
 p1:w.ownsRow P 3 1 v1 s.sp1.length (oH s.sp1)
 p2:w.ownsRow P 3 1 v2 s.sp2.length (oH s.sp2)
 m:∃n,Mp 9 w mb (TA s.nm) n/\n<=s.nm.length
 rP:R P=6
 rt:∀i,tv.ownBlock=some i->R i=1
 rs:∀i,sv.ownBlock=some i->R i=2
 r1:∀i,v1.ownBlock=some i->R i=3
 r2:∀i,v2.ownBlock=some i->R i=4
 rm:R mb=5
 lo:∀b,R b≠0->P-1<=b/\b<w.heap.size
 ok:jG s
def fC(R:Nat->Nat)(w:jW)(P a:Nat)(s:Wr):Prop:=∃b c d e,Wc R w P a b c d e s
theorem vH{w w':jW}{B e z n:Nat}{v:jU}{l:jE}(h:w.ownsRow B e z v n l)(hk:∀i,v.ownBlock=some i->i<w.heap.size->w'.heap[i]?=w.heap[i]?):w'.ownsRow B e z v n l:=fX h (λi a=>hk i a (lT h i a))
section
variable {R R' : Nat → Nat} {w w' : World} {P mb : Nat} {tv sv v1 v2 : Value} {s : Wr}
theorem Wc.ltP(h:Wc R w P mb tv sv v1 v2 s):P<w.heap.size:=(aC.1 h.blk).1
theorem Wc.part(h:Wc R w P mb tv sv v1 v2 s){r:Nat}(hk:∀b,b<w.heap.size->R b≠r->R b≠6->w'.heap[b]?=w.heap[b]?)(c:∀b,b<w.heap.size->R' b=R b)(d:r≠0/\r<=6)(e:Below (P-1) w w'):
  Lw P R R' w w'/\(r≠1->w'.ownsRow P 3 1 tv s.ts.length (fI s.ts))/\(r≠2->∃f,f.length=s.ss.length/\w'.ownsRow P 125 10 sv s.ss.length (qV s.ss f)/\∀(j:Nat)(x:Ms)(a:jU),s.ss[j]?=some x->f[j]?=some a->gG R' w' a x.args)/\(r≠3->w'.ownsRow P 3 1 v1 s.sp1.length (oH s.sp1))/\(r≠4->w'.ownsRow P 3 1 v2 s.sp2.length (oH s.sp2))/\(r≠5->∃n,Mp 9 w' mb (TA s.nm) n/\n<=s.nm.length):=by
 have g:Lw P R R' w w':=⟨e,c,λb e h=>hk b e (by omega) (by omega)⟩;refine⟨g,λk=>?_,λk=>?_,λk=>?_,λk=>?_,λk=>?_⟩
 ·exact vH h.t (λi l o=>hk i o (by rw[h.rt i l];omega) (by rw[h.rt i l];omega))
 ·obtain⟨f,p,q,u⟩:=h.st;exact⟨f,p,vH q (λi l o=>hk i o (by rw[h.rs i l];omega) (by rw[h.rs i l];omega)),λj x a v y=>(u j x a v y).kept g⟩
 ·exact vH h.p1 (λi l o=>hk i o (by rw[h.r1 i l];omega) (by rw[h.r1 i l];omega))
 ·exact vH h.p2 (λi l o=>hk i o (by rw[h.r2 i l];omega) (by rw[h.r2 i l];omega))
 ·obtain⟨n,p,q⟩:=h.m;exact⟨n,p.kept (hk mb p.lt (by rw[h.rm];omega) (by rw[h.rm];omega)),q⟩
theorem Wc.roles(h:Wc R w P mb tv sv v1 v2 s)(a:∀b,b<w.heap.size->R' b=R b):R' P=6/\(∀i,tv.ownBlock=some i->R' i=1)/\(∀i,sv.ownBlock=some i->R' i=2)/\(∀i,v1.ownBlock=some i->R' i=3)/\(∀i,v2.ownBlock=some i->R' i=4)/\R' mb=5:=by
 obtain⟨c,d,e,f⟩:=h.st;obtain⟨n,g,j⟩:=h.m;exact⟨(a P h.ltP).trans h.rP,λi k=>(a i (lT h.t i k)).trans (h.rt i k),λi k=>(a i (lT e i k)).trans (h.rs i k),λi k=>(a i (lT h.p1 i k)).trans (h.r1 i k),λi k=>(a i (lT h.p2 i k)).trans (h.r2 i k),(a mb g.lt).trans h.rm⟩
theorem Wc.on(h:Wc R w P mb tv sv v1 v2 s)(hk:∀b,b<w.heap.size->w'.heap[b]?=w.heap[b]?)(a:Below (P-1) w w'):Wc R w' P mb tv sv v1 v2 s:=by
 obtain⟨c,d,e,f,g,i⟩:=h.part (r:=6) (R':=R) (w':=w') (λb a _ _=>hk b a) (λ_ _=>rfl) (by omega) a;exact⟨by rw[hk P h.ltP];exact h.blk,d (by omega),e (by omega),f (by omega),g (by omega),i (by omega),h.rP,h.rt,h.rs,h.r1,h.r2,h.rm,λb j=>⟨(h.lo b j).1,aO (h.lo b j).2 a.size⟩,h.ok⟩
theorem fC.on(h:fC R w P mb s)(hk:∀b,b<w.heap.size->w'.heap[b]?=w.heap[b]?)(a:Below (P-1) w w'):fC R w' P mb s:=by
 obtain⟨c,d,e,f,h⟩:=h;exact⟨c,d,e,f,h.on hk a⟩
theorem Wc.setU(h:Wc R w P mb tv sv v1 v2 s){s':Wr}{no:Int}(a:Below (P-1) w w')(hk:∀b,b<w.heap.size->b≠P->w'.heap[b]?=w.heap[b]?)(c:w'.heap[P]?=some (jC #[tv,sv,.map (some mb),jS,v1,v2,jV 0,jV s'.u1,jV s'.u2,jV (Q7 s'.no),jV s'.lb] 159))(d:s'.ts=s.ts)(f:s'.ss=s.ss)(g:s'.nm=s.nm)(i:s'.sp1=s.sp1)(j:s'.sp2=s.sp2)(ok:jG s'):Wc R w' P mb tv sv v1 v2 s'/\Lw P R R w w':=by
 obtain⟨k,l,m,n,o,p⟩:=h.part (r:=6) (R':=R) (w':=w') (λb a h1 _=>hk b a (λe=>h1 (by rw[e];exact h.rP))) (λ_ _=>rfl) (by omega) a;exact⟨⟨c,by rw[d];exact l (by omega),by rw[f];exact m (by omega),by rw[i];exact n (by omega),by rw[j];exact o (by omega),by rw[g];exact p (by omega),h.rP,h.rt,h.rs,h.r1,h.r2,h.rm,λb q=>⟨(h.lo b q).1,aO (h.lo b q).2 a.size⟩,ok⟩,k⟩
end
def sK(R:Nat->Nat)(g r:Nat):Nat->Nat:=λb=>if b=g then r else R b
section
variable {R : Nat → Nat} {w w1 w' : World} {P mb : Nat} {tv sv v1 v2 : Value} {s : Wr}
theorem JX{g r:Nat}(a:∀b,b<w.heap.size->b=g->R b=r)(b:Nat)(c:b<w.heap.size):sK R g r b=R b:=by
 unfold sK;split
 ·rename_i e;exact(a b c e).symm
 ·rfl
theorem pO{v:jU}{A:Obj}{g r k:Nat}(h:Wc R w P mb tv sv v1 v2 s)(a:∀i,v.ownBlock=some i->R i=r)(c:∀i,v.ownBlock=some i->P<=i/\i<w.heap.size)(d:(w.alloc A).grownBy w1 v.ownBlock)(f:v.ownBlock=some g\/g=w.heap.size+1)(j:r≠0)(x:jU):
  (∀b,b<w.heap.size->R b≠r->R b≠6->(w1.setCell (jB P k) x).heap[b]?=w.heap[b]?)/\(∀b,b<w.heap.size->sK R g r b=R b)/\Below (P-1) w (w1.setCell (jB P k) x)/\w.heap.size<=(w1.setCell (jB P k) x).heap.size:=by
 have l:(w1.setCell (jB P k) x).heap.size=w1.heap.size:=by simp
 have m:=d.size;have n:∀b,b<w.heap.size->v.ownBlock≠some b->w1.heap[b]?=w.heap[b]?:=λb o p=>by
  rw[d.block b (by simp;omega) (λe=>p e.symm),ed o]
 have q:∀b,b≠P->(w1.setCell (jB P k) x).heap[b]?=w1.heap[b]?:=λb o=>aG _ _ _ _ o;have t:w.heap.size+1<=w1.heap.size:=by simpa using m
 refine⟨λb o h1 h2=>?_,λb o=>JX (λb o e=>?_) b o,?_,by omega⟩
 ·rw[q b (λe=>h2 (by rw[e];exact h.rP)),n b o (λe=>h1 (a b e))]
 ·rcases f with f|rfl
  ·exact a b (by rw[e];exact f)
  ·omega
 ·refine⟨d.os,d.tape,d.output,by omega,λb o=>?_⟩;have u:=h.ltP;rw[q b (by omega),n b (by omega) (λe=>by have:=(c b e).1;omega)]
theorem sL{g r:Nat}(h:Wc R w P mb tv sv v1 v2 s)(c:(P<=g/\g<w'.heap.size))(d:w.heap.size<=w'.heap.size)(b:Nat)(a:sK R g r b≠0):P-1<=b/\b<w'.heap.size:=by
 unfold sK at a;split at a
 ·rename_i e;rw[e];omega
 ·have:=h.lo b a;omega
theorem Wc.appT(h:Wc R w P mb tv sv v1 v2 s){A:Obj}{g a:Nat}{k:Int}(c:(w.alloc A).grownBy w1 tv.ownBlock)(d:w1.ownsRow P 3 1 (jL (some (jA g)) (s.ts.length+1) a) (s.ts.length+1) (fI s.ts++[jV k]))(f:tv.ownBlock=some g\/g=w.heap.size+1)(j:g<w1.heap.size)(l:jG {s with ts:=s.ts++[k]}):
  Wc (sK R g 1) (w1.setCell (jA P) (jL (some (jA g)) (s.ts.length+1) a)) P mb (jL (some (jA g)) (s.ts.length+1) a) sv v1 v2 {s with ts:=s.ts++[k]}/\Lw P R (sK R g 1) w (w1.setCell (jA P) (jL (some (jA g)) (s.ts.length+1) a)):=by
 have m:∀i,tv.ownBlock=some i->P<=i/\i<w.heap.size:=λi n=>h.t.lt i n;obtain⟨hk,o,p,q⟩:=pO (r:=1) (k:=0) h h.rt m c f (by omega) (jL (some (jA g)) (s.ts.length+1) a);obtain⟨u,v,x,y,z,B⟩:=h.part hk o (by omega) p;obtain⟨C,D,E,F,G,H⟩:=h.roles o;have I:w1.heap[P]?=w.heap[P]?:=by
  rw[c.block P (by have:=h.ltP;simp;omega) (λe=>by have:=h.rP;rw[h.rt P e.symm]at this;omega),ed h.ltP]
 have J:g≠P:=λe=>by
  rcases f with f|f
  ·have:=h.rt g f;rw[e,h.rP]at this;omega
  ·have:=h.ltP;omega
 have K:P<=g:=by
  rcases f with f|f
  ·exact(m g f).1
  ·have:=h.ltP;omega
 have L:∀i,(Value.slice (some (jA g)) (s.ts.length+1) a).ownBlock=some i->sK R g 1 i=1:=λi n=>by
  injection n with n;have n:=n;subst n;exact if_pos rfl
 have M:=fX (w':=(w1.setCell (jA P) (jL (some (jA g)) (s.ts.length+1) a))) d (λi n=>aG _ _ _ _ (by injection n with n;have n:g=i:=n;subst n;exact J));refine⟨⟨?_,?_,x (by omega),y (by omega),z (by omega),B (by omega),C,L,E,F,G,H,λb N=>sL (w':=(w1.setCell (jA P) (jL (some (jA g)) (s.ts.length+1) a))) h ⟨K,by simp;omega⟩ q b N,l⟩,u⟩
 ·exact aH _ _ _ _ _ _ (I.trans h.blk)
 ·have O:(s.ts++[k]).length=s.ts.length+1:=by simp
  show World.ownsRow _ P 3 1 _ (s.ts++[k]).length (fI (s.ts++[k]));rw[O,show(fI (s.ts++[k]))=fI s.ts++[jV k] by simp];exact M
theorem Wc.appS(h:Wc R w P mb tv sv v1 v2 s){A:Obj}{g c:Nat}{x:Ms}{d:jU}{f:jE}(l:f.length=s.ss.length)(m:w.ownsRow P 125 10 sv s.ss.length (qV s.ss f))(n:∀(j:Nat)(x:Ms)(a:jU),s.ss[j]?=some x->f[j]?=some a->gG R w a x.args)(o:gG R w d x.args)(p:(w.alloc A).grownBy w1 sv.ownBlock)(q:w1.ownsRow P 125 10 (jL (some (jA g)) (s.ss.length+1) c) (s.ss.length+1) (qV s.ss f++CO x d))(t:sv.ownBlock=some g\/g=w.heap.size+1)(u:g<w1.heap.size)(v:jG {s with ss:=s.ss++[x]}):
  Wc (sK R g 2) (w1.setCell (jB P 1) (jL (some (jA g)) (s.ss.length+1) c)) P mb tv (jL (some (jA g)) (s.ss.length+1) c) v1 v2 {s with ss:=s.ss++[x]}/\Lw P R (sK R g 2) w (w1.setCell (jB P 1) (jL (some (jA g)) (s.ss.length+1) c)):=by
 have y:=m;have z:∀i,sv.ownBlock=some i->P<=i/\i<w.heap.size:=λi B=>y.lt i B;obtain⟨hk,C,D,E⟩:=pO (r:=2) (k:=1) h h.rs z p t (by omega) (jL (some (jA g)) (s.ss.length+1) c);obtain⟨F,G,H,I,J,K⟩:=h.part hk C (by omega) D;obtain⟨L,M,N,O,Q,S⟩:=h.roles C;have T:w1.heap[P]?=w.heap[P]?:=by
  rw[p.block P (by have:=h.ltP;simp;omega) (λe=>by have:=h.rP;rw[h.rs P e.symm]at this;omega),ed h.ltP]
 have U:g≠P:=λe=>by
  rcases t with t|t
  ·have:=h.rs g t;rw[e,h.rP]at this;omega
  ·have:=h.ltP;omega
 have V:P<=g:=by
  rcases t with t|t
  ·exact(z g t).1
  ·have:=h.ltP;omega
 have W:∀i,(Value.slice (some (jA g)) (s.ss.length+1) c).ownBlock=some i->sK R g 2 i=2:=λi B=>by
  injection B with B;have B:=B;subst B;exact if_pos rfl
 have Y:=fX (w':=(w1.setCell (jB P 1) (jL (some (jA g)) (s.ss.length+1) c))) q (λi B=>aG _ _ _ _ (by injection B with B;have B:g=i:=B;subst B;exact U));refine⟨⟨?_,G (by omega),?_,I (by omega),J (by omega),K (by omega),L,M,W,O,Q,S,λb Z=>sL (w':=(w1.setCell (jB P 1) (jL (some (jA g)) (s.ss.length+1) c))) h ⟨V,by simp;omega⟩ E b Z,v⟩,F⟩
 ·exact aH _ _ _ _ _ _ (T.trans h.blk)
 ·refine⟨f++[d],by simp[l],?_,λj x a u m=>?_⟩
  ·have y:(s.ss++[x]).length=s.ss.length+1:=by simp
   show World.ownsRow _ P 125 10 _ (s.ss++[x]).length (qV (s.ss++[x]) (f++[d]));rw[y,uG _ _ _ _ l];exact Y
  ·rcases bG j s.ss.length with H|D
   ·rw[aW (by omega)]at u m;exact(n j _ a u m).kept F
   ·have e:j=s.ss.length:=by
     have:=(aK.1 u).1;simp at this;omega
    subst e;rw[aX (aD _),cD]at u;rw[<-l,aX (aD _),cD]at m;simp only[bD,bm]at u m;subst u m;exact o.kept F
theorem Wc.app1(h:Wc R w P mb tv sv v1 v2 s){A:Obj}{g a:Nat}{p:Nat}(c:(w.alloc A).grownBy w1 v1.ownBlock)(d:w1.ownsRow P 3 1 (jL (some (jA g)) (s.sp1.length+1) a) (s.sp1.length+1) (oH s.sp1++[jV (p:Int)]))(f:v1.ownBlock=some g\/g=w.heap.size+1)(j:g<w1.heap.size)(l:jG {s with sp1:=s.sp1++[p]}):
  Wc (sK R g 3) (w1.setCell (jB P 4) (jL (some (jA g)) (s.sp1.length+1) a)) P mb tv sv (jL (some (jA g)) (s.sp1.length+1) a) v2 {s with sp1:=s.sp1++[p]}/\Lw P R (sK R g 3) w (w1.setCell (jB P 4) (jL (some (jA g)) (s.sp1.length+1) a)):=by
 have m:∀i,v1.ownBlock=some i->P<=i/\i<w.heap.size:=λi n=>h.p1.lt i n;obtain⟨hk,o,q,t⟩:=pO (r:=3) (k:=4) h h.r1 m c f (by omega) (jL (some (jA g)) (s.sp1.length+1) a);obtain⟨u,v,x,y,z,B⟩:=h.part hk o (by omega) q;obtain⟨C,D,E,F,G,H⟩:=h.roles o;have I:w1.heap[P]?=w.heap[P]?:=by
  rw[c.block P (by have:=h.ltP;simp;omega) (λe=>by have:=h.rP;rw[h.r1 P e.symm]at this;omega),ed h.ltP]
 have J:g≠P:=λe=>by
  rcases f with f|f
  ·have:=h.r1 g f;rw[e,h.rP]at this;omega
  ·have:=h.ltP;omega
 have K:P<=g:=by
  rcases f with f|f
  ·exact(m g f).1
  ·have:=h.ltP;omega
 have L:∀i,(Value.slice (some (jA g)) (s.sp1.length+1) a).ownBlock=some i->sK R g 3 i=3:=λi n=>by
  injection n with n;have n:=n;subst n;exact if_pos rfl
 have M:=fX (w':=(w1.setCell (jB P 4) (jL (some (jA g)) (s.sp1.length+1) a))) d (λi n=>aG _ _ _ _ (by injection n with n;have n:g=i:=n;subst n;exact J));refine⟨⟨?_,v (by omega),x (by omega),?_,z (by omega),B (by omega),C,D,E,L,G,H,λb N=>sL (w':=(w1.setCell (jB P 4) (jL (some (jA g)) (s.sp1.length+1) a))) h ⟨K,by simp;omega⟩ t b N,l⟩,u⟩
 ·exact aH _ _ _ _ _ _ (I.trans h.blk)
 ·have O:(s.sp1++[p]).length=s.sp1.length+1:=by simp
  show World.ownsRow _ P 3 1 _ (s.sp1++[p]).length (oH (s.sp1++[p]));rw[O,show(oH (s.sp1++[p]))=oH s.sp1++[jV (p:Int)] by simp];exact M
theorem Wc.app2(h:Wc R w P mb tv sv v1 v2 s){A:Obj}{g a:Nat}{p:Nat}(c:(w.alloc A).grownBy w1 v2.ownBlock)(d:w1.ownsRow P 3 1 (jL (some (jA g)) (s.sp2.length+1) a) (s.sp2.length+1) (oH s.sp2++[jV (p:Int)]))(f:v2.ownBlock=some g\/g=w.heap.size+1)(j:g<w1.heap.size)(l:jG {s with sp2:=s.sp2++[p]}):
  Wc (sK R g 4) (w1.setCell (jB P 5) (jL (some (jA g)) (s.sp2.length+1) a)) P mb tv sv v1 (jL (some (jA g)) (s.sp2.length+1) a) {s with sp2:=s.sp2++[p]}/\Lw P R (sK R g 4) w (w1.setCell (jB P 5) (jL (some (jA g)) (s.sp2.length+1) a)):=by
 have m:∀i,v2.ownBlock=some i->P<=i/\i<w.heap.size:=λi n=>h.p2.lt i n;obtain⟨hk,o,q,t⟩:=pO (r:=4) (k:=5) h h.r2 m c f (by omega) (jL (some (jA g)) (s.sp2.length+1) a);obtain⟨u,v,x,y,z,B⟩:=h.part hk o (by omega) q;obtain⟨C,D,E,F,G,H⟩:=h.roles o;have I:w1.heap[P]?=w.heap[P]?:=by
  rw[c.block P (by have:=h.ltP;simp;omega) (λe=>by have:=h.rP;rw[h.r2 P e.symm]at this;omega),ed h.ltP]
 have J:g≠P:=λe=>by
  rcases f with f|f
  ·have:=h.r2 g f;rw[e,h.rP]at this;omega
  ·have:=h.ltP;omega
 have K:P<=g:=by
  rcases f with f|f
  ·exact(m g f).1
  ·have:=h.ltP;omega
 have L:∀i,(Value.slice (some (jA g)) (s.sp2.length+1) a).ownBlock=some i->sK R g 4 i=4:=λi n=>by
  injection n with n;have n:=n;subst n;exact if_pos rfl
 have M:=fX (w':=(w1.setCell (jB P 5) (jL (some (jA g)) (s.sp2.length+1) a))) d (λi n=>aG _ _ _ _ (by injection n with n;have n:g=i:=n;subst n;exact J));refine⟨⟨?_,v (by omega),x (by omega),y (by omega),?_,B (by omega),C,D,E,F,L,H,λb N=>sL (w':=(w1.setCell (jB P 5) (jL (some (jA g)) (s.sp2.length+1) a))) h ⟨K,by simp;omega⟩ t b N,l⟩,u⟩
 ·exact aH _ _ _ _ _ _ (I.trans h.blk)
 ·have O:(s.sp2++[p]).length=s.sp2.length+1:=by simp
  show World.ownsRow _ P 3 1 _ (s.sp2++[p]).length (oH (s.sp2++[p]));rw[O,show(oH (s.sp2++[p]))=oH s.sp2++[jV (p:Int)] by simp];exact M
end
theorem Lb:(Tryz.prog.info? 125).map (λi=>(i.zero,i.size,i.bytes))=some (some (.agg #[jV 0,jV 0,jV 0,jV 0,jV 0,jV 0,jT ⟨#[]⟩,jV 0,jT ⟨#[]⟩,jS]),10,112):=by kernel_rfl
theorem info3:(Tryz.prog.info? 3).map (λi=>(i.zero,i.size,i.bytes))=some (some (jV 0),1,8):=by kernel_rfl
theorem PF:Tryz.prog.underlying 101=some (.slice 125):=Tryz.underlying101
theorem Ah:Tryz.prog.underlying 100=some (.slice 3):=Tryz.underlying100
theorem tW{P:Program}(w:jW){b:Array Oper}{c:List Oper}{o:Oper}{a:Act}{Q:Exit->Act->jW->Prop}(d:o.guard=none)(s x:Operand)(t e:TypeId)
  (f:o.op= .call {callee:= .builtin .append,args:=#[s,x],argTypes:=#[t,e]}) {v g h:jU} {w':jW} (i:a.eval s=v) (j:a.eval x=g)
  (k:(Builtin.append_ #[t,e] o.type #[v,g]).run P w= .ok h w') (l:wpList P b Q c (a.put o.dst h) w'):wpList P b Q (o::c) a w:=by
 refine wpList_plain d λm n=>?_;unfold Oper.wp;simp[execOp,f,resolve,invoke,builtin,i,j,k,Result.andThen];exact n _ _ l
theorem wm(e t a b:Nat)(z:jU)(c:(Tryz.prog.info? e).map (λi=>(i.zero,i.size,i.bytes))=some (some z,a,b))(d:z.cells.size=a)(f:0<a)(j:b<=1000)(k:Tryz.prog.underlying t=some (.slice e))(w:jW)(B:Nat)(v:jU)(n:Nat)(zs:jE)(h:w.ownsRow B e a v n zs)(l:jE)(m:l.length=a)(h1:∀u∈l,u.oneCell'=true)(o:n<=100000)(p:B<=w.heap.size):
  ∃g q r,(Builtin.append_ #[t,t] t #[v,jL (some (jA w.heap.size)) 1 1]).run Tryz.prog (w.alloc (.cells l.toArray e))= .ok (jL (some (jA g)) (n+1) q) r/\r.ownsRow B e a (jL (some (jA g)) (n+1) q) (n+1) (zs++l)/\(w.alloc (.cells l.toArray e)).grownBy r v.ownBlock/\(v.ownBlock=some g\/g=w.heap.size+1)/\g<r.heap.size:=by
 obtain⟨i,s,x,y,A⟩:=info_parts c;have C:(w.alloc (.cells l.toArray e)).ownsRow B e a v n zs:=fX h (λi D=>ed (lT h i D));obtain⟨g,q,r,E,h2,F,G,H⟩:=run_append_lies (P:=Tryz.prog) (w.alloc (.cells l.toArray e)) t t B e i z a b k s x y A d f v n zs C (jA w.heap.size) 1 1 l (by rw[m];omega) (World.news_of_block (cs:=l.toArray) (t:=e) (fr:=(0,0)) (heap_alloc_last w _)) h1 (by omega) (by unfold maxLen;omega) (aP (Nat.mul_le_mul (show n+1<=100001 by omega) j) (by omega)) (by simp;omega) (w.heap.size+1) (by simp);exact⟨g,q,r,E,h2,F,G,H⟩
def kR(P:Nat)(R:Nat->Nat)(a:Nat)(w:jW)(s':Wr)(e:Ending)(w':jW):Prop:=e=jR (.tuple #[])/\∃R',fC R' w' P a s'/\Lw P R R' w w'
def lR(P:Nat)(R:Nat->Nat)(a:Nat)(w:jW)(x:Int)(s':Wr)(e:Ending)(w':jW):Prop:=e=jR (jV x)/\∃R',fC R' w' P a s'/\Lw P R R' w w'
theorem uU{x:Ms}{s s':Wr}{u:Unit}(h:gX x s=some (u,s')):s.ss.length<100000/\yc x=true/\s'={s with ss:=s.ss++[x]}:=by
 unfold gX at h;split at h
 ·rename_i hc;simp only[bo,decide_eq_true_eq]at hc;injection h with h;injection h with _ h;exact⟨hc.1,hc.2,h.symm⟩
 ·cases h
theorem yH{k:Int}{s s':Wr}{p:Nat}(h:h9 k s=some (p,s')):s.ts.length<100000/\kh k=true/\p=s.ts.length/\s'={s with ts:=s.ts++[k]}:=by
 unfold h9 at h;split at h
 ·rename_i hc;simp only[bo,decide_eq_true_eq]at hc;injection h with h;injection h with h1 h;exact⟨hc.1,hc.2,h1.symm,h.symm⟩
 ·cases h
theorem jG.step{s:Wr}(h:jG s){x:Ms}(a:s.ss.length<100000)(b:yc x=true):jG {s with ss:=s.ss++[x]}:=
 ⟨h.ts,by show(s.ss++[x]).length<=100000;simp;omega,h.p1,h.p2,h.nm,h.lb,h.u1,h.u2,λy c=>by
  rcases bE.1 c with c|c
  ·exact h.oks y c
  ·rw[a_]at c;subst c;exact b,h.okt,h.s1,h.s2,h.no,h.nms⟩
theorem jG.place{s:Wr}(h:jG s){k:Int}(a:s.ts.length<100000)(b:kh k=true):jG {s with ts:=s.ts++[k]}:=
 ⟨by show(s.ts++[k]).length<=100000;simp;omega,h.ss,by show s.sp1.length<=(s.ts++[k]).length;have:=h.p1;simp;omega,by show s.sp2.length<=(s.ts++[k]).length;have:=h.p2;simp;omega,h.nm,h.lb,h.u1,h.u2,h.oks,λy c=>by
  rcases bE.1 c with c|c
  ·exact h.okt y c
  ·rw[a_]at c;subst c;exact b,h.s1,h.s2,h.no,h.nms⟩
theorem Lc(x:Ms)(a:jU)(b:a.oneCell'=true):∀u∈CO x a,u.oneCell'=true:=λu c=>by
 unfold CO at c;simp only[aY,dy,or_false]at c;rcases c with rfl|rfl|rfl|rfl|rfl|rfl|rfl|rfl|rfl|rfl<;>first|rfl|exact b
theorem kK{P:Program}{b:Array Oper}{o:Oper}{a:Act}{w:jW}{c:Act->jW->Prop}{Q:Exit->Act->jW->Prop}{E:Prop}(d:o.guard=none)(s x:Operand)(t:TypeId)
  (e:o.op=Op.call {callee:=Callee.builtin Builtin.append,args:=#[s,x],argTypes:=#[t,t]}) {v f g:jU} {w':jW} (h:a.eval s=v) (i:a.eval x=f)
  (j:(Builtin.append_ #[t,t] o.type #[v,f]).run P w= .ok g w') (k:c (a.put o.dst g) w'):if Region.wanted o (yielded b a.tmps)=true then Oper.wp P o a w c Q else E:=by
 have l:Region.wanted o (yielded b a.tmps)=true:=by simp[Region.wanted,d]
 rw[if_pos l];unfold Oper.wp;simp[execOp,e,resolve,invoke,builtin,h,i,j,Result.andThen];exact k
theorem eH(B:Nat)(w:jW):Below B w w.drew:=(aJ _ _).drew
theorem qx{R:Nat->Nat}{w:jW}{P d:Nat}{s s':Wr}{x:Ms}{u:Unit}(h:fC R w P d s)(f:jO)(j k:Nat)(l:gG R w (jL f j k) x.args)(m:gX x s=some (u,s')):
  aA 70 #[ptr P,.agg #[jV x.code,jV x.dst,jV x.a,jV x.b,jV x.c,jV x.n,jT ⟨x.op.toArray⟩,jV x.label,jT ⟨x.name.toArray⟩,jL f j k]] w (kR P R d w s'):=by
 obtain⟨o,p,rfl⟩:=uU m;obtain⟨r,t,v,z,h⟩:=h;obtain⟨B,C⟩:∃y:ByteArray,y=⟨x.op.toArray⟩:=⟨_,rfl⟩;obtain⟨D,E⟩:∃y:ByteArray,y=⟨x.name.toArray⟩:=⟨_,rfl⟩;obtain⟨A,F⟩:∃A:Obj,A=jC (CO x (jL f j k)).toArray 125:=⟨_,rfl⟩;obtain⟨H,I⟩:=aB (w.alloc A);have J:∀b,b<w.heap.size->H.drew.heap[b]?=w.heap[b]?:=λb K=>by
  rw[I];exact ed (A:=A) K
 have L:Below (P-1) w H.drew:=by rw[I];exact((eL w A).drew).mono (by have:=h.ltP;omega)
 have M:=h.on J L;have N:Lw P R R w H.drew:=⟨L,λ_ _=>rfl,λb K _=>J b K⟩;have O:H.heap.size=w.heap.size+1:=by rw[I];simp
 have Q:H.heap[w.heap.size]?=some A:=by rw[I];exact heap_alloc_last w _
 rw[F]at Q;obtain⟨S,T,U,V⟩:=M.st;obtain⟨g,W,Y,Z,r,v,z,K⟩:=wm 125 101 10 112 _ Lb rfl (by decide) (by omega) PF H.drew P t s.ss.length _ U (CO x (jL f j k)) rfl (Lc x _ rfl) (by omega) (aL M.ltP);obtain⟨S,t⟩:=M.appS T U V (l.kept N) v r z K (M.ok.step o p);obtain⟨q,c,rfl⟩:=eh U;have A0:Y.heap[P]?=_:=(v.block P (by have:P<H.heap.size:=M.ltP;simp;omega) (λe=>by have:=M.rP;rw[M.rs P e.symm]at this;omega)).trans ((ed M.ltP).trans M.blk);have A1:H.cell? (jB P 1)=some (jL q s.ss.length c):=eo (w:=H.drew) (i:=1) M.blk rfl;have A2:∀A,(H.alloc A).cell? (jB P 1)=some (jL q s.ss.length c):=λA=>eF A1;have A3:Y.cell? (jB P 1)=some (jL q s.ss.length c):=jc 1 A0;have A4:=ea A0 1;have A5:H.cell? (jA w.heap.size)=some (jV x.code):=eo (w:=H.drew) (i:=0) Q rfl;have A6:H.cell? (jB w.heap.size 1)=some (jV x.dst):=eo (w:=H.drew) (i:=1) Q rfl;have A7:H.cell? (jB w.heap.size 2)=some (jV x.a):=eo (w:=H.drew) (i:=2) Q rfl;have A8:H.cell? (jB w.heap.size 3)=some (jV x.b):=eo (w:=H.drew) (i:=3) Q rfl;have A9:H.cell? (jB w.heap.size 4)=some (jV x.c):=eo (w:=H.drew) (i:=4) Q rfl;have B0:H.cell? (jB w.heap.size 5)=some (jV x.n):=eo (w:=H.drew) (i:=5) Q rfl;have B1:H.cell? (jB w.heap.size 6)=some (jT B):=by rw[C];exact eo (w:=H.drew) (i:=6) Q rfl
 have B2:H.cell? (jB w.heap.size 7)=some (jV x.label):=eo (w:=H.drew) (i:=7) Q rfl;have B3:H.cell? (jB w.heap.size 8)=some (jT D):=by rw[E];exact eo (w:=H.drew) (i:=8) Q rfl
 have B4:H.cell? (jB w.heap.size 9)=some (jL f j k):=eo (w:=H.drew) (i:=9) Q rfl;have B5:Hid ((Builtin.append_ #[101,101] 101 #[jL q s.ss.length c,jL (some ⟨w.heap.size+1,0,none⟩) 1 1]).run Tryz.prog (H.alloc (jC #[jV x.code,jV x.dst,jV x.a,jV x.b,jV x.c,jV x.n,jT B,jV x.label,jT D,jL f j k] 125)).drew= .ok (jL (some (jA g)) (s.ss.length+1) W) Y):=by
  show _=_;rw[C,E,<-O];exact Z
 have H:Hid (kR P R d w {s with ss:=s.ss++[x]} (jR (.tuple #[])) (Y.setCell (jB P 1) (jL (some (jA g)) (s.ss.length+1) W))):=⟨rfl,_,⟨_,_,_,_,S⟩,N.trans t⟩;generalize kR P R d w {s with ss:=s.ss++[x]}=G at H⊢;generalize s.ss.length=n at*;have O:A=jC #[jV x.code,jV x.dst,jV x.a,jV x.b,jV x.c,jV x.n,jT B,jV x.label,jT D,jL f j k] 125:=by rw[F,C,E];rfl
 rw[<-C,<-E];rw[O]at I;generalize x.code=xc at*;generalize x.a=xa at*;generalize x.dst=xd at*;generalize x.b=xb at*;generalize x.c=xcc at*;generalize x.n=xn at*;generalize x.label=xl at*;clear h S t T U V Z r v z K A0 l m M N J L Q F O C E o p;go_enter Tryz.func70,Tryz.ntmps70
 go_wp2_with fail
 rw[<-I];clear I
 go_region_law (refine kK rfl (.tmp 8) (.tmp 10) 101 rfl (by simp[Act.eval]) (by simp[Act.eval]) B5 ?_)
 all_goals
  go_wp2;go_end0;exact H
theorem ny{R:Nat->Nat}{w:jW}{P e:Nat}{s s':Wr}{u:Unit}(c d a b cc n:Int)(yo:ByteArray)(l:Int)(yn:ByteArray)(args:List Int)(f:jO)(g i:Nat)(h:fC R w P e s)(j:gG R w (jL f g i) args)(k:gX ⟨c,d,a,b,cc,n,yo.data.toList,l,yn.data.toList,args⟩ s=some (u,s')):
  aA 70 #[ptr P,.agg #[jV c,jV d,jV a,jV b,jV cc,jV n,jT yo,jV l,jT yn,jL f g i]] w (kR P R e w s'):=by
 have h1:(⟨yo.data.toList.toArray⟩:ByteArray)=yo:=by rw[bM]
 have h2:(⟨yn.data.toList.toArray⟩:ByteArray)=yn:=by rw[bM]
 have:=qx h f g i j k;simp only[h1,h2]at this;exact this
def Sc(P:Nat)(R:Nat->Nat)(a:Nat)(b c d:jU)(w:jW)(x:Int)(s':Wr)(e:Ending)(w':jW):Prop:=e=jR (jV x)/\∃R' f,Wc R' w' P a f b c d s'/\Lw P R R' w w'
theorem wn{R:Nat->Nat}{w:jW}{P a:Nat}{s s':Wr}{k:Int}{p:Nat}{b d f j:jU}(h:Wc R w P a b d f j s)(l:h9 k s=some (p,s')):
  aA 68 #[ptr P,jV k] w (Sc P R a d f j w (p:Int) s'):=by
 obtain⟨m,o,rfl,rfl⟩:=yH l;obtain⟨g,r,v,x,y,z,B,C⟩:=wm 3 100 1 8 _ info3 rfl (by decide) (by omega) Ah w P b s.ts.length _ h.t [jV k] rfl (λu D=>by simp at D;subst D;rfl) (by omega) (aL h.ltP);obtain⟨E,F⟩:=h.appT z y B C (h.ok.place m o);obtain⟨q,c,rfl⟩:=eh h.t;have H:v.heap[P]?=_:=(z.block P (by have:=h.ltP;simp;omega) (λe=>by have:=h.rP;rw[h.rt P e.symm]at this;omega)).trans ((ed h.ltP).trans h.blk);have I:w.cell? (jA P)=some (jL q s.ts.length c):=jc 0 h.blk;have J:∀A,(w.alloc A).cell? (jA P)=some (jL q s.ts.length c):=λA=>eF I;have K:v.cell? (jA P)=some (jL q s.ts.length c):=jc 0 H;have L:=ea H 0;have M:=jc 0 E.blk;have N:=jI x;have O:Hid (Sc P R a d f j w (s.ts.length:Int) {s with ts:=s.ts++[k]} (jR (jV (s.ts.length:Int))) (v.setCell (jA P) (jL (some (jA g)) (s.ts.length+1) r))):=⟨rfl,_,_,E,F⟩;generalize Sc P R a d f j w (s.ts.length:Int) {s with ts:=s.ts++[k]}=G at O⊢;generalize s.ts.length=n at*;clear h E F x y z B C H l;go_enter Tryz.func68,Tryz.ntmps68
 go_wp2_with(at_builtin;refine tW _ rfl _ _ 100 100 rfl rfl rfl N ?_)
 go_wp2;exact O
theorem ri{R:Nat->Nat}{w:jW}{P a:Nat}{s s':Wr}{k:Int}{p:Nat}(h:fC R w P a s)(b:h9 k s=some (p,s')):
  aA 68 #[ptr P,jV k] w (lR P R a w (p:Int) s'):=by
 obtain⟨c,d,f,g,h⟩:=h;refine(wn h b).mono ?_;rintro e w' ⟨h1,R',i,h2,j⟩;exact⟨h1,R',⟨_,_,_,_,h2⟩,j⟩
theorem ry{s s':Wr}{p:Nat}(h:gY s=some (p,s')):s.lb<100000/\p=s.lb+1/\s'={s with lb:=s.lb+1}:=by
 unfold gY at h;split at h
 ·injection h with h;injection h with h1 h2;exact⟨‹_›,h1.symm,h2.symm⟩
 ·cases h
theorem je{w:jW}{P k:Nat}{x:jU}:Below (P-1) w (w.setCell (jB P k) x):=(aJ _ _).setCell (p:=(jB P k)) (cM _ _) _
theorem jG.lab{s:Wr}(h:jG s)(a:s.lb<100000):jG {s with lb:=s.lb+1}:=⟨h.ts,h.ss,h.p1,h.p2,h.nm,by show s.lb+1<=100000;omega,h.u1,h.u2,h.oks,h.okt,h.s1,h.s2,h.no,h.nms⟩
theorem jG.us{s:Wr}(h:jG s){a b:Nat}(c:a<=100001)(d:b<=100001):jG {s with u1:=a,u2:=b}:=⟨h.ts,h.ss,h.p1,h.p2,h.nm,h.lb,c,d,h.oks,h.okt,h.s1,h.s2,h.no,h.nms⟩
theorem jG.nou{s:Wr}(h:jG s){p:Nat}(a:p<100000):jG {s with no:=some p}:=⟨h.ts,h.ss,h.p1,h.p2,h.nm,h.lb,h.u1,h.u2,h.oks,h.okt,h.s1,h.s2,λq b=>by injection b with b;omega,h.nms⟩
theorem kg{R:Nat->Nat}{w:jW}{P a:Nat}{s s':Wr}{p:Nat}(h:fC R w P a s)(c:gY s=some (p,s')):
  aA 214 #[ptr P] w (lR P R a w (p:Int) s'):=by
 obtain⟨d,rfl,rfl⟩:=ry c;obtain⟨e,f,g,j,h⟩:=h;have k:w.cell? (jB P 10)=some (jV (s.lb:Int)):=jc 10 h.blk;have l:=ea h.blk 10;have m:=aH w P 10 _ _ (jV ((s.lb:Int)+1)) h.blk;have o:(w.setCell (jB P 10) (jV ((s.lb:Int)+1))).cell? (jB P 10)=some (jV ((s.lb:Int)+1)):=jc 10 m;have q:Hid (lR P R a w ((s.lb+1:Nat):Int) {s with lb:=s.lb+1} (jR (jV ((s.lb:Int)+1))) (w.setCell (jB P 10) (jV ((s.lb:Int)+1)))):=by
  obtain⟨r,t⟩:=h.setU (w':=w.setCell (jB P 10) (jV ((s.lb:Int)+1))) (s':={s with lb:=s.lb+1}) (no:=0) je (λb u v=>aG _ _ _ _ v) (by rw[m];rfl) rfl rfl rfl rfl rfl (h.ok.lab d);exact⟨by rw[show((s.lb+1:Nat):Int)=(s.lb:Int)+1 by omega],_,⟨_,_,_,_,r⟩,t⟩
 generalize lR P R a w ((s.lb+1:Nat):Int) {s with lb:=s.lb+1}=G at q⊢;generalize s.lb=n at*;clear h m c;go_enter Tryz.func214,Tryz.ntmps214;go_wp2;exact q
theorem lH{R:Nat->Nat}{w:jW}{P a:Nat}{s s':Wr}{l:Nat}{u:Unit}(h:fC R w P a s)(b:jt l s=some (u,s')):
  aA 216 #[ptr P,jV (l:Int)] w (kR P R a w s'):=by
 have c:=jI (ny 6 0 0 0 0 0 ⟨#[]⟩ (l:Int) ⟨#[]⟩ [] none 0 0 h (gG.none _ _) b);have d:Hid (∀e w',kR P R a w s' e w'->e=jR (.tuple #[])/\kR P R a w s' e w'):=λe w' f=>⟨f.1,f⟩;have d:Hid (∀e w',kR P R a w s' e w'->e=jR (.tuple #[])/\kR P R a w s' (jR (.tuple #[])) w'):=λe w' f=>⟨f.1,f.1▸f⟩;generalize kR P R a w s'=G at c d⊢;clear h b;go_enter Tryz.func216,Tryz.ntmps216
 go_wp2_with(go_at_call 70;fail)
 refine c.mono ?_;intro e w1 f;obtain⟨rfl,g⟩:=d _ _ f;have i:=jI g;clear f g;go_wp2;go_end0;exact i
theorem nU{R:Nat->Nat}{w:jW}{P f:Nat}{s s':Wr}{p:Nat}(h:fC R w P f s)(d:kO s=some (p,s')):
  aA 71 #[ptr P] w (lR P R f w (p:Int) s'):=by
 unfold kO at d;cases a:s.no with
 |some q=>
  rw[a]at d;injection d with d;injection d with h1 h2;subst h1 h2;have x:Hid (fC R w P f s):=h;obtain⟨K,y,C,H,h⟩:=h;have g:w.cell? (jB P 9)=some (jV (Q7 s.no)):=jc 9 h.blk;rw[a]at g;have o:w.cell? (jB P 9)=some (jV (q:Int)):=g;have m:Hid (lR P R f w (q:Int) s (jR (jV (q:Int))) w):=⟨rfl,R,x.out,Lw.refl _ _ _⟩;generalize lR P R f w (q:Int) s=G at m⊢;have S:((q:Int)<0)=False:=by simp
  clear h a g;go_enter Tryz.func71,Tryz.ntmps71;go_wp2;exact m.out
 |none=>
  rw[a]at d;have c:(if s.ts.length<100000 then some (s.ts.length,{s with ts:=s.ts++[1],no:=some s.ts.length}) else none)=some (p,s'):=d;split at c
  ·rename_i k;injection c with c;injection c with h1 h2;subst h1 h2;have v:Hid (aA 68 #[ptr P,jV 1] w (lR P R f w (s.ts.length:Int) {s with ts:=s.ts++[1]})):=ri h (by unfold h9;rw[show(decide (s.ts.length<100000)&&kh 1)=true by simp[k,kh]];rfl);obtain⟨K,y,C,H,h⟩:=h;have g:w.cell? (jB P 9)=some (jV (Q7 s.no)):=jc 9 h.blk;rw[a]at g;have o:w.cell? (jB P 9)=some (jV (-1)):=g;obtain⟨n,l⟩:=aB s.ts.length;have N:Hid (n=s.ts.length):=l;have A:Hid (n<100000):=by rw[l];exact k
   rw[<-l]at v⊢;obtain⟨G,u⟩:∃G,G=lR P R f w (n:Int) {s with ts:=s.ts++[1],no:=some n}:=⟨_,rfl⟩;have J:Hid (G=lR P R f w (n:Int) {s with ts:=s.ts++[1],no:=some n}):=u;rw[<-u];clear h a g d k l u;go_enter Tryz.func71,Tryz.ntmps71
   go_wp2_with(go_at_call 68;fail)
   refine v.out.mono ?_;rintro e w1 ⟨rfl,L,⟨D,z,I,B,j⟩,k⟩;have Q:w1.frozen? (jB P 9)=false:=ea j.blk 9;have M:w1.cell? (jB P 9)=some (jV (Q7 s.no)):=jc 9 j.blk;have t:=aH w1 P 9 _ _ (jV (n:Int)) j.blk;have T:(w1.setCell (jB P 9) (jV (n:Int))).cell? (jB P 9)=some (jV (n:Int)):=jc 9 t;have m:Hid (G (jR (jV (n:Int))) (w1.setCell (jB P 9) (jV (n:Int)))):=by
    show G _ _;rw[J.out];obtain⟨E,F⟩:=j.setU (w':=w1.setCell (jB P 9) (jV (n:Int))) (s':={s with ts:=s.ts++[1],no:=some n}) (no:=0) je (λb O r=>aG _ _ _ _ r) (by rw[t];rfl) rfl rfl rfl rfl rfl (j.ok.nou A.out);exact⟨rfl,_,⟨_,_,_,_,E⟩,k.trans F⟩
   clear j k t;go_wp2;exact m.out
  ·cases c
theorem CR{x:Ms}{p q:Nat}{s s':Wr}(h:pV x p s=some (q,s')):q=p/\((x.code=2/\x.a=(p:Int)/\s'=s)\/(¬(x.code=2/\x.a=(p:Int))/\∃u,gX {x with dst:=(p:Int)} s=some (u,s'))):=by
 unfold pV at h;split at h
 ·rename_i hc;injection h with h;injection h with h1 h2;exact⟨h1.symm,.inl ⟨hc.1,hc.2,h2.symm⟩⟩
 ·rename_i hc;obtain⟨u,w1,h1,h2⟩:=d_ h;injection h2 with h2;injection h2 with h2 h3;subst h3;exact⟨h2.symm,.inr ⟨hc,u,h1⟩⟩
theorem fC.al{R:Nat->Nat}{w:jW}{P a:Nat}{s:Wr}(h:fC R w P a s)(A:Obj):fC R (w.alloc A) P a s/\Lw P R R w (w.alloc A):=by
 have c:P<=w.heap.size:=by obtain⟨_,_,_,_,h⟩:=h;exact aL h.ltP
 have d:Below (P-1) w (w.alloc A):=(eL w A).mono (by omega);exact⟨h.on (λb d=>ed d) d,d,λ_ _=>rfl,λb d _=>ed d⟩
theorem sP{R:Nat->Nat}{w:jW}{P d:Nat}{s s':Wr}{x:Ms}{p q:Nat}(h:fC R w P d s)(f:jO)(g j:Nat)(k:gG R w (jL f g j) x.args)(l:pV x p s=some (q,s')):
  aA 211 #[ptr P,.agg #[jV x.code,jV x.dst,jV x.a,jV x.b,jV x.c,jV x.n,jT ⟨x.op.toArray⟩,jV x.label,jT ⟨x.name.toArray⟩,jL f g j],jV (p:Int)] w (lR P R d w (q:Int) s'):=by
 obtain⟨rfl,hc⟩:=CR l;obtain⟨m,o⟩:∃y:ByteArray,y=⟨x.op.toArray⟩:=⟨_,rfl⟩;obtain⟨r,t⟩:∃y:ByteArray,y=⟨x.name.toArray⟩:=⟨_,rfl⟩;obtain⟨A,v⟩:∃A:Obj,A=jC #[jV x.code,jV x.dst,jV x.a,jV x.b,jV x.c,jV x.n,jT m,jV x.label,jT r,jL f g j] 125:=⟨_,rfl⟩;obtain⟨z,B⟩:=aB (w.alloc A);have C:z.heap.size=w.heap.size+1:=by rw[B];simp
 have D:z.heap[w.heap.size]?=some A:=by rw[B];exact heap_alloc_last w _
 obtain⟨E,F⟩:=h.al A;rw[<-B]at E F;rw[v]at D;rcases hc with⟨h1,h2,rfl⟩|⟨H,u,I⟩
 ·have J:z.cell? (jA w.heap.size)=some (jV 2):=by rw[<-h1];exact jc 0 D
  have K:z.cell? (jB w.heap.size 2)=some (jV (q:Int)):=by rw[<-h2];exact jc 2 D
  have L:Hid (lR P R d w (q:Int) s' (jR (jV (q:Int))) z):=⟨rfl,R,E,F⟩;generalize lR P R d w (q:Int) s'=G at L⊢;rw[<-o,<-t,h1,h2];rw[h1,h2]at v;rw[B,v]at J K L;clear h B C D E F v l o t k h1 h2;go_enter Tryz.func211,Tryz.ntmps211;go_wp2;exact L
 ·obtain⟨M,N⟩:∃M:Obj,M=jC #[jV x.code,jV (q:Int),jV x.a,jV x.b,jV x.c,jV x.n,jT m,jV x.label,jT r,jL f g j] 125:=⟨_,rfl⟩;obtain⟨O,Q⟩:=h.al M;have S:Hid (aA 70 #[ptr P,.agg #[jV x.code,jV (q:Int),jV x.a,jV x.b,jV x.c,jV x.n,jT m,jV x.label,jT r,jL f g j]] (w.alloc M) (kR P R d (w.alloc M) s')):=by
   rw[o,t];exact qx (x:={x with dst:=(q:Int)}) O f g j (k.kept Q) I
  have T:=jI Q;obtain⟨G,U⟩:=aB (lR P R d w (q:Int) s');have V:=jI U;rw[<-U,<-o,<-t];have W:Hid (∀e w',kR P R d (w.alloc M) s' e w'->e=jR (.tuple #[])/\G (jR (jV (q:Int))) w'):=λe w' Y=>by
   obtain⟨rfl,Z,z,J⟩:=Y;exact⟨rfl,by rw[V.out];exact⟨rfl,Z,z,T.trans J⟩⟩
  rw[N]at S W;have K:=H;clear h B C D E F v l o t k O Q U H I N T;clear M;generalize x.code=xc at*;generalize x.a=xa at*;generalize x.dst=xd at*;generalize x.b=xb at*;generalize x.c=xcc at*;generalize x.n=xn at*;generalize x.label=xl at*;by_cases h2:xc=2
  ·have L:(xa==(q:Int))=false:=by simp;exact λe=>K ⟨h2,e⟩
   subst h2;clear K;go_enter Tryz.func211,Tryz.ntmps211
   go_wp2_with(go_at_call 70;fail)
   refine S.mono ?_;intro e w1 Y;obtain⟨rfl,f⟩:=W _ _ Y;have g:=jI f;clear Y f;go_wp2;exact g
  ·have L:(xc==2)=false:=by simpa using h2
   clear K h2;go_enter Tryz.func211,Tryz.ntmps211
   go_wp2_with(go_at_call 70;fail)
   refine S.mono ?_;intro e w1 Y;obtain⟨rfl,f⟩:=W _ _ Y;have g:=jI f;clear Y f;go_wp2;exact g
theorem pc{s s':Wr}{p:Nat}(h:h_ s=some (p,s')):(s.u1=s.sp1.length/\s.ts.length<100000/\p=s.ts.length/\s'={s with ts:=s.ts++[1],sp1:=s.sp1++[s.ts.length],u1:=s.u1+1})\/(s.u1≠s.sp1.length/\s.sp1[s.u1]?=some p/\s'={s with u1:=s.u1+1}):=by
 unfold h_ at h;split at h
 ·rename_i hc;split at h
  ·rename_i a;injection h with h;injection h with h1 h2;exact .inl ⟨hc,a,h1.symm,h2.symm⟩
  ·cases h
 ·rename_i hc;split at h
  ·rename_i c b;injection h with h;injection h with h1 h2;subst h1;exact .inr ⟨hc,b,h2.symm⟩
  ·cases h
theorem jG.tak1{s:Wr}(h:jG s)(a:s.ts.length<100000):jG {s with ts:=s.ts++[1],sp1:=s.sp1++[s.ts.length]}:=
 have h1:=h.place (k:=1) a (by decide)
 ⟨h1.ts,h1.ss,by show(s.sp1++[s.ts.length]).length<=(s.ts++[1]).length;have:=h.p1;simp;omega,h1.p2,h1.nm,h1.lb,h1.u1,h1.u2,h1.oks,h1.okt,(λp b=>by
  rcases bE.1 b with b|b
  ·exact h.s1 p b
  ·rw[a_]at b;omega),h1.s2,h1.no,h1.nms⟩
theorem qY{R:Nat->Nat}{w:jW}{P a:Nat}{s s':Wr}{p:Nat}(h:fC R w P a s)(d:h_ s=some (p,s')):
  aA 213 #[ptr P,jV 1] w (lR P R a w (p:Int) s'):=by
 obtain⟨f,j,l,o,h⟩:=h;have r:jG s:=h.ok;have t:Hid (∀n,Wc R (w.drewN n) P a f j l o s/\Lw P R R w (w.drewN n)):=λn=>⟨h.on (λ_ _=>rfl) ((gD w n).mono (by have:=h.ltP;omega)),(gD w n).mono (by have:=h.ltP;omega),λ_ _=>rfl,λ_ _ _=>rfl⟩;obtain⟨q,c,v⟩:=eh h.p1;have x:Hid (l=jL q s.sp1.length c):=v;have y:w.cell? (jB P 7)=some (jV (s.u1:Int)):=jc 7 h.blk;have z:w.cell? (jB P 4)=some (jL q s.sp1.length c):=by rw[<-v];exact jc 4 h.blk
 rcases pc d with⟨A,B,rfl,rfl⟩|⟨A,C,rfl⟩
 ·obtain⟨G,D⟩:∃G,G=lR P R a w (s.ts.length:Int) {s with ts:=s.ts++[1],sp1:=s.sp1++[s.ts.length],u1:=s.u1+1}:=⟨_,rfl⟩;obtain⟨u,E⟩:=aB s.u1;obtain⟨n,F⟩:=aB s.sp1.length;obtain⟨m,H⟩:=aB s.ts.length;have I:u=n:=by omega
  have J:n<=100000:=by have:=h.ok.p1;have:=h.ok.ts;omega
  have K:Hid (∀W,Wc R W P a f j l o s/\Lw P R R w W->aA 68 #[ptr P,jV 1] W (Sc P R a j l o W (m:Int) {s with ts:=s.ts++[1]})):=λW L=>by
   rw[H];exact wn L.1 (by unfold h9;rw[show(decide (s.ts.length<100000)&&kh 1)=true by simp[B,kh]];rfl)
  have M:Hid (∀N O Q,Wc N O P a Q j l o {s with ts:=s.ts++[1]}/\Lw P R N w O->∃g S T,(Builtin.append_ #[100,100] 100 #[jL q n c,jL (some (jA O.heap.size)) 1 1]).run Tryz.prog (O.alloc (jC #[jV (m:Int)] 3))= .ok (jL (some (jA g)) (n+1) S) T/\T.cell? (jB P 4)=some (jL q n c)/\T.frozen? (jB P 4)=false/\∃U,Wc U (T.setCell (jB P 4) (jL (some (jA g)) (n+1) S)) P a Q j (jL (some (jA g)) (n+1) S) o {s with ts:=s.ts++[1],sp1:=s.sp1++[s.ts.length]}/\Lw P R U w (T.setCell (jB P 4) (jL (some (jA g)) (n+1) S))):=by
   rintro N O Q ⟨h1,h2⟩;obtain⟨g,S,T,V,Y,Z,J,A0⟩:=wm 3 100 1 8 _ info3 rfl (by decide) (by omega) Ah O P l s.sp1.length _ h1.p1 [jV (m:Int)] rfl (λu A=>by simp at A;subst A;rfl) (by omega) (aL h1.ltP);obtain⟨L,A1⟩:=h1.app1 (p:=m) Z Y J A0 (by rw[H];exact h.ok.tak1 B);have Y:T.heap[P]?=_:=(Z.block P (by have:=h1.ltP;simp;omega) (λe=>by have:=h1.rP;rw[h1.r1 P e.symm]at this;omega)).trans ((ed h1.ltP).trans h1.blk);rw[<-F]at L A1 V;rw[v,<-F]at V;exact⟨g,S,T,V,by rw[F,<-v];exact jc 4 Y,ea Y 4,_,by rw[H]at L;exact L,h2.trans A1⟩
  have J:Hid (∀N O Q,Wc N O P a Q j l o {s with ts:=s.ts++[1]}->O.cell? (jB P 4)=some (jL q n c)):=λN O Q h1=>by rw[F,<-v];exact jc 4 h1.blk
  have V:Hid (∀U Z Y g S,Wc U Z P a Y j (jL (some (jA g)) (n+1) S) o {s with ts:=s.ts++[1],sp1:=s.sp1++[s.ts.length]}/\Lw P R U w Z->(∀k,G (jR (jV (m:Int))) ((Z.setCell (jB P 7) (jV ((n:Int)+1))).drew.drewN k))/\(Z.setCell (jB P 7) (jV ((n:Int)+1))).cell? (jB P 7)=some (jV ((n:Int)+1))/\(Z.setCell (jB P 7) (jV ((n:Int)+1))).cell? (jB P 4)=some (jL (some (jA g)) (n+1) S)/\(Z.setCell (jB P 7) (jV ((n:Int)+1))).cell? (jB g n)=some (jV (m:Int))/\Z.cell? (jB P 7)=some (jV (n:Int))/\Z.frozen? (jB P 7)=false):=by
   rintro U Z Y g S ⟨h1,h2⟩;have Y:=aH Z P 7 _ _ (jV ((n:Int)+1)) h1.blk;obtain⟨L,A1⟩:=h1.setU (w':=Z.setCell (jB P 7) (jV ((n:Int)+1))) (s':={s with ts:=s.ts++[1],sp1:=s.sp1++[s.ts.length],u1:=s.u1+1}) (no:=0) je (λb A2 A3=>aG _ _ _ _ A3) (by rw[Y,<-I,E];rfl) rfl rfl rfl rfl rfl (h1.ok.us (by show s.u1+1<=100001;omega) h1.ok.u2);have A4:=L.ltP;refine⟨λk=>by rw[D,H];exact⟨rfl,U,⟨_,_,_,_,L.on (λ_ _=>rfl) ((eH (P-1) _).trans ((gD _ k).mono (aP (cM _ _) (aL A4))))⟩,(h2.trans A1).trans ⟨(eH (P-1) _).trans ((gD _ k).mono (aP (cM _ _) (aL A4))),λ_ _=>rfl,λ_ _ _=>rfl⟩⟩,jc 7 Y,?_,?_,?_,ea h1.blk 7⟩
   ·exact jc 4 Y
   ·have:=L.p1.cells (g:=g) rfl n (jV (m:Int)) (by rw[F,H];simp[oH]);have e:((jA g):Addr).add n=(jB g n):=by unfold Addr.add;split<;>simp_all
    rw[e]at this;exact this
   ·rw[<-I,E];exact jc 7 h1.blk
  rw[<-E]at y;rw[<-F]at z;rw[I]at y;rw[<-D];clear h d A r v x E F D B H I;clear u;go_enter Tryz.func213,Tryz.ntmps213
  go_wp2_with fail
  go_quiet (fail)
  go_wp2_with fail
  have H:Hid (Wc R (w.drewN nq).drew P a f j l o s/\Lw P R R w (w.drewN nq).drew):=t.out (nq+1);have A5:(w.drewN nq).cell? (jB P 4)=some (jL q n c):=z;generalize w.drewN nq=W0 at H A5⊢
  go_region_law (first
   |(refine kK rfl (.tmp 26) (.tmp 30) 100 rfl (by simp[Act.eval]) (by simp[Act.eval]) A6.out ?_)
   |(go_simp;go_at_call 68;refine(K.out _ H.out).mono ?_;rintro e w1 ⟨rfl,N,Q,K,B⟩;obtain⟨g,S,T,A7,A8,A9,U,U,B0⟩:=M.out N w1 Q ⟨K,H.out.2.trans B⟩;have M:w1.cell? (jB P 4)=some (jL q n c):=J.out _ _ _ K;have N:(w1.alloc (jC #[jV (m:Int)] 3)).cell? (jB P 4)=some (jL q n c):=eF M;have A6:Hid (_=_):=A7;have Q:Hid (_/\_):=⟨U,B0⟩;clear K B A7 U B0;dsimp only))
  all_goals
   obtain⟨H,J,B,K,U,B1⟩:=V.out _ _ _ _ _ Q.out;generalize Q:T.setCell (jB P 4) (jL (some (jA g)) (n+1) S)=Z at H J B K U B1⊢;have S:Hid (∀k,G (jR (jV (m:Int))) ((Z.setCell (jB P 7) (jV ((n:Int)+1))).drew.drewN k)):=H;clear H Q M A8 A9 A6 N
   go_wp2_with fail
   go_region
   go_wp2_with fail
   go_quiet (fail)
   go_wp2;exact S.out _
 ·have T:=(aK.1 C).1;have A3:((s.u1:Int)==(s.sp1.length:Int))=false:=by simp;omega
  obtain⟨Z,M,e,-,-⟩:=h.p1.form (by omega);rw[v]at e;injection e with e1 e2 e3;subst e1;obtain⟨u,E⟩:=aB s.u1;obtain⟨n,F⟩:=aB s.sp1.length;obtain⟨G,D⟩:∃G,G=lR P R a w (p:Int) {s with u1:=s.u1+1}:=⟨_,rfl⟩;have V:Hid (∀O,Wc R O P a f j l o s/\Lw P R R w O->(∀k,G (jR (jV (p:Int))) ((O.setCell (jB P 7) (jV ((u:Int)+1))).drew.drewN k))/\(O.setCell (jB P 7) (jV ((u:Int)+1))).cell? (jB P 7)=some (jV ((u:Int)+1))/\(O.setCell (jB P 7) (jV ((u:Int)+1))).cell? (jB P 4)=some (jL (some (jA Z)) n c)/\(O.setCell (jB P 7) (jV ((u:Int)+1))).cell? (jB Z u)=some (jV (p:Int))/\O.cell? (jB P 7)=some (jV (u:Int))/\O.frozen? (jB P 7)=false):=by
   rintro O ⟨h1,h2⟩;have Y:=aH O P 7 _ _ (jV ((u:Int)+1)) h1.blk;have N:=h1.ok.p1;have Q:=h1.ok.ts;obtain⟨L,A1⟩:=h1.setU (w':=O.setCell (jB P 7) (jV ((u:Int)+1))) (s':={s with u1:=s.u1+1}) (no:=0) je (λb A2 A3=>aG _ _ _ _ A3) (by rw[Y,E];rfl) rfl rfl rfl rfl rfl (h1.ok.us (by show s.u1+1<=100001;omega) h1.ok.u2);have A4:=L.ltP;refine⟨λk=>by rw[D];exact⟨rfl,R,⟨_,_,_,_,L.on (λ_ _=>rfl) ((eH (P-1) _).trans ((gD _ k).mono (aP (cM _ _) (aL A4))))⟩,(h2.trans A1).trans ⟨(eH (P-1) _).trans ((gD _ k).mono (aP (cM _ _) (aL A4))),λ_ _=>rfl,λ_ _ _=>rfl⟩⟩,jc 7 Y,?_,?_,?_,ea h1.blk 7⟩
   ·rw[F,<-v];exact jc 4 Y
   ·have:=(v▸L.p1).cells (g:=Z) rfl u (jV (p:Int)) (by rw[E];simp[oH,C]);have e:((jA Z):Addr).add u=(jB Z u):=by unfold Addr.add;split<;>simp_all
    rw[e]at this;exact this
   ·rw[E];exact jc 7 h1.blk
  have I:u<n:=by omega
  have a:u<=100000:=by have:=h.ok.p1;have:=h.ok.ts;omega
  rw[<-E,<-F]at A3;rw[<-E]at y;rw[<-F]at z;rw[<-D];clear h d A C r v x T E F e2 e3 D;go_enter Tryz.func213,Tryz.ntmps213
  go_wp2_with fail
  go_quiet (fail)
  go_wp2_with fail
  obtain⟨H,J,B,K,U,B1⟩:=V.out _ (t.out nq);generalize w.drewN nq=O at H J B K U B1⊢;have S:Hid (∀k,G (jR (jV (p:Int))) ((O.setCell (jB P 7) (jV ((u:Int)+1))).drew.drewN k)):=H;clear H;go_region
  go_wp2_with fail
  go_quiet (fail)
  go_wp2;exact S.out _
theorem sU{s s':Wr}{p:Nat}(h:rz s=some (p,s')):(s.u2=s.sp2.length/\s.ts.length<100000/\p=s.ts.length/\s'={s with ts:=s.ts++[2],sp2:=s.sp2++[s.ts.length],u2:=s.u2+1})\/(s.u2≠s.sp2.length/\s.sp2[s.u2]?=some p/\s'={s with u2:=s.u2+1}):=by
 unfold rz at h;split at h
 ·rename_i hc;split at h
  ·rename_i a;injection h with h;injection h with h1 h2;exact .inl ⟨hc,a,h1.symm,h2.symm⟩
  ·cases h
 ·rename_i hc;split at h
  ·rename_i c b;injection h with h;injection h with h1 h2;subst h1;exact .inr ⟨hc,b,h2.symm⟩
  ·cases h
theorem jG.tak2{s:Wr}(h:jG s)(a:s.ts.length<100000):jG {s with ts:=s.ts++[2],sp2:=s.sp2++[s.ts.length]}:=
 have h1:=h.place (k:=2) a (by decide)
 ⟨h1.ts,h1.ss,h1.p1,by show(s.sp2++[s.ts.length]).length<=(s.ts++[2]).length;have:=h.p2;simp;omega,h1.nm,h1.lb,h1.u1,h1.u2,h1.oks,h1.okt,h1.s1,(λp b=>by
  rcases bE.1 b with b|b
  ·exact h.s2 p b
  ·rw[a_]at b;omega),h1.no,h1.nms⟩
theorem CZ{R:Nat->Nat}{w:jW}{P a:Nat}{s s':Wr}{p:Nat}(h:fC R w P a s)(d:rz s=some (p,s')):
  aA 213 #[ptr P,jV 2] w (lR P R a w (p:Int) s'):=by
 obtain⟨f,j,l,o,h⟩:=h;have r:jG s:=h.ok;have t:Hid (∀n,Wc R (w.drewN n) P a f j l o s/\Lw P R R w (w.drewN n)):=λn=>⟨h.on (λ_ _=>rfl) ((gD w n).mono (by have:=h.ltP;omega)),(gD w n).mono (by have:=h.ltP;omega),λ_ _=>rfl,λ_ _ _=>rfl⟩;obtain⟨q,c,v⟩:=eh h.p2;have x:Hid (o=jL q s.sp2.length c):=v;have y:w.cell? (jB P 8)=some (jV (s.u2:Int)):=jc 8 h.blk;have z:w.cell? (jB P 5)=some (jL q s.sp2.length c):=by rw[<-v];exact jc 5 h.blk
 rcases sU d with⟨A,B,rfl,rfl⟩|⟨A,C,rfl⟩
 ·obtain⟨G,D⟩:∃G,G=lR P R a w (s.ts.length:Int) {s with ts:=s.ts++[2],sp2:=s.sp2++[s.ts.length],u2:=s.u2+1}:=⟨_,rfl⟩;obtain⟨u,E⟩:=aB s.u2;obtain⟨n,F⟩:=aB s.sp2.length;obtain⟨m,H⟩:=aB s.ts.length;have I:u=n:=by omega
  have J:n<=100000:=by have:=h.ok.p2;have:=h.ok.ts;omega
  have K:Hid (∀W,Wc R W P a f j l o s/\Lw P R R w W->aA 68 #[ptr P,jV 2] W (Sc P R a j l o W (m:Int) {s with ts:=s.ts++[2]})):=λW L=>by
   rw[H];exact wn L.1 (by unfold h9;rw[show(decide (s.ts.length<100000)&&kh 2)=true by simp[B,kh]];rfl)
  have M:Hid (∀N O Q,Wc N O P a Q j l o {s with ts:=s.ts++[2]}/\Lw P R N w O->∃g S T,(Builtin.append_ #[100,100] 100 #[jL q n c,jL (some (jA O.heap.size)) 1 1]).run Tryz.prog (O.alloc (jC #[jV (m:Int)] 3))= .ok (jL (some (jA g)) (n+1) S) T/\T.cell? (jB P 5)=some (jL q n c)/\T.frozen? (jB P 5)=false/\∃U,Wc U (T.setCell (jB P 5) (jL (some (jA g)) (n+1) S)) P a Q j l (jL (some (jA g)) (n+1) S) {s with ts:=s.ts++[2],sp2:=s.sp2++[s.ts.length]}/\Lw P R U w (T.setCell (jB P 5) (jL (some (jA g)) (n+1) S))):=by
   rintro N O Q ⟨h1,h2⟩;obtain⟨g,S,T,V,Y,Z,J,A0⟩:=wm 3 100 1 8 _ info3 rfl (by decide) (by omega) Ah O P o s.sp2.length _ h1.p2 [jV (m:Int)] rfl (λu A=>by simp at A;subst A;rfl) (by omega) (aL h1.ltP);obtain⟨L,A1⟩:=h1.app2 (p:=m) Z Y J A0 (by rw[H];exact h.ok.tak2 B);have Y:T.heap[P]?=_:=(Z.block P (by have:=h1.ltP;simp;omega) (λe=>by have:=h1.rP;rw[h1.r2 P e.symm]at this;omega)).trans ((ed h1.ltP).trans h1.blk);rw[<-F]at L A1 V;rw[v,<-F]at V;exact⟨g,S,T,V,by rw[F,<-v];exact jc 5 Y,ea Y 5,_,by rw[H]at L;exact L,h2.trans A1⟩
  have J:Hid (∀N O Q,Wc N O P a Q j l o {s with ts:=s.ts++[2]}->O.cell? (jB P 5)=some (jL q n c)):=λN O Q h1=>by rw[F,<-v];exact jc 5 h1.blk
  have V:Hid (∀U Z Y g S,Wc U Z P a Y j l (jL (some (jA g)) (n+1) S) {s with ts:=s.ts++[2],sp2:=s.sp2++[s.ts.length]}/\Lw P R U w Z->(∀k,G (jR (jV (m:Int))) ((Z.setCell (jB P 8) (jV ((n:Int)+1))).drew.drewN k))/\(Z.setCell (jB P 8) (jV ((n:Int)+1))).cell? (jB P 8)=some (jV ((n:Int)+1))/\(Z.setCell (jB P 8) (jV ((n:Int)+1))).cell? (jB P 5)=some (jL (some (jA g)) (n+1) S)/\(Z.setCell (jB P 8) (jV ((n:Int)+1))).cell? (jB g n)=some (jV (m:Int))/\Z.cell? (jB P 8)=some (jV (n:Int))/\Z.frozen? (jB P 8)=false):=by
   rintro U Z Y g S ⟨h1,h2⟩;have Y:=aH Z P 8 _ _ (jV ((n:Int)+1)) h1.blk;obtain⟨L,A1⟩:=h1.setU (w':=Z.setCell (jB P 8) (jV ((n:Int)+1))) (s':={s with ts:=s.ts++[2],sp2:=s.sp2++[s.ts.length],u2:=s.u2+1}) (no:=0) je (λb A2 A3=>aG _ _ _ _ A3) (by rw[Y,<-I,E];rfl) rfl rfl rfl rfl rfl (h1.ok.us h1.ok.u1 (by show s.u2+1<=100001;omega));have A4:=L.ltP;refine⟨λk=>by rw[D,H];exact⟨rfl,U,⟨_,_,_,_,L.on (λ_ _=>rfl) ((eH (P-1) _).trans ((gD _ k).mono (aP (cM _ _) (aL A4))))⟩,(h2.trans A1).trans ⟨(eH (P-1) _).trans ((gD _ k).mono (aP (cM _ _) (aL A4))),λ_ _=>rfl,λ_ _ _=>rfl⟩⟩,jc 8 Y,?_,?_,?_,ea h1.blk 8⟩
   ·exact jc 5 Y
   ·have:=L.p2.cells (g:=g) rfl n (jV (m:Int)) (by rw[F,H];simp[oH]);have e:((jA g):Addr).add n=(jB g n):=by unfold Addr.add;split<;>simp_all
    rw[e]at this;exact this
   ·rw[<-I,E];exact jc 8 h1.blk
  rw[<-E]at y;rw[<-F]at z;rw[I]at y;rw[<-D];clear h d A r v x E F D B H I;clear u;go_enter Tryz.func213,Tryz.ntmps213
  go_wp2_with fail
  go_quiet (fail)
  go_wp2_with fail
  have H:Hid (Wc R (w.drewN nq).drew P a f j l o s/\Lw P R R w (w.drewN nq).drew):=t.out (nq+1);have A5:(w.drewN nq).cell? (jB P 5)=some (jL q n c):=z;generalize w.drewN nq=W0 at H A5⊢
  go_region_law (first
   |(refine kK rfl (.tmp 26) (.tmp 30) 100 rfl (by simp[Act.eval]) (by simp[Act.eval]) A6.out ?_)
   |(go_simp;go_at_call 68;refine(K.out _ H.out).mono ?_;rintro e w1 ⟨rfl,N,Q,K,B⟩;obtain⟨g,S,T,A7,A8,A9,U,U,B0⟩:=M.out N w1 Q ⟨K,H.out.2.trans B⟩;have M:w1.cell? (jB P 5)=some (jL q n c):=J.out _ _ _ K;have N:(w1.alloc (jC #[jV (m:Int)] 3)).cell? (jB P 5)=some (jL q n c):=eF M;have A6:Hid (_=_):=A7;have Q:Hid (_/\_):=⟨U,B0⟩;clear K B A7 U B0;dsimp only))
  all_goals
   obtain⟨H,J,B,K,U,B1⟩:=V.out _ _ _ _ _ Q.out;generalize Q:T.setCell (jB P 5) (jL (some (jA g)) (n+1) S)=Z at H J B K U B1⊢;have S:Hid (∀k,G (jR (jV (m:Int))) ((Z.setCell (jB P 8) (jV ((n:Int)+1))).drew.drewN k)):=H;clear H Q M A8 A9 A6 N
   go_wp2_with fail
   go_region
   go_wp2_with fail
   go_quiet (fail)
   go_wp2;exact S.out _
 ·have T:=(aK.1 C).1;have A3:((s.u2:Int)==(s.sp2.length:Int))=false:=by simp;omega
  obtain⟨Z,M,e,-,-⟩:=h.p2.form (by omega);rw[v]at e;injection e with e1 e2 e3;subst e1;obtain⟨u,E⟩:=aB s.u2;obtain⟨n,F⟩:=aB s.sp2.length;obtain⟨G,D⟩:∃G,G=lR P R a w (p:Int) {s with u2:=s.u2+1}:=⟨_,rfl⟩;have V:Hid (∀O,Wc R O P a f j l o s/\Lw P R R w O->(∀k,G (jR (jV (p:Int))) ((O.setCell (jB P 8) (jV ((u:Int)+1))).drew.drewN k))/\(O.setCell (jB P 8) (jV ((u:Int)+1))).cell? (jB P 8)=some (jV ((u:Int)+1))/\(O.setCell (jB P 8) (jV ((u:Int)+1))).cell? (jB P 5)=some (jL (some (jA Z)) n c)/\(O.setCell (jB P 8) (jV ((u:Int)+1))).cell? (jB Z u)=some (jV (p:Int))/\O.cell? (jB P 8)=some (jV (u:Int))/\O.frozen? (jB P 8)=false):=by
   rintro O ⟨h1,h2⟩;have Y:=aH O P 8 _ _ (jV ((u:Int)+1)) h1.blk;have N:=h1.ok.p2;have Q:=h1.ok.ts;obtain⟨L,A1⟩:=h1.setU (w':=O.setCell (jB P 8) (jV ((u:Int)+1))) (s':={s with u2:=s.u2+1}) (no:=0) je (λb A2 A3=>aG _ _ _ _ A3) (by rw[Y,E];rfl) rfl rfl rfl rfl rfl (h1.ok.us h1.ok.u1 (by show s.u2+1<=100001;omega));have A4:=L.ltP;refine⟨λk=>by rw[D];exact⟨rfl,R,⟨_,_,_,_,L.on (λ_ _=>rfl) ((eH (P-1) _).trans ((gD _ k).mono (aP (cM _ _) (aL A4))))⟩,(h2.trans A1).trans ⟨(eH (P-1) _).trans ((gD _ k).mono (aP (cM _ _) (aL A4))),λ_ _=>rfl,λ_ _ _=>rfl⟩⟩,jc 8 Y,?_,?_,?_,ea h1.blk 8⟩
   ·rw[F,<-v];exact jc 5 Y
   ·have:=(v▸L.p2).cells (g:=Z) rfl u (jV (p:Int)) (by rw[E];simp[oH,C]);have e:((jA Z):Addr).add u=(jB Z u):=by unfold Addr.add;split<;>simp_all
    rw[e]at this;exact this
   ·rw[E];exact jc 8 h1.blk
  have I:u<n:=by omega
  have a:u<=100000:=by have:=h.ok.p2;have:=h.ok.ts;omega
  rw[<-E,<-F]at A3;rw[<-E]at y;rw[<-F]at z;rw[<-D];clear h d A C r v x T E F e2 e3 D;go_enter Tryz.func213,Tryz.ntmps213
  go_wp2_with fail
  go_quiet (fail)
  go_wp2_with fail
  obtain⟨H,J,B,K,U,B1⟩:=V.out _ (t.out nq);generalize w.drewN nq=O at H J B K U B1⊢;have S:Hid (∀k,G (jR (jV (p:Int))) ((O.setCell (jB P 8) (jV ((u:Int)+1))).drew.drewN k)):=H;clear H;go_region
  go_wp2_with fail
  go_quiet (fail)
  go_wp2;exact S.out _
end Go.Proofs.YtnfhpdbbfejioaaGreatDoor.Mid
