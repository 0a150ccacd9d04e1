/- GQ GR GS GT GU GV GW GX GY HJ -/
import Derived.Test.YtnfhpdbbfejioaaGreatDoorJ10
import Derived.Test.YtnfhpdbbfejioaaGreatDoorJ12
set_option linter.unusedVariables false
set_option linter.unusedSimpArgs false
set_option maxRecDepth 100000
set_option maxHeartbeats 16000000
namespace Go.Proofs.YtnfhpdbbfejioaaGreatDoor
open Go Go.RowKit
variable {X:Cx}{w w1 w0 w':jW}{r:Rs}{d c f n b g j P bv bs i bp kb:Nat}{a k:Int}{e:Ending}{nm:By}{v l el ix th t:Tr}{vv x u:jU}{s:aa}{F:eR}{xs:List Tr}{cb:Array Value}
def GK(X:Cx)(g:Nat)(t:Tr)(v:jU):Prop:=∀(w:jW)(r:Rs)(d a n b:Nat)(o:Own),St X.w0 X.P X.fv w r d->jw w a n r.ab o->X.w0.heap.size<=a->n+1+r.s.fuel<=b->b<=10000000->(∀out,oh X.fs g d o t r.s≠.error (99,out))->S2 v a w (SP X w r d a b (oh X.fs g d o t r.s))
def IG(X:Cx)(g:Nat)(t:Tr)(v:jU):Prop:=∀(w:jW)(r:Rs)(d a n b:Nat)(o:Own),St X.w0 X.P X.fv w r d->jw w a n r.ab o->X.w0.heap.size<=a->n+r.s.fuel<=b->b<=10000000->(∀out,iq X.fs g d o t r.s≠.error (99,out))->S2 v a w (SP X w r d a b (iq X.fs g d o t r.s))
theorem lz{a:Nat}{f:Rs}{out:List Int}(h1:St X.w0 X.P X.fv w1 f d)(g:Fz X.P (λb=>b=a) w r w1 f)(h:yf f out k e):SP X w r d a c (.error (k,out)) e w1:=⟨f,h1,g,.inr (.inr ⟨k,out,rfl,h⟩)⟩
theorem wa{a:Nat}{e:Rs}(h1:St X.w0 X.P X.fv w1 e d)(f:Fz X.P (λb=>b=a) w r w1 e):SP X w r d a c (.error (k,e.s.out)) (kz k) w1:=lz h1 f ⟨rfl,[],rfl,λz g=>by cases g⟩
theorem TZ(fs:By->Option eR)(g d:Nat)(o:Own)(a:Int)(nm:By)(b v c el:Tr):oh fs (g+1) d o (st 6 a nm b v c el)=au (eM fs g d o v) λx=>ar (some x.1,o):=by rw[jZ];simp
theorem T3(fs:By->Option eR)(g d:Nat)(o:Own)(a:Int)(nm:By)(b v c el:Tr):oh fs (g+1) d o (st 7 a nm b v c el)=au (eM fs g d o v) λx=>au (af x.1) λ_=>ar (none,o):=by rw[jZ];simp
theorem T4(fs:By->Option eR)(g d:Nat)(o:Own)(a:Int)(nm:By)(b v c el:Tr):oh fs (g+1) d o (st 8 a nm b v c el)=au (eM fs g d o v) λ_=>ar (none,o):=by rw[jZ];simp
theorem rD{a K:Nat}{o:Own}{b:Rs}(c:St X.w0 X.P X.fv w r d)(e:jw w a n r.ab o)(f:Fz X.P iL w r w1 b)(g:b.s.fuel<=r.s.fuel)(h:n+1+r.s.fuel<=K):jw w1 a n b.ab o/\n+1+b.s.fuel<=K:=⟨e.keeps c f,by omega⟩
theorem go_ret6(b:nS X){j:Tr}{n:jU}(q:X.w0.heap[f]?=some (jC #[n] 245))(r:mh X g v n):GK X (g+1) (st 6 a nm j v l el) (.func (.func 139) #[] #[ptr f]):=by
 intro w t d u m z o A B C D E F;rw[TZ]at F⊢;have h1:=A.old q b (by decide);have H:=jc 0 h1;have I:Hid (St X.w0 X.P X.fv w t d):=A;have J:Hid (jw w u m t.ab o):=B;have K:Hid (m+1+t.s.fuel<=z/\z<=10000000):=⟨D,E⟩;have L:Hid (nS X):=b;obtain⟨k,M,rfl,N,hc⟩:=r w t d u m o A B (fP F).1;have O:Hid (aA k (#[.map (some u)]++M) w (EP X w t d (eM X.fs g d o v t.s))):=hc;have Q:Hid (∀y S,eM X.fs g d o v t.s= .ok (y,S)->S.fuel<=t.s.fuel):=λy S h=>(jo X.fs g).1 d o v t.s y S h;have T:=kj.xq N;refine⟨139,_,rfl,OM,?_⟩;show aA 139 #[.map (some u),ptr f] w _;generalize U:SP X w t d u z (au (eM X.fs g d o v) (λx=>ar (some x.1,o)) t.s)=G;have V:Hid (SP X w t d u z (au (eM X.fs g d o v) (λx=>ar (some x.1,o)) t.s)=G):=U;clear A B F q h1 U hc r N D E b;have W:=BI;go_enter Tryz.func139,Tryz.ntmps139;go_wp2;refine O.out.mono ?_
 rintro e w1 ⟨Y,h1,Z,⟨y,p,j,c,l,rfl,n⟩|⟨C,out,l,H⟩⟩
 rotate_left
 ·obtain⟨_,L,rfl,_⟩:=id H;refine⟨rfl,?_⟩;rw[<-V.out,gS l];exact lz h1 Z.no H
 have M:Hid (St X.w0 X.P X.fv w1 Y d/\Fz X.P iL w t w1 Y):=⟨h1,Z⟩;have S:Hid (eM X.fs g d o v t.s= .ok (y,Y.s)):=l;have f:Hid (jw w1 u m Y.ab o/\m+1+Y.s.fuel<=z):=rD I.out J.out Z (Q.out _ _ l) K.out.1;clear h1 Z l n;go_wp2;refine⟨rfl,?_⟩
 rw[<-V.out,ft S.out];exact⟨Y,M.out.1,M.out.2.no,.inr (.inl ⟨y.1,o,rfl,rfl⟩)⟩
theorem go_do8(b:nS X){j:Tr}{n:jU}(q:X.w0.heap[f]?=some (jC #[n] 245))(r:mh X g v n):GK X (g+1) (st 8 a nm j v l el) (.func (.func 142) #[] #[ptr f]):=by
 intro w t d u m x o z A B C D E;rw[T4]at E⊢;have h1:=z.old q b (by decide);have F:=jc 0 h1;have H:Hid (St X.w0 X.P X.fv w t d):=z;have I:Hid (jw w u m t.ab o):=A;have J:Hid (m+1+t.s.fuel<=x/\x<=10000000):=⟨C,D⟩;have K:Hid (nS X):=b;obtain⟨k,L,rfl,M,hc⟩:=r w t d u m o z A (fP E).1;have N:Hid (aA k (#[.map (some u)]++L) w (EP X w t d (eM X.fs g d o v t.s))):=hc;have O:Hid (∀y Q,eM X.fs g d o v t.s= .ok (y,Q)->Q.fuel<=t.s.fuel):=λy Q h=>(jo X.fs g).1 d o v t.s y Q h;have S:=kj.xq M;refine⟨142,_,rfl,OP,?_⟩;show aA 142 #[.map (some u),ptr f] w _;generalize T:SP X w t d u x (au (eM X.fs g d o v) (λ_=>ar (none,o)) t.s)=G;have U:Hid (SP X w t d u x (au (eM X.fs g d o v) (λ_=>ar (none,o)) t.s)=G):=T;clear z A E q h1 T hc r M C D b;have V:=BI;go_enter Tryz.func142,Tryz.ntmps142;go_wp2;refine N.out.mono ?_
 rintro e w1 ⟨W,h1,Y,⟨y,p,Z,c,j,rfl,l⟩|⟨n,out,j,B⟩⟩
 rotate_left
 ·obtain⟨_,F,rfl,_⟩:=id B;refine⟨rfl,?_⟩;rw[<-U.out,gS j];exact lz h1 Y.no B
 have K:Hid (St X.w0 X.P X.fv w1 W d/\Fz X.P iL w t w1 W):=⟨h1,Y⟩;have L:Hid (eM X.fs g d o v t.s= .ok (y,W.s)):=j;have Q:Hid (jw w1 u m W.ab o/\m+1+W.s.fuel<=x):=rD H.out I.out Y (O.out _ _ j) J.out.1;clear h1 Y j l;go_wp2;go_end0;rw[<-U.out,ft L.out]
 exact⟨W,K.out.1,K.out.2.no,.inl ⟨o,m,rfl,rfl,Q.out.1,by have:=Q.out.2;omega⟩⟩
theorem go_print7(b:nS X){n:Tr}(q:X.w0.heap[j]?=some (jC #[ptr X.P] 57))(r:X.w0.heap[f]?=some (jC #[vv] 245))(t:mh X g v vv):GK X (g+1) (st 7 a nm l v n el) (.func (.func 140) #[] #[ptr j,ptr f]):=by
 intro w u d z m A o B C D E F H;rw[T3]at H⊢;have I:w.cell? (jA f)=some vv:=jc 0 (B.old r b (by decide));have J:w.cell? (jA j)=some (ptr X.P):=jc 0 (B.old q b (by decide));have K:Hid (X.w0.heap[j]?=some (jC #[ptr X.P] 57)):=q;have L:Hid (St X.w0 X.P X.fv w u d):=B;have M:Hid (jw w z m u.ab o):=C;have N:Hid (m+1+u.s.fuel<=A/\A<=10000000):=⟨E,F⟩;have O:Hid (nS X):=b;obtain⟨k,Q,rfl,S,-⟩:=t w u d z m o B C (fP H).1;have T:Hid (∀W,az w W->aA k (#[.map (some z)]++Q) W (EP X W u d (eM X.fs g d o v u.s))):=λW U=>by
  obtain⟨V,Y,Z,_,l⟩:=t W u d z m o (B.below U) (C.below U) (fP H).1;injection Z with Z _ e4;injection Z with Z;subst Z;subst e4;exact l
 have n:Hid (∀y D,eM X.fs g d o v u.s= .ok (y,D)->D.fuel<=u.s.fuel):=λy D h=>(jo X.fs g).1 d o v u.s y D h;have I:=kj.xq S;refine⟨140,_,rfl,OO,?_⟩;show aA 140 #[.map (some z),ptr j,ptr f] w _;generalize J:SP X w u d z A (au (eM X.fs g d o v) (λx=>au (af x.1) λ_=>ar (none,o)) u.s)=G;have Q:Hid (SP X w u d z A (au (eM X.fs g d o v) (λx=>au (af x.1) λ_=>ar (none,o)) u.s)=G):=J;clear B C H r J t S E F b q;have V:=BI;go_enter Tryz.func140,Tryz.ntmps140
 go_wp2_with fail
 go_region_with
  (first
   |(go_at_call 141;refine(mi X _ Y d _ U.out.1).mono ?_;rintro e Z (⟨h2,rfl,rfl⟩|⟨h2,rfl,l,D,f⟩);exact(by refine⟨rfl,?_⟩;rw[<-Q.out,ft I.out,show au (af y.1) (λ_=>ar ((none,o):Option Int×Own)) Y.s= .error (7,Y.s.out) from gS (if_pos h2)];exact wa U.out.1 U.out.2.no);have b:Hid (St X.w0 X.P X.fv Z (Y.tell1 l y.1) d/\Fz X.P iL w1 Y Z (Y.tell1 l y.1)):=⟨D,f⟩;have q:Hid (Y.s.out.length<200):=h2;clear h2 D f)
   |(refine(T.out _ (by repeat first|exact aJ _ _|refine bF ?_)).mono ?_;rintro e w1 ⟨Y,h1,r,⟨y,p,t,c,B,rfl,C⟩|⟨E,out,B,F⟩⟩;rotate_left;exact(by obtain⟨_,H,rfl,_⟩:=id F;refine⟨rfl,?_⟩;rw[<-Q.out,gS B];exact lz h1 ((Fz.below (by repeat first|exact aJ _ _|refine bF ?_)).trans r).no F);have U:Hid (St X.w0 X.P X.fv w1 Y d/\Fz X.P iL w u w1 Y):=⟨h1,(Fz.below (by repeat first|exact aJ _ _|refine bF ?_)).trans r⟩;have I:Hid (eM X.fs g d o v u.s= .ok (y,Y.s)):=B;have S:Hid (jw w1 z m Y.ab o/\m+1+Y.s.fuel<=A):=rD L.out M.out U.out.2 (n.out _ _ B) N.out.1;have J:w1.cell? (jA j)=some (ptr X.P):=jc 0 (h1.old K.out O.out (by decide));clear h1 r B C))
 all_goals
  go_wp2;go_end0;rw[<-Q.out,ft I.out,show au (af y.1) (λ_=>ar ((none,o):Option Int×Own)) Y.s= .ok ((none,o),(Y.tell1 l y.1).s) from ft (if_neg (by have:=q.out;omega))]
  exact⟨_,b.out.1,(U.out.2.trans b.out.2).no,.inl ⟨o,m,rfl,rfl,S.out.1.keeps U.out.1 b.out.2,by have:=S.out.2;show m+Y.s.fuel<=A;omega⟩⟩
theorem Ut(fs:By->Option eR)(g d:Nat)(o:Own)(c a:Int)(nm:By)(b v e el:Tr)(hc:c=1\/c=2):oh fs (g+1) d o (st c a nm b v e el)=au (eM fs g d o v) λx=>ar (none,(nm,x)::o):=by
 rw[jZ];rcases hc with rfl|rfl<;>simp
theorem Hv(o:Own)(nm:By)(y:Vl)(z:By):iP ((nm,y)::o) z=if z=nm then y else iP o z:=by
 unfold iP;by_cases h:z=nm
 ·subst h;simp
 ·have:(z==nm)=false:=by simpa using h
  rw[if_neg h];simp[List.lookup,this]
theorem jw.notX{M:Nat}{o:Own}(h:jw w M n r.ab o)(a:St X.w0 X.P X.fv w r d):¬Xs X.P r M:=by
 obtain⟨f,h1,h2⟩:=h;obtain⟨b,c,e⟩:=h1.obj;intro j;rcases j with rfl|j|j
 ·rw[a.pb]at e;cases e
 ·obtain⟨p,k,rfl⟩:=aT.1 j;obtain⟨i,m⟩:=a7 k;obtain⟨l,_,_,_,q⟩:=a.arr i p.1 p.2 m;rw[q]at e;cases e
 ·rcases a.out.2 with⟨s,_⟩|⟨g,t,u,s,v,x,_⟩
  ·rw[s]at j;cases j
  ·rw[s]at j;have:g=M:=by injection j
   subst this;rw[x]at e;cases e
theorem St.grown{a:jU}(h:St w0 P a w r d)(f:w.grownBy w' (some c))(g:¬Xs P r c)(j:w0.heap.size<=c):St w0 P a w' r d/\Fz P (λb=>b=c) w r w' r:=by
 have hk:∀b,b<w.heap.size->b≠c->w'.heap[b]?=w.heap[b]?:=λb m o=>f.block b m (λe=>o (by injection e));have p:=h.ltP;refine⟨⟨h.lt,aP h.le f.size,λb h1 h2=>?_,?_,h.inp,fX h.out (λk q=>hk k (h.out.lt k q).2 (λe=>g (.inr (.inr (e▸q))))),h.apart,h.alen,λi b n s=>?_,h.lo,h.nd,h.few,h.told,h.deep⟩,⟨f.os,f.tape,f.output,f.size,λb m _ t=>hk b m t,aN,λb h1 h2=>absurd h1 h2⟩⟩
 ·rw[hk b (aO h1 h.le) (by omega)];exact h.kp b h1 h2
 ·rw[hk P p (λe=>g (.inl e.symm))];exact h.pb
 ·obtain⟨l,u,v,x,y⟩:=h.arr i b n s;refine⟨l,u,v,x,?_⟩;rw[hk b (aC.1 y).1 (λe=>g (.inr (.inl (e▸aT.2 ⟨(b,n),aM s,rfl⟩))))];exact y
theorem Cl{a:Nat}{o:Own}(h:jw w a n r.ab o)(g:St X.w0 X.P X.fv w r d)(i:X.w0.heap.size<=a)(j:n<100000000)(nm:By)(k:nm.length<=1000000)(y:Vl)(p:jO)(l c:Nat)(m:pA r.ab y.2 (jL p l c)):
  ∃w',(Instr.mapUpdate 71 (.map (some a)) (jT ⟨nm.toArray⟩) (uF y.1 (jL p l c))).run Tryz.prog w= .ok () w'/\jw w' a (n+1) r.ab ((nm,y)::o)/\St X.w0 X.P X.fv w' r d/\Fz X.P (λb=>b=a) w r w' r:=by
 have q:=h.notX g;obtain⟨f,h1,h2⟩:=h;obtain⟨w',s,t,u⟩:=h1.put Mz j ⟨nm.toArray⟩ (by simpa[ByteArray.size] using k) (uF y.1 (jL p l c));obtain⟨v,x⟩:=g.grown u q i;have A:(⟨nm.toArray⟩:ByteArray).data.toList=nm:=by simp
 rw[A]at t;refine⟨w',s,⟨_,t,λz=>?_⟩,v,x⟩;rw[Hv];by_cases e:z=nm
 ·rw[if_pos e,if_pos e];exact⟨_,rfl,m⟩
 ·rw[if_neg e,if_neg e];exact h2 z
theorem go_set1(hP:nS X){c0:Int}(hc0:c0=1\/c0=2)(hnm:nm.length<=1000000)(hbs:sx X.w0 bs nm)(hb:X.w0.heap[bv]?=some (jC #[vv] 245))(hv:mh X g v vv):GK X (g+1) (st c0 a nm ix v th el) (.func (.func 143) #[] #[ptr bv,ptr bs]):=by
 intro w r0 d M m K o hs ho hM hK hK7 hne;rw[Ut (hc:=hc0)]at hne⊢;obtain⟨b,of,hb1,cs,hb2,hcs⟩:=hbs;have c1:w.cell? (jA bv)=some vv:=jc 0 (hs.old hb hP (by decide));obtain⟨ys,hys⟩:∃ys:ByteArray,ys=⟨nm.toArray⟩:=⟨_,rfl⟩;have HCells:Hid (∀W r,St X.w0 X.P X.fv W r d->W.cell? (jA bs)=some (jQ (some (jB b of)))/\W.cell? (jB b (of+2))=some (jT ys)/\W.cell? (jA bv)=some vv):=λW r h=>⟨jc 0 (h.old hb1 hP (by decide)),by rw[hys];exact eo (h.old hb2 hP (by decide)) hcs,jc 0 (h.old hb hP (by decide))⟩;obtain⟨d1,d2,d3⟩:=HCells.out w r0 hs;have HS:Hid (St X.w0 X.P X.fv w r0 d):=hs;have HO:Hid (jw w M m r0.ab o):=ho;have HK:Hid (m+1+r0.s.fuel<=K/\K<=10000000):=⟨hK,hK7⟩;have HM:Hid (X.w0.heap.size<=M/\nm.length<=1000000):=⟨hM,hnm⟩;have HYs:Hid (ys=⟨nm.toArray⟩):=hys;obtain⟨k,cap,rfl,hen,-⟩:=hv w r0 d M m o hs ho (fP hne).1;have HC:Hid (∀W,az w W->aA k (#[.map (some M)]++cap) W (EP X W r0 d (eM X.fs g d o v r0.s))):=λW hbW=>by
  obtain⟨k3,cap3,e3,_,hc3⟩:=hv W r0 d M m o (hs.below hbW) (ho.below hbW) (fP hne).1;injection e3 with e3 _ e4;injection e3 with e3;subst e3;subst e4;exact hc3
 have HFl:Hid (∀y s1,eM X.fs g d o v r0.s= .ok (y,s1)->s1.fuel<=r0.s.fuel):=λy s1 h=>(jo X.fs g).1 d o v r0.s y s1 h;have hen':=kj.xq hen;refine⟨143,_,rfl,OQ,?_⟩;show aA 143 #[.map (some M),ptr bv,ptr bs] w _;generalize hG:SP X w r0 d M K (au (eM X.fs g d o v) (λx=>ar (none,(nm,x)::o)) r0.s)=G;have HG:Hid (SP X w r0 d M K (au (eM X.fs g d o v) (λx=>ar (none,(nm,x)::o)) r0.s)=G):=hG;clear hs ho hne hb hG hv hen hK hK7 hP hb1 hb2 hcs hM hnm hys;go_enter Tryz.func143,Tryz.ntmps143
 go_wp2_with fail
 go_region_with
  (first
   |(refine(HC.out _ (by repeat first|exact aJ _ _|refine bF ?_)).mono ?_;rintro e w1 ⟨r1,h1,hf,⟨y,p,ll,c,hx,rfl,hq⟩|⟨k9,out,hx,he9⟩⟩;rotate_left;exact(by obtain⟨_,older,rfl,_⟩:=id he9;refine⟨rfl,?_⟩;rw[<-HG.out,gS hx];exact lz h1 ((Fz.below (by repeat first|exact aJ _ _|refine bF ?_)).trans hf).no he9);have HF:Hid (St X.w0 X.P X.fv w1 r1 d/\Fz X.P iL w r0 w1 r1):=⟨h1,(Fz.below (by repeat first|exact aJ _ _|refine bF ?_)).trans hf⟩;have HX:Hid (eM X.fs g d o v r0.s= .ok (y,r1.s)):=hx;have hW:=rD HS.out HO.out HF.out.2 (HFl.out _ _ hx) HK.out.1;have hpt:=Cl hW.1 h1 HM.out.1 (by have:=HK.out.2;omega) nm HM.out.2 y p ll c hq;rw[<-HYs.out]at hpt;obtain⟨w9,hup,hO9,hS9,hF9⟩:=hpt;have H9:Hid (jw w9 M (m+1) r1.ab ((nm,y)::o)/\St X.w0 X.P X.fv w9 r1 d/\Fz X.P (λb=>b=M) w1 r1 w9 r1/\m+1+r1.s.fuel<=K):=⟨hO9,hS9,hF9,hW.2⟩;obtain⟨q1,q2,q3⟩:=HCells.out w1 r1 h1;clear h1 hf hx hq hW hO9 hS9 hF9))
 all_goals
  go_wp2;go_end0;rw[<-HG.out,ft HX.out]
  exact⟨r1,H9.out.2.1,HF.out.2.no.trans H9.out.2.2.1,.inl ⟨_,m+1,rfl,rfl,H9.out.1,H9.out.2.2.2⟩⟩
theorem Uq(fs:By->Option eR)(g d:Nat)(o:Own)(a:Int)(nm:By)(b v c el:Tr):oh fs (g+1) d o (st 3 a nm b v c el)=au (eM fs g d o b) λi=>au (eM fs g d o v) λn=>au (aq (iP o nm).2 i.1 n.1) λ_=>ar (none,o):=by rw[jZ];simp
def Rs.put1(r:Rs)(i j:Nat)(n:Int):Rs:={r with s:={r.s with hp:=r.s.hp.modify i (λl=>l.set j n)}}
theorem St.putA{w0:World}{D:Value}{w:World}(h:St w0 P D w r d){k:Nat}{n:Int}(t:r.ab[i]?=some (b,k)):St w0 P D (w.setCell ⟨b,j,none⟩ (.int .i64 n)) (r.put1 i j n) d/\Fz P iL w r (w.setCell ⟨b,j,none⟩ (.int .i64 n)) (r.put1 i j n):=by
 have a:b∈r.ab.map (·.1):=aT.2 ⟨(b,k),aM t,rfl⟩;have o:∀x,x≠b->(w.setCell ⟨b,j,none⟩ (.int .i64 n)).heap[x]?=w.heap[x]?:=λx f=>aG _ _ _ _ f;have g:(w.setCell ⟨b,j,none⟩ (.int .i64 n)).heap.size=w.heap.size:=by simp
 have E:=h.lo b a;refine⟨⟨h.lt,by rw[g];exact h.le,λx h1 h2=>?_,?_,h.inp,fX h.out (λx f=>o x (λe=>h.apart x f (e▸a))),h.apart,?_,λx y m f=>?_,h.lo,h.nd,h.few,h.told,h.deep⟩,⟨rfl,rfl,rfl,by rw[g];exact aD _,λx _ f _=>o x (λe=>f (.inr (.inl (e▸a)))),aN,λx h1 h2=>absurd h1 h2⟩⟩
 ·rw[o x (by omega)];exact h.kp x h1 h2
 ·rw[o P (h.ne a).symm];exact h.pb
 ·show r.ab.length=(r.s.hp.modify i _).length;rw[List.length_modify];exact h.alen
 ·have c:r.ab[x]?=some (y,m):=f;obtain⟨l,B,v,C,A⟩:=h.arr x y m c;show∃l,(r.s.hp.modify i _)[x]?=some l/\_;by_cases e:i=x
  ·subst e;rw[t]at c;injection c with c;injection c with e1 p;subst e1;subst p;refine⟨l.set j n,by rw[dR,B];rfl,by rw[cP];exact v,C,?_⟩;rw[aH _ _ _ _ _ _ A];congr 2;apply cT;simp[fI]
  ·refine⟨l,by rw[dS _ _ e];exact B,v,C,?_⟩;have q:y≠b:=λp=>by
    have u:(r.ab.map (·.1))[i]?=some b:=by rw[bw,t];rfl
    have z:(r.ab.map (·.1))[x]?=some y:=by rw[bw,c];rfl
    rw[p]at z;exact e ((dL (aK.1 u).1 h.nd).1 (u.trans z.symm))
   rw[o y q];exact A
theorem wh{q:Option Nat}{i n:Int}(h:i<0\/((aj s q).length:Int)<=i):aq q i n s= .error (3,s.out):=if_pos h
theorem z8{q:Option Nat}{i n:Int}(h:¬(i<0\/((aj s q).length:Int)<=i)):aq q i n s= .ok ((),{s with hp:=s.hp.modify (q.getD 0) (λl=>l.set i.toNat n)}):=if_neg h
theorem go_put3(hP:nS X){bi:Nat}{F:Tr}{vi vv:Value}(B6:nm.length<=1000000)(B7:sx X.w0 bs nm)(B1:X.w0.heap[bi]?=some (.cells #[vi] 245))(hb:X.w0.heap[bv]?=some (.cells #[vv] 245))(U:mh X g F vi)(hv:mh X g v vv):GK X (g+1) (st 3 a nm F v th el) (.func (.func 185) #[] #[ptr bi,ptr bv,ptr bs]):=by
 intro w f d M m K o hs ho hM hK A8 D;rw[Uq]at D⊢;obtain⟨b,of,A5,cs,A3,A0⟩:=B7;obtain⟨ys,I⟩:∃ys:ByteArray,ys=⟨nm.toArray⟩:=⟨_,rfl⟩;have q:Hid (∀W r,St X.w0 X.P X.fv W r d->W.cell? ⟨bs,0,none⟩=some (.pointer (some ⟨b,of,none⟩))/\W.cell? ⟨b,of+2,none⟩=some (.string ys)/\W.cell? ⟨bv,0,none⟩=some vv):=λW r h=>⟨jc 0 (h.old A5 hP (by decide)),by rw[I];exact eo (h.old A3 hP (by decide)) A0,jc 0 (h.old hb hP (by decide))⟩;have c1:w.cell? ⟨bi,0,none⟩=some vi:=jc 0 (hs.old B1 hP (by decide));have HS:Hid (St X.w0 X.P X.fv w f d):=hs;have HO:Hid (jw w M m f.ab o):=ho;have HK:Hid (m+1+f.s.fuel<=K/\K<=10000000):=⟨hK,A8⟩;have HM:Hid (X.w0.heap.size<=M/\nm.length<=1000000):=⟨hM,B6⟩;have C3:Hid (ys=⟨nm.toArray⟩):=I;have B8:Hid (∀y H,eM X.fs g d o F f.s= .ok (y,H)->∀out,(au (eM X.fs g d o v) λn=>au (aq (iP o nm).2 y.1 n.1) λ_=>ar ((none,o):Option Int×Own)) H≠.error (99,out)):=(fP D).2;have HV:Hid (mh X g v vv):=hv;have A9:Hid (∀t s y H,eM X.fs g d o t s= .ok (y,H)->H.fuel<=s.fuel):=λt s y H h=>(jo X.fs g).1 d o t s y H h;obtain⟨k,C0,rfl,B0,hc⟩:=U w f d M m o hs ho (fP D).1;have HC:Hid (aA k (#[.map (some M)]++C0) w (EP X w f d (eM X.fs g d o F f.s))):=hc;have B5:=kj.xq B0;refine⟨185,_,rfl,OS,?_⟩;show aA 185 #[.map (some M),ptr bi,ptr bv,ptr bs] w _;generalize hG:SP X w f d M K (au (eM X.fs g d o F) (λi=>au (eM X.fs g d o v) λn=>au (aq (iP o nm).2 i.1 n.1) λ_=>ar (none,o)) f.s)=G;have HG:Hid (SP X w f d M K (au (eM X.fs g d o F) (λi=>au (eM X.fs g d o v) λn=>au (aq (iP o nm).2 i.1 n.1) λ_=>ar (none,o)) f.s)=G):=hG;clear hs ho D hb hG hv U hc B0 hK A8 hP A5 A3 A0 hM B6 I B1;have C6:=BI;have C5:=ME;go_enter Tryz.func185,Tryz.ntmps185;go_wp2;refine HC.out.mono ?_
 rintro e w1 ⟨B,h1,C,⟨y,p,ll,c,x,rfl,Y⟩|⟨k9,out,x,A⟩⟩
 rotate_left
 ·obtain⟨_,J,rfl,_⟩:=id A;refine⟨rfl,?_⟩;rw[<-HG.out,gS x];exact lz h1 C.no A
 have HF:Hid (St X.w0 X.P X.fv w1 B d/\Fz X.P iL w f w1 B):=⟨h1,C⟩;have HX:Hid (eM X.fs g d o F f.s= .ok (y,B.s)):=x;have HW:Hid (jw w1 M m B.ab o/\m+1+B.s.fuel<=K):=rD HS.out HO.out C (A9.out _ _ _ _ x) HK.out.1;obtain⟨-,-,c2⟩:=q.out w1 B h1;have hN:=B8.out y B.s x;obtain⟨k2,B4,rfl,E,A7⟩:=HV.out w1 B d M m o h1 HW.out.1 (fP hN).1;have C1:Hid (aA k2 (#[.map (some M)]++B4) w1 (EP X w1 B d (eM X.fs g d o v B.s))):=A7;have L:=kj.xq E;clear h1 C x Y hN A7 E B5 c1;go_wp2;refine C1.out.mono ?_
 rintro e S ⟨l,h1,C,⟨z,p2,l2,c3,x,rfl,Y⟩|⟨k9,out,x,A⟩⟩
 rotate_left
 ·obtain⟨_,J,rfl,_⟩:=id A;refine⟨rfl,?_⟩;rw[<-HG.out,ft HX.out,gS x];exact lz h1 (HF.out.2.trans C).no A
 have u:Hid (St X.w0 X.P X.fv S l d/\Fz X.P iL w f S l):=⟨h1,HF.out.2.trans C⟩;have B2:Hid (eM X.fs g d o v B.s= .ok (z,l.s)):=x;have N:Hid (jw S M m l.ab o/\m+1+l.s.fuel<=K):=rD HF.out.1 HW.out.1 C (A9.out _ _ _ _ x) HW.out.2;obtain⟨q1,q2,-⟩:=q.out S l h1;obtain⟨pq,lq,cq,A6,O⟩:=xI N.out.1 nm HM.out.2;rw[<-C3.out]at A6;obtain⟨u1,u2,hu⟩:∃u1 u2,iP o nm=(u1,u2):=⟨_,_,rfl⟩;rw[hu]at A6 O;have HU:Hid (iP o nm=(u1,u2)):=hu;have A1:Hid (pA l.ab u2 (.slice pq lq cq)):=O;clear h1 C x Y c2 L O hu;have A4:Hid (∀w',w'=S->aq (iP o nm).2 y.1 z.1 l.s= .error (3,l.s.out)->SP X w f d M K (au (eM X.fs g d o F) (λi=>au (eM X.fs g d o v) λn=>au (aq (iP o nm).2 i.1 n.1) λ_=>ar (none,o)) f.s) (kz 3) w'):=λw' Z e2=>by
  subst Z;rw[ft HX.out,ft B2.out,gS e2];exact wa u.out.1 u.out.2.no
 cases u2 with
 |none=>
  have Y:=A1.out;injection Y with Z e2 e3;subst Z e2 e3
  go_wp2_with(go_at_call 186;fail)
  refine(qq _ _).mono ?_;rintro e w3 ⟨rfl,rfl⟩;refine⟨rfl,?_⟩;rw[<-HG.out];exact A4.out _ rfl (wh (by rw[HU.out];show y.1<0\/(0:Int)<=y.1;omega))
 |some i=>
  obtain⟨bb,nb,U,he⟩:=A1.out;injection he with Z e2 e3;subst Z e2 e3;obtain⟨T,a1,a2,a3,a4⟩:=u.out.1.arr i bb cq U;have HA:Hid (aj l.s (some i)=T):=by
   show l.s.hp.getD i []=T;rw[aU,a1];rfl
  have Q:Hid (T.length=cq):=a2;have HI:Hid (l.ab[i]?=some (bb,cq)):=U;have A2:Hid (S.heap[bb]?=some (.cells (fI T).toArray 2)):=a4;clear U a1 a2 a4
  go_wp2_with(go_at_call 186;fail)
  refine(n7 _ _ _ _ _ a3).mono ?_;rintro e w3 ⟨⟨hn,rfl⟩|⟨C4,B9,rfl⟩,rfl⟩
  ·refine⟨rfl,?_⟩;rw[<-HG.out];exact A4.out _ rfl (wh (by rw[HU.out,HA.out,Q.out];exact hn))
  ·have hj:y.1.toNat<T.length:=by have:=Q.out;omega
   obtain⟨lv,C2⟩:∃lv:Int,w3.cell? ⟨bb,y.1.toNat,none⟩=some (.int .i64 lv):=⟨T[y.1.toNat],eo A2.out (by simp[fI,hj])⟩;have fz:=ea A2.out y.1.toNat;have V:Hid (aq (iP o nm).2 y.1 z.1 l.s= .ok ((),(l.put1 i y.1.toNat z.1).s)):=z8 (by rw[HU.out,HA.out,Q.out];omega)|>.trans (by rw[HU.out];rfl);obtain⟨jz,B3⟩:=aB y.1.toNat;rw[<-B3]at C2 fz V⊢;clear C4 B9 hj B3;go_wp2;go_end0;obtain⟨a1,a2⟩:=u.out.1.putA (j:=jz) (n:=z.1) HI.out
   rw[<-HG.out,ft HX.out,ft B2.out,ft V.out];exact⟨_,a1,(u.out.2.trans a2).no,.inl ⟨o,m,rfl,rfl,N.out.1.keeps u.out.1 a2,by have:=N.out.2;show m+l.s.fuel<=K;omega⟩⟩
theorem Ul(fs:By->Option eR)(g d:Nat)(o:Own)(a:Int)(nm:By)(b v c el:Tr):oh fs (g+1) d o (st 4 a nm b v c el)=au (eM fs g d o v) λx=>if x.1≠0 then iq fs g d o c else iq fs g d o el:=by rw[jZ];simp
theorem SP.after{a:Rs}{x:Except (Int×List Int) ((Option Int×Own)×aa)}(g:Fz X.P (λb=>b=c) w r w1 a)(h:SP X w1 a d c f x e w'):SP X w r d c f x e w':=by
 obtain⟨i,h1,h2,j⟩:=h;exact⟨i,h1,g.trans h2,j⟩
theorem go_if4(b:nS X){l:Nat}{n q:Tr}{A:jU}(B:X.w0.heap[f]?=some (jC #[vv] 245))(C:X.w0.heap[j]?=some (jC #[u] 67))(D:X.w0.heap[l]?=some (jC #[A] 67))(E:mh X g v vv)(F:IG X g q u)(H:IG X g el A):GK X (g+1) (st 4 a nm n v q el) (.func (.func 187) #[] #[ptr f,ptr j,ptr l]):=by
 intro w I d J m K o L M N O Q S;rw[Ul]at S⊢;have T:Hid (∀W r,St X.w0 X.P X.fv W r d->W.cell? (jA j)=some u/\W.cell? (jA l)=some A):=λW r h=>⟨jc 0 (h.old C b (by decide)),jc 0 (h.old D b (by decide))⟩;have U:w.cell? (jA f)=some vv:=jc 0 (L.old B b (by decide));have V:Hid (St X.w0 X.P X.fv w I d):=L;have Y:Hid (jw w J m I.ab o):=M;have Z:Hid (m+1+I.s.fuel<=K/\K<=10000000/\X.w0.heap.size<=J):=⟨O,Q,N⟩;have n:Hid (∀y A0,eM X.fs g d o v I.s= .ok (y,A0)->∀out,(if y.1≠0 then iq X.fs g d o q else iq X.fs g d o el) A0≠.error (99,out)):=(fP S).2;have A1:Hid (IG X g q u/\IG X g el A):=⟨F,H⟩;have u:Hid (∀t s y A0,eM X.fs g d o t s= .ok (y,A0)->A0.fuel<=s.fuel):=λt s y A0 h=>(jo X.fs g).1 d o t s y A0 h;obtain⟨k,A,rfl,A2,hc⟩:=E w I d J m o L M (fP S).1;have A3:Hid (aA k (#[.map (some J)]++A) w (EP X w I d (eM X.fs g d o v I.s))):=hc;have A:=kj.xq A2;refine⟨187,_,rfl,OT,?_⟩;show aA 187 #[.map (some J),ptr f,ptr j,ptr l] w _;generalize f:SP X w I d J K (au (eM X.fs g d o v) (λx=>if x.1≠0 then iq X.fs g d o q else iq X.fs g d o el) I.s)=G;have j:Hid (SP X w I d J K (au (eM X.fs g d o v) (λx=>if x.1≠0 then iq X.fs g d o q else iq X.fs g d o el) I.s)=G):=f;clear L M S B f E hc A2 O Q b N C D F H;have l:=BI;go_enter Tryz.func187,Tryz.ntmps187;go_wp2;refine A3.out.mono ?_
 rintro e w1 ⟨b,h1,B,⟨y,p,C,c,D,rfl,E⟩|⟨F,out,D,H⟩⟩
 rotate_left
 ·obtain⟨_,L,rfl,_⟩:=id H;refine⟨rfl,?_⟩;rw[<-j.out,gS D];exact lz h1 B.no H
 have M:Hid (St X.w0 X.P X.fv w1 b d/\Fz X.P iL w I w1 b):=⟨h1,B⟩;have N:Hid (eM X.fs g d o v I.s= .ok (y,b.s)):=D;have O:Hid (jw w1 J m b.ab o/\m+1+b.s.fuel<=K):=rD V.out Y.out B (u.out _ _ _ _ D) Z.out.1;obtain⟨Q,S⟩:=T.out w1 b h1;have f:=n.out y b.s D;obtain⟨l,C⟩:=y;clear h1 B D E A U;by_cases H:l=0
 ·have hd:(l !=0)=false:=by simp[H]
  have I:Hid (¬l≠0):=by show ¬_;simpa using H
  rw[if_neg I.out]at f;obtain⟨V,Y,rfl,u,Q⟩:=A1.out.2 w1 b d J m K o M.out.1 O.out.1 Z.out.2.2 (by have:=O.out.2;omega) Z.out.2.1 f;have T:Hid (aA V (#[.map (some J)]++Y) w1 (SP X w1 b d J K (iq X.fs g d o el b.s))):=Q;have S:=kj.xq u;have n:Hid (∀e U,SP X w1 b d J K (iq X.fs g d o el b.s) e U->G e U):=λe U h=>by
   rw[<-j.out,ft N.out,if_neg I.out];exact SP.after M.out.2.no h
  clear f Q u H;go_wp2;refine T.out.mono ?_
  intro e U A;have B:=n.out e U A;obtain⟨D,-,-,⟨E,C,-,rfl,-,-⟩|⟨z,E,-,rfl⟩|⟨F,out,-,-,L,rfl,-⟩⟩:=A
  ·have A4:Hid (G (jR (.tuple #[])) U):=B;clear B;go_wp2;go_end0;exact A4.out
  ·exact⟨rfl,B⟩
  ·exact⟨rfl,B⟩
 ·have hd:(l !=0)=true:=by simpa using H
  have I:Hid (l≠0):=H;rw[if_pos I.out]at f;obtain⟨V,Y,rfl,u,Q⟩:=A1.out.1 w1 b d J m K o M.out.1 O.out.1 Z.out.2.2 (by have:=O.out.2;omega) Z.out.2.1 f;have T:Hid (aA V (#[.map (some J)]++Y) w1 (SP X w1 b d J K (iq X.fs g d o q b.s))):=Q;have S:=kj.xq u;have n:Hid (∀e U,SP X w1 b d J K (iq X.fs g d o q b.s) e U->G e U):=λe U h=>by
   rw[<-j.out,ft N.out,if_pos I.out];exact SP.after M.out.2.no h
  clear f Q u H;go_wp2;refine T.out.mono ?_
  intro e U A;have B:=n.out e U A;obtain⟨D,-,-,⟨E,C,-,rfl,-,-⟩|⟨z,E,-,rfl⟩|⟨F,out,-,-,L,rfl,-⟩⟩:=A
  ·have A4:Hid (G (jR (.tuple #[])) U):=B;clear B;go_wp2;go_end0;exact A4.out
  ·exact⟨rfl,B⟩
  ·exact⟨rfl,B⟩
theorem Um(fs:By->Option eR)(g d:Nat)(o:Own):iq fs (g+1) d o ce=ar (none,o):=by rw[qA]
theorem Un(fs:By->Option eR)(g d:Nat)(o:Own)(x t:Tr):iq fs (g+1) d o (cc x t)=au ay λ_=>au (oh fs g d o x) λr=>if r.1.isSome then ar r else iq fs g d r.2 t:=by rw[qA]
theorem Uo(fs:By->Option eR)(d:Nat)(o:Own)(t:Tr)(s:aa):iq fs 0 d o t s= .error (99,s.out):=rfl
theorem tN(h:s.fuel=0):ay s= .error (6,s.out):=if_pos h
theorem oC(h:s.fuel≠0):ay s= .ok ((),{s with fuel:=s.fuel-1}):=if_neg h
theorem MZ{x:Tr}(h:xs[i]?=some x):chain (xs.drop i)=cc x (chain (xs.drop (i+1))):=by
 obtain⟨h1,rfl⟩:=aK.1 h;rw[bn h1];rfl
structure BlI (X:Cx) (xs:List Tr) (w:jW) (r0:Rs) (d M K g:Nat) (o:Own) (wr:jW) (i:Nat):Prop where
 at':∃(g':Nat)(r':Rs)(o':Own)(n':Nat),St X.w0 X.P X.fv wr r' d/\Fz X.P (λb=>b=M) w r0 wr r'/\jw wr M n' r'.ab o'/\n'+r'.s.fuel<=K/\g'<=g/\iq X.fs g d o (chain xs) r0.s=iq X.fs g' d o' (chain (xs.drop i)) r'.s
theorem go_block(a:nS X){ts:jE}(l:X.w0.heap[c]?=some (jC #[jL (some (jA j)) ts.length ts.length] 184))(p:X.w0.heap[j]?=some (.cells ts.toArray 67))(q:X.w0.heap[f]?=some (jC #[ptr X.P] 57))(t:ts.length=xs.length)(A:xs.length<=1000000)(B:∀(i:Nat)(u:jU),ts[i]?=some u->∃C D,u= .func (.func C) #[] D)
  (E:∀(i:Nat)(x:Tr)(u:jU),xs[i]?=some x->ts[i]?=some u->∀g',g'<=g->GK X g' x u):IG X g (chain xs) (.func (.func 87) #[] #[ptr c,ptr f]):=by
 intro w F d H m I o J K L M N O;have Q:Hid (∀W r,St X.w0 X.P X.fv W r d->W.cell? (jA f)=some (ptr X.P)/\W.heap[j]?=some (.cells ts.toArray 67)):=λW r h=>⟨jc 0 (h.old q a (by decide)),h.old p a (by decide)⟩;have S:w.cell? (jA c)=some (jL (some (jA j)) ts.length ts.length):=jc 0 (J.old l a (by decide));have T:Hid (St X.w0 X.P X.fv w F d):=J;have U:Hid (jw w H m F.ab o):=K;have V:Hid (m+F.s.fuel<=I/\I<=10000000/\X.w0.heap.size<=H):=⟨M,N,L⟩;have Y:Hid (∀out,iq X.fs g d o (chain xs) F.s≠.error (99,out)):=O;have Z:Hid (∀(i:Nat)(x:Tr)(u:jU),xs[i]?=some x->ts[i]?=some u->∀g',g'<=g->GK X g' x u):=E;have A0:Hid (∀(i:Nat)(u:jU),ts[i]?=some u->∃C D,u= .func (.func C) #[] D):=B;obtain⟨n,A1⟩:=aB ts.length;have A2:Hid (n=ts.length/\n=xs.length):=⟨A1,by rw[A1];exact t⟩;have A3:n<=1000000:=by rw[A1,t];exact A
 rw[<-A1]at S;refine⟨87,_,rfl,BD,?_⟩;show aA 87 #[.map (some H),ptr c,ptr f] w _;generalize c:SP X w F d H I (iq X.fs g d o (chain xs) F.s)=G;have f:Hid (SP X w F d H I (iq X.fs g d o (chain xs) F.s)=G):=c;clear J K O l p q c M N a L E t A1 A B;go_enter Tryz.func87,Tryz.ntmps87
 go_wp2_with fail
 go_loopw [8] (λv wr=>∃i:Nat,i<=n/\v=jV i/\Hid (BlI X xs w F d H I g o wr i)) (λv _=>n-(intOf v).toNat)
 case atStart=>exact⟨0,aQ _,rfl,⟨g,F,o,m,T.out,Fz.refl _ _ _ _,U.out,V.out.1,aD _,rfl⟩⟩
 case round=>
  obtain⟨i,a,rfl,l⟩:=hrel;obtain⟨g',p,o',q,t,A,B,E,J,K⟩:=l.out.at';have L:Hid (St X.w0 X.P X.fv wr p d/\Fz X.P (λb=>b=H) w F wr p/\jw wr H q p.ab o'/\q+p.s.fuel<=I/\g'<=g):=⟨t,A,B,E,J⟩;have M:Hid (iq X.fs g d o (chain xs) F.s=iq X.fs g' d o' (chain (xs.drop i)) p.s):=K;obtain⟨N,O⟩:∃N,g'=N+1:=by
   cases g' with
   |zero=>exact absurd K (λe=>Y.out _ (e.trans (Uo _ _ _ _ _)))
   |succ N=>exact⟨N,rfl⟩
  by_cases T:i<n
  ·have U:i<xs.length:=by rw[<-A2.out.2];exact T
   have c:i<ts.length:=by rw[<-A2.out.1];exact T
   obtain⟨u,a⟩:∃u,ts[i]?=some u:=⟨ts[i],aI c⟩;obtain⟨x,l⟩:∃x,xs[i]?=some x:=⟨xs[i],aI U⟩;have T:=Z.out i x u l a N (by omega);obtain⟨cp,Z⟩:=Q.out wr p t;have Q:wr.cell? (jB j i)=some u:=eo Z (by simpa using a);have j:Hid (iq X.fs g d o (chain xs) F.s=au ay (λ_=>au (oh X.fs N d o' x) λr=>if r.1.isSome then ar r else iq X.fs N d r.2 (chain (xs.drop (i+1)))) p.s):=by
    show _=_;rw[M.out,O,MZ l,Un]
   have Q:Hid (GK X N x u/\N<=g):=⟨T,by omega⟩;have A4:Hid (∀s y A5,oh X.fs N d o' x s= .ok (y,A5)->A5.fuel<=s.fuel):=λs y A5 h=>(jo X.fs N).2.2.2.1 d o' x s y A5 h;obtain⟨C,D,A6⟩:=A0.out i u a;subst A6;clear t A B E J K T Z a U c l O S
   go_wp2_with(go_at_call 88;fail)
   refine(r8 X wr p d L.out.1).mono ?_;rintro e w1 (⟨U,rfl,rfl⟩|⟨U,rfl,h1,c⟩)
   ·refine⟨rfl,?_⟩;rw[<-f.out,j.out,gS (tN U)];exact wa L.out.1 L.out.2.1
   ·have a:Hid (iq X.fs g d o (chain xs) F.s=au (oh X.fs N d o' x) (λr=>if r.1.isSome then ar r else iq X.fs N d r.2 (chain (xs.drop (i+1)))) p.fuel1.s):=by
     show _=_;rw[j.out,ft (oC U)];rfl
    have l:=fP (λout=>by rw[<-a.out];exact Y.out out);have T:jw w1 H q p.fuel1.ab o':=L.out.2.2.1.keeps L.out.1 c;obtain⟨k,Z,Y,Z,hc⟩:=Q.out.1 w1 p.fuel1 d H q I o' h1 T V.out.2.2 (by have:=L.out.2.2.2.1;show q+1+(p.s.fuel-1)<=I;omega) V.out.2.1 l.1;injection Y with Y _ ek2;injection Y with Y;subst Y;subst ek2;have V:Hid (aA C (#[.map (some H)]++D) w1 (SP X w1 p.fuel1 d H I (oh X.fs N d o' x p.fuel1.s))):=hc;have Y:=kj.xq Z;have D:Hid (Fz X.P (λb=>b=H) w F w1 p.fuel1):=L.out.2.1.trans c.no;clear h1 c l T hc Z U;go_wp2;refine V.out.mono ?_
    rintro e C ⟨Y,h2,U,⟨c,l,T,rfl,Z,V⟩|⟨z,c,T,rfl⟩|⟨A7,out,T,A8⟩⟩
    ·have A9:Hid (BlI X xs w F d H I g o C (i+1)):=by
      refine⟨⟨N,Y,c,l,h2,D.out.trans U,Z,V,Q.out.2,?_⟩⟩;rw[a.out,ft T];rfl
     clear h2 U T Z V;go_wp2;exact⟨⟨i+1,by omega,by go_num,A9⟩,by simp[intOf];omega⟩
    ·refine⟨rfl,?_⟩;rw[<-f.out,a.out,ft T];exact⟨Y,h2,D.out.trans U,.inr (.inl ⟨z,c,rfl,rfl⟩)⟩
    ·obtain⟨_,H,rfl,_⟩:=id A8;refine⟨rfl,?_⟩;rw[<-f.out,a.out,gS T];exact lz h2 (D.out.trans U) A8
  ·obtain rfl:i=n:=by omega
   have j:Hid (iq X.fs g d o (chain xs) F.s= .ok ((none,o'),p.s)):=by
    show _=_;rw[M.out,O,bg (by rw[<-A2.out.2];exact aD _)];show iq X.fs (N+1) d o' ce p.s=_;rw[Um];rfl
   clear t A B E J K O S;go_wp2;go_end0;rw[<-f.out,j.out]
   exact⟨p,L.out.1,L.out.2.1,.inl ⟨o',q,rfl,rfl,L.out.2.2.1,L.out.2.2.2.1⟩⟩
theorem Uy(fs:By->Option eR)(g d:Nat)(o:Own)(a:Int)(nm:By)(b v th el:Tr):oh fs (g+1) d o (st 5 a nm b v th el)=rM fs g d o v th:=by rw[jZ];simp
theorem Uz(fs:By->Option eR)(g d:Nat)(o:Own)(v th:Tr):rM fs (g+1) d o v th=au (eM fs g d o v) λx=>if x.1=0 then ar (none,o) else au (iq fs g d o th) λr=>if r.1.isSome then ar r else au ay λ_=>rM fs g d r.2 v th:=by rw[uX]
theorem UA(fs:By->Option eR)(d:Nat)(o:Own)(v a:Tr)(s:aa):rM fs 0 d o v a s= .error (99,s.out):=rfl
theorem nN{a:jU}(h:St w0 P a w r d):iX P w=r.s.fuel:=by
 have b:w.cell? (jB P 3)=some (jV (r.s.fuel:Int)):=jc 3 h.pb;unfold iX;rw[b];simp
structure WhI (X:Cx) (v th:Tr) (w:jW) (r0:Rs) (d M K g:Nat) (o:Own) (wr:jW):Prop where
 at':∃(g':Nat)(r':Rs)(o':Own)(n':Nat),St X.w0 X.P X.fv wr r' d/\Fz X.P (λb=>b=M) w r0 wr r'/\jw wr M n' r'.ab o'/\n'+1+r'.s.fuel<=K/\g'<=g/\rM X.fs g d o v th r0.s=rM X.fs g' d o' v th r'.s
theorem go_while5(hP:nS X){bt:Nat}{I L:Nat}{cv ct:Array Value}(hb:X.w0.heap[bv]?=some (.cells #[.func (.func I) #[] cv] 245))(A0:X.w0.heap[bt]?=some (.cells #[.func (.func L) #[] ct] 67))(A8:X.w0.heap[bp]?=some (.cells #[ptr X.P] 57))(hv:∀g',g'<=g->mh X g' v (.func (.func I) #[] cv))(ht:∀g',g'<=g->IG X g' l (.func (.func L) #[] ct))(ev:kj I)(et:kj L):GK X (g+1) (st 5 a nm ix v l el) (.func (.func 188) #[] #[ptr bv,ptr bt,ptr bp]):=by
 intro w q d M m K o hs ho hM hK A3 Y;rw[Uy]at Y⊢;have k:Hid (∀W r,St X.w0 X.P X.fv W r d->W.cell? ⟨bv,0,none⟩=some (.func (.func I) #[] cv)/\W.cell? ⟨bt,0,none⟩=some (.func (.func L) #[] ct)/\W.cell? ⟨bp,0,none⟩=some (ptr X.P)):=λW r h=>⟨jc 0 (h.old hb hP (by decide)),jc 0 (h.old A0 hP (by decide)),jc 0 (h.old A8 hP (by decide))⟩;have HS:Hid (St X.w0 X.P X.fv w q d):=hs;have HO:Hid (jw w M m q.ab o):=ho;have HK:Hid (m+1+q.s.fuel<=K/\K<=10000000/\X.w0.heap.size<=M):=⟨hK,A3,hM⟩;have A1:Hid (∀out,rM X.fs g d o v l q.s≠.error (99,out)):=Y;have HV:Hid (∀g',g'<=g->mh X g' v (.func (.func I) #[] cv)):=hv;have HT:Hid (∀g',g'<=g->IG X g' l (.func (.func L) #[] ct)):=ht;have C0:=kj.xq ev;have B8:=kj.xq et;refine⟨188,_,rfl,OU,?_⟩;show aA 188 #[.map (some M),ptr bv,ptr bt,ptr bp] w _;generalize hG:SP X w q d M K (rM X.fs g d o v l q.s)=G;have HG:Hid (SP X w q d M K (rM X.fs g d o v l q.s)=G):=hG;clear hs ho Y hb hG hv hK A3 hP hM A0 A8 ht ev et;have C1:=BI;go_enter Tryz.func188,Tryz.ntmps188
 go_wp2_with fail
 go_loopw [] (λwr=>Hid (WhI X v l w q d M K g o wr)) (λwr=>iX X.P wr)
 case atStart=>exact⟨⟨g,q,o,m,HS.out,Fz.refl _ _ _ _,HO.out,HK.out.1,aD _,rfl⟩⟩
 case round=>
  obtain⟨g',t,j,U,q1,q2,q3,q4,q5,q6⟩:=hrel.out.at';have HQ:Hid (St X.w0 X.P X.fv wr t d/\Fz X.P (λb=>b=M) w q wr t/\jw wr M U t.ab j/\U+1+t.s.fuel<=K):=⟨q1,q2,q3,q4⟩;obtain⟨f,B6⟩:∃f,g'=f+1:=by
   cases g' with
   |zero=>exact absurd q6 (λe=>A1.out _ (e.trans (UA _ _ _ _ _ _)))
   |succ f=>exact⟨f,rfl⟩
  subst B6;rw[Uz]at q6;have V:Hid (rM X.fs g d o v l q.s=au (eM X.fs f d j v) (λx=>if x.1=0 then ar (none,j) else au (iq X.fs f d j l) λr=>if r.1.isSome then ar r else au ay λ_=>rM X.fs f d r.2 v l) t.s):=q6;have N:=fP (λout=>by rw[<-V.out];exact A1.out out);obtain⟨k3,B0,F,_,hc⟩:=HV.out f (by omega) wr t d M U j q1 q3 N.1;injection F with F _ e4;injection F with F;subst F;subst e4;have HC:Hid (aA I (#[.map (some M)]++cv) wr (EP X wr t d (eM X.fs f d j v t.s))):=hc;have B2:Hid (∀y u,eM X.fs f d j v t.s= .ok (y,u)->∀out,(if y.1=0 then ar (none,j) else au (iq X.fs f d j l) λr=>if r.1.isSome then ar r else au ay λ_=>rM X.fs f d r.2 v l) u≠.error (99,out)):=N.2;have A2:Hid (f<=g):=by show _<=_;omega
  have O:Hid (∀y u,eM X.fs f d j v t.s= .ok (y,u)->u.fuel<=t.s.fuel):=λy u h=>(jo X.fs f).1 d j v t.s y u h;have B3:Hid (iX X.P wr=t.s.fuel):=nN q1;obtain⟨c1,-,-⟩:=k.out wr t q1;clear hrel q1 q2 q3 q4 q5 q6 N hc;go_wp2;refine HC.out.mono ?_
  rintro e w1 ⟨n,h1,J,⟨y,p,ll,c,Q,rfl,hq⟩|⟨k9,out,Q,E⟩⟩
  rotate_left
  ·obtain⟨_,S,rfl,_⟩:=id E;refine⟨rfl,?_⟩;rw[<-HG.out,V.out,gS Q];exact lz h1 (HQ.out.2.1.trans J.no) E
  have HF:Hid (St X.w0 X.P X.fv w1 n d/\Fz X.P (λb=>b=M) w q w1 n):=⟨h1,HQ.out.2.1.trans J.no⟩;have HX:Hid (eM X.fs f d j v t.s= .ok (y,n.s)):=Q;have HW:Hid (jw w1 M U n.ab j/\U+1+n.s.fuel<=K):=rD HQ.out.1 HQ.out.2.2.1 J (O.out _ _ Q) HQ.out.2.2.2;have N:=B2.out y n.s Q;have B1:Hid (n.s.fuel<=t.s.fuel):=O.out _ _ Q;obtain⟨-,c2,c3⟩:=k.out w1 n h1;obtain⟨n1,y2⟩:=y;clear h1 J Q hq c1;by_cases D:n1=0
  ·have hd:(n1 !=0)=false:=by simp[D]
   have Z:Hid (n1=0):=D;clear N D;go_wp2;go_end0;rw[<-HG.out,V.out,ft HX.out,if_pos Z.out]
   exact⟨n,HF.out.1,HF.out.2,.inl ⟨j,U,rfl,rfl,HW.out.1,by have:=HW.out.2;omega⟩⟩
  ·have hd:(n1 !=0)=true:=by simpa using D
   have Z:Hid (¬n1=0):=D;rw[if_neg D]at N;have T:=fP N;obtain⟨k3,B0,F,_,hc⟩:=HT.out f A2.out w1 n d M U K j HF.out.1 HW.out.1 HK.out.2.2 (by have:=HW.out.2;omega) HK.out.2.1 T.1;injection F with F _ e4;injection F with F;subst F;subst e4;have B5:Hid (aA L (#[.map (some M)]++ct) w1 (SP X w1 n d M K (iq X.fs f d j l n.s))):=hc;have B9:Hid (∀y u,iq X.fs f d j l n.s= .ok (y,u)->∀out,(if y.1.isSome then ar y else au ay λ_=>rM X.fs f d y.2 v l) u≠.error (99,out)):=T.2;have A6:Hid (∀y u,iq X.fs f d j l n.s= .ok (y,u)->u.fuel<=n.s.fuel):=λy u h=>(jo X.fs f).2.2.1 d j l n.s y u h;clear N T hc D;go_wp2;refine B5.out.mono ?_
   rintro e w2 ⟨C,h2,H,⟨o2,n2,A,rfl,A4,A5⟩|⟨z,o2,A,rfl⟩|⟨k9,out,A,E⟩⟩
   rotate_left
   ·refine⟨rfl,?_⟩;rw[<-HG.out,V.out,ft HX.out,if_neg Z.out,ft A];exact⟨C,h2,HF.out.2.trans H,.inr (.inl ⟨z,o2,rfl,rfl⟩)⟩
   ·obtain⟨_,S,rfl,_⟩:=id E;refine⟨rfl,?_⟩;rw[<-HG.out,V.out,ft HX.out,if_neg Z.out,gS A];exact lz h2 (HF.out.2.trans H) E
   have B:Hid (St X.w0 X.P X.fv w2 C d/\Fz X.P (λb=>b=M) w q w2 C/\jw w2 M n2 C.ab o2/\n2+C.s.fuel<=K):=⟨h2,HF.out.2.trans H,A4,A5⟩;have A7:Hid (iq X.fs f d j l n.s= .ok ((none,o2),C.s)):=A;have A9:Hid (C.s.fuel<=n.s.fuel):=A6.out _ _ A;obtain⟨-,-,c4⟩:=k.out w2 C h2;clear h2 H A A4 A5 c2 c3
   go_wp2_with(go_at_call 88;fail)
   refine(r8 X w2 C d B.out.1).mono ?_;rintro e w3 (⟨D,rfl,rfl⟩|⟨D,rfl,h1,J⟩)
   ·refine⟨rfl,?_⟩;rw[<-HG.out,V.out,ft HX.out,if_neg Z.out,ft A7.out];show SP X w q d M K (au ay _ C.s) _ _;rw[gS (tN D)];exact wa B.out.1 B.out.2.1
   ·have B4:Hid (WhI X v l w q d M K g o w3):=by
     refine⟨⟨f,C.fuel1,o2,n2,h1,B.out.2.1.trans J.no,B.out.2.2.1.keeps B.out.1 J,?_,A2.out,?_⟩⟩
     ·have:=B.out.2.2.2;show n2+1+(C.s.fuel-1)<=K;omega
     ·rw[V.out,ft HX.out,if_neg Z.out,ft A7.out];show au ay _ C.s=_;rw[ft (oC D)];rfl
    have B7:Hid (iX X.P w3<iX X.P wr):=by
     show _<_;rw[nN h1,B3.out];have:=A9.out;have:=B1.out;show C.s.fuel-1<_;omega
    clear h1 J D;go_wp2;exact⟨B4,B7.out⟩
theorem KQ(v:jU)(w:jW):(Instr.typeAssert (.iface 129 v) 20 129 true).run Tryz.prog w= .ok (.tuple #[v,.bool true]) w:=by kernel_rfl
theorem KR(v:jU)(w:jW):(Instr.typeAssert (.iface 61 v) 20 129 true).run Tryz.prog w= .ok (.tuple #[jV 0,.bool false]) w:=by kernel_rfl
theorem KS(v:jU)(w:jW):(binOp .eql 20 (.iface 129 v) .nilIface).run Tryz.prog w= .ok (.bool false) w:=by kernel_rfl
theorem Pr(v:jU)(w:jW):(binOp .eql 20 (.iface 61 v) .nilIface).run Tryz.prog w= .ok (.bool false) w:=by kernel_rfl
theorem Ps(a b:jU):(#[a,b]:Array Value)++Array.replicate (24-(#[a,b]:Array Value).size) undef=#[a,b,undef,undef,undef,undef,undef,undef,undef,undef,undef,undef,undef,undef,undef,undef,undef,undef,undef,undef,undef,undef,undef,undef]:=by kernel_rfl
theorem GM(a b P:Nat)(d:Nat)(hd:d<1000)(w:jW)(h1:w.cell? (jA a)=some (ptr P))(h2:w.cell? (jB P 4)=some (jV ((d+1:Nat):Int)))(c:w.frozen? (jB P 4)=false):
  CallsD Tryz.prog 55 #[ptr a,ptr b] .returning w λe f w'=>e=jR (.tuple #[])/\f= .returning/\w'=w.setCell (jB P 4) (jV (d:Int)):=by
 have g:=Am;refine callsD_of_wpS Tryz.func55 rfl λh cs i=>?_;apply wpS_seq;refine wpS_of_wp ?_;rw[Tryz.ntmps55,Ps];go_wp2;simp only[Exit.thenS]
 apply wpS_seq;apply wpS_region;simp[wpOpsS,go_sem,recoverD,i,Exit.thenS]
 apply wpS_seq;apply wpS_seq;apply wpS_region;simp[wpOpsS,go_sem,Exit.thenS,g]
 refine wpS_cond (t:=true) (by simp[Act.eval]) ?_;simp only[if_true];refine wpS_of_wp (wp_ret ?_);cases h
 simp_all [bodyPostS,results,Tryz.results55,Exit.thenS]
theorem GN(a b P:Nat)(d:Nat)(hd:d<1000)(w:jW)(z:Int)(c:jU)(f:(w.setCell (jB P 4) (jV (d:Int))).cell? (jA b)=some c)(g:(w.setCell (jB P 4) (jV (d:Int))).frozen? (jA b)=false)(h1:w.cell? (jA a)=some (ptr P))(h2:w.cell? (jB P 4)=some (jV ((d+1:Nat):Int)))(h:w.frozen? (jB P 4)=false):
  CallsD Tryz.prog 55 #[ptr a,ptr b] (.panicking [{v:= .iface 129 (jV z),recovered:=false}]) w λe i w'=>e=jR (.tuple #[])/\i= .panicking [{v:= .iface 129 (jV z),recovered:=true}]/\w'=(w.setCell (jB P 4) (jV (d:Int))).setCell (jA b) (jV z):=by
 have j:=KS;have k:=KQ;refine callsD_of_wpS Tryz.func55 rfl λl cs m=>?_;apply wpS_seq;refine wpS_of_wp ?_;rw[Tryz.ntmps55,Ps];go_wp2;simp only[Exit.thenS]
 apply wpS_seq;apply wpS_region;simp[wpOpsS,go_sem,recoverD,m,Exit.thenS]
 apply wpS_seq;apply wpS_seq;apply wpS_region;simp[wpOpsS,go_sem,Exit.thenS,j]
 refine wpS_cond (t:=false) (by simp[Act.eval]) ?_;simp only[bI,if_false];refine wpS_of_wp (wp_skip ?_);simp only[Exit.thenS];apply wpS_seq;apply wpS_region;simp[wpOpsS,go_sem,Exit.thenS,k]
 apply wpS_seq;apply wpS_seq;apply wpS_region;simp[wpOpsS,go_sem,Exit.thenS]
 refine wpS_cond (t:=false) (by simp[Act.eval]) ?_;simp only[bI,if_false];refine wpS_of_wp (wp_skip ?_);simp only[Exit.thenS];apply wpS_region;simp[wpOpsS,go_sem,f,g,bodyPostS,results,Tryz.results55]
theorem KT(a b P:Nat)(d:Nat)(hd:d<1000)(w:jW)(z:Int)(c:List PanicEntry)(h1:w.cell? (jA a)=some (ptr P))(h2:w.cell? (jB P 4)=some (jV ((d+1:Nat):Int)))(f:w.frozen? (jB P 4)=false):
  CallsD Tryz.prog 55 #[ptr a,ptr b] (.panicking ({v:= .iface 61 (jV z),recovered:=false}::c)) w λe g w'=>e= .panicked [{v:= .iface 61 (jV z),recovered:=false}]/\g= .panicking ({v:= .iface 61 (jV z),recovered:=true}::c)/\w'=w.setCell (jB P 4) (jV (d:Int)):=by
 have h:=Pr;have i:=KR;refine callsD_of_wpS Tryz.func55 rfl λj cs k=>?_;apply wpS_seq;refine wpS_of_wp ?_;rw[Tryz.ntmps55,Ps];go_wp2;simp only[Exit.thenS]
 apply wpS_seq;apply wpS_region;simp[wpOpsS,go_sem,recoverD,k,Exit.thenS]
 apply wpS_seq;apply wpS_seq;apply wpS_region;simp[wpOpsS,go_sem,Exit.thenS,h]
 refine wpS_cond (t:=false) (by simp[Act.eval]) ?_;simp only[bI,if_false];refine wpS_of_wp (wp_skip ?_);simp only[Exit.thenS];apply wpS_seq;apply wpS_region;simp[wpOpsS,go_sem,Exit.thenS,i]
 apply wpS_seq;apply wpS_seq;apply wpS_region;simp[wpOpsS,go_sem,Exit.thenS]
 refine wpS_cond (t:=true) (by simp[Act.eval]) ?_;simp only[if_true];apply wpS_region;simp[wpOpsS,go_sem,Exit.thenS,bodyPostS,results,Tryz.results55]
def fK(fs:By->Option eR)(g d:Nat)(o:Own)(a:Tr):ae Int:=if 40<=d then ax 5 else au (iq fs g (d+1) o a) λr=>ar (r.1.getD 0)
def CP(X:Cx)(w:jW)(r:Rs)(d a:Nat)(x:Except (Int×List Int) (Int×aa))(e:Ending)(w':jW):Prop:=
 ∃c,St X.w0 X.P X.fv w' c d/\Fz X.P (λb=>b=a) w r w' c/\((∃n,x= .ok (n,c.s)/\e=jR (jV n))\/(∃k out,x= .error (k,out)/\yf c out k e))
theorem Mm(a:Array Value)(W:jW)(b:Nat)(x:jU)(c:a[6]?.getD undef=ptr b)(h1:W.cell? (jA b)=some x):
  (results Tryz.f30 a).run Tryz.prog W= .ok x W:=by
 simp[results,Tryz.results30,go_sem,c,h1]
theorem sA{a:Nat}{c:jW}{r5:Rs}{e:Nat}(h:St X.w0 X.P X.fv c r5 (d+1))(g:Fz X.P (λb=>b=a) w r c r5)(j:c.heap[e]?=some (jC #[ptr X.P] 57))(k:c.heap[f]?=some (jC #[x] 2))(h1:e≠X.P)(l:f≠X.P):
  c.cell? (jA e)=some (ptr X.P)/\c.cell? (jB X.P 4)=some (jV ((d+1:Nat):Int))/\c.frozen? (jB X.P 4)=false/\(c.setCell (jB X.P 4) (jV (d:Int))).cell? (jA f)=some x/\St X.w0 X.P X.fv (c.setCell (jB X.P 4) (jV (d:Int))) r5 d/\Fz X.P (λb=>b=a) w r (c.setCell (jB X.P 4) (jV (d:Int))) r5:=by
 obtain⟨m,n⟩:=h.setP (i:=4) (v:=jV (d:Int)) r5 d rfl rfl rfl rfl rfl h.inp h.few (by have:=h.deep;omega);refine⟨jc 0 j,jc 4 h.pb,ea h.pb 4,?_,m,g.trans n.no⟩;refine eo (i:=0) (cs:=#[x]) (t:=2) ?_ rfl;rw[aG _ _ _ _ (by show f≠X.P;exact l)];exact k
theorem AV{v:jU}{t:TypeId}(h:w.heap[b]?=some (jC #[x] t)):(w.setCell (jA b) v).heap[b]?=some (jC #[v] t):=aH _ _ _ _ _ _ h
theorem uD(hP:nS X){body:Tr}(hB:IG X g body (.func (.func kb) #[] cb))(eb:kj kb)(q:jO)(np cp:Nat)(w:jW)(r:Rs)(d M n K:Nat)(o:Own)(hs:St X.w0 X.P X.fv w r d)(ho:jw w M n r.ab o)(hM:X.w0.heap.size<=M)(hK:n+r.s.fuel<=K)(hK7:K<=10000000)(hne:∀out,fK X.fs g d o body r.s≠.error (99,out)):
  aA 30 #[ptr X.P,.agg #[jL q np cp,.func (.func kb) #[] cb],.map (some M)] w (CP X w r d M (fK X.fs g d o body r.s)):=by
 have hmf:=zb;obtain⟨W3,hW3⟩:=aB (((w.alloc (jC #[ptr X.P] 57)).alloc (jC #[jL q np cp,.func (.func kb) #[] cb] 69)).alloc (jC #[jV 0] 2));have hb3:az w W3:=by rw[hW3];exact(lU _ _ _).alloc (by simp;omega) _
 have hz3:W3.heap.size=w.heap.size+3:=by rw[hW3];simp
 have k1:W3.heap[w.heap.size]?=some (jC #[ptr X.P] 57):=by rw[hW3];exact ez (IC _ _ _) _
 have k2:W3.heap[w.heap.size+1]?=some (jC #[jL q np cp,.func (.func kb) #[] cb] 69):=by rw[hW3];exact ez (zE _ _ _) _
 have k3:W3.heap[w.heap.size+2]?=some (jC #[jV 0] 2):=by
  rw[hW3];have:=heap_alloc_last ((w.alloc (jC #[ptr X.P] 57)).alloc (jC #[jL q np cp,.func (.func kb) #[] cb] 69)) (jC #[jV 0] 2);simpa using this
 have hs3:=hs.below hb3;have c4:(((w.alloc (jC #[ptr X.P] 57)).alloc (jC #[jL q np cp,.func (.func kb) #[] cb] 69)).alloc (jC #[jV 0] 2)).cell? (jB X.P 4)=some (jV (d:Int)):=by rw[<-hW3];exact jc 4 hs3.pb
 have f4:(((w.alloc (jC #[ptr X.P] 57)).alloc (jC #[jL q np cp,.func (.func kb) #[] cb] 69)).alloc (jC #[jV 0] 2)).frozen? (jB X.P 4)=false:=by rw[<-hW3];exact ea hs3.pb 4
 have hPl:X.P<w.heap.size:=hs.ltP;have hd40:=hs.deep;have hMl:M<w.heap.size:=by obtain⟨f,h1,_⟩:=ho;exact h1.lt
 have HS:Hid (St X.w0 X.P X.fv w r d):=hs;have HS3:Hid (St X.w0 X.P X.fv W3 r d):=hs3;have HB3:Hid (az w W3):=hb3;have HZ3:Hid (W3.heap.size=w.heap.size+3):=hz3;have HK1:Hid (W3.heap[w.heap.size]?=some (jC #[ptr X.P] 57)/\W3.heap[w.heap.size+1]?=some (jC #[jL q np cp,.func (.func kb) #[] cb] 69)/\W3.heap[w.heap.size+2]?=some (jC #[jV 0] 2)):=⟨k1,k2,k3⟩;have HGl:Hid (X.P<w.heap.size/\M<w.heap.size/\X.w0.heap.size<=w.heap.size):=⟨hPl,hMl,hs.le⟩;have HNe:Hid (∀out,fK X.fs g d o body r.s≠.error (99,out)):=hne;have hen:=kj.xq eb;generalize hG:CP X w r d M (fK X.fs g d o body r.s)=G;have HG:Hid (CP X w r d M (fK X.fs g d o body r.s)=G):=hG;by_cases h40:40<=d
 ·have hd:d=40:=by omega
  have H40:Hid (40<=d):=h40;have c4':(((w.alloc (jC #[ptr X.P] 57)).alloc (jC #[jL q np cp,.func (.func kb) #[] cb] 69)).alloc (jC #[jV 0] 2)).cell? (jB X.P 4)=some (jV 40):=by rw[c4,hd];rfl
  clear hs ho hne hG hb3 hz3 k1 k2 k3 hs3 hM hK hB eb hP hMl c4 hd h40 hd40
  go_enter_defers Tryz.func30,Tryz.ntmps30
  go_wp2_with(go_at_call 54;fail)
  rw[<-hW3];refine(eQ _ _).mono ?_;rintro e w' ⟨rfl,rfl⟩;show G _ _;rw[<-HG.out,show fK X.fs g d o body r.s= .error (5,r.s.out) by unfold fK;rw[if_pos H40.out];rfl];exact⟨r,HS3.out,Fz.below HB3.out,.inr ⟨5,_,rfl,rfl,[],rfl,λz hz=>by cases hz⟩⟩
 ·have H40:Hid (¬40<=d):=h40;obtain⟨s4,fz4⟩:=hs3.setP (i:=4) (v:=jV ((d:Int)+1)) r (d+1) rfl rfl rfl rfl rfl hs3.inp hs3.few (by omega);obtain⟨W4,hW4⟩:=aB (W3.setCell (jB X.P 4) (jV ((d:Int)+1)));rw[<-hW4]at s4 fz4;have hk4:∀b,b≠X.P->W4.heap[b]?=W3.heap[b]?:=λb hb=>by rw[hW4];exact aG _ _ _ _ hb
  have j2:W4.heap[w.heap.size+1]?=some (jC #[jL q np cp,.func (.func kb) #[] cb] 69):=by rw[hk4 _ (by omega)];exact k2
  have p2:=jc 1 j2;have ho4:jw W4 M n r.ab o:=(ho.below hb3).keeps hs3 fz4;have hcg:fK X.fs g d o body=au (iq X.fs g (d+1) o body) λr=>ar (r.1.getD 0):=if_neg h40;rw[hcg]at hne;obtain⟨kk,cc',e3,_,hc⟩:=hB W4 r (d+1) M n K o s4 ho4 hM hK hK7 (fP hne).1;injection e3 with e3 _ e4;injection e3 with e3;subst e3;subst e4;have HC:Hid (aA kb (#[.map (some M)]++cb) W4 (SP X W4 r (d+1) M K (iq X.fs g (d+1) o body r.s))):=hc;have HCG:Hid (fK X.fs g d o body=au (iq X.fs g (d+1) o body) λr=>ar (r.1.getD 0)):=hcg;have HF4:Hid (Fz X.P (λb=>b=M) w r W4 r):=(Fz.below hb3).trans fz4.no;have HZ4:Hid (W4.heap.size=w.heap.size+3):=by show _=_;rw[hW4];simp;exact hz3
  have HJ:Hid (W4.heap[w.heap.size]?=some (jC #[ptr X.P] 57)/\W4.heap[w.heap.size+2]?=some (jC #[jV 0] 2)):=⟨by rw[hk4 _ (by omega)];exact k1,by rw[hk4 _ (by omega)];exact k3⟩;have HBk:Hid (∀w5 r5,St X.w0 X.P X.fv w5 r5 (d+1)->Fz X.P (λb=>b=M) W4 r w5 r5->w5.heap[w.heap.size]?=some (jC #[ptr X.P] 57)/\w5.heap[w.heap.size+2]?=some (jC #[jV 0] 2)/\¬Xs X.P r5 (w.heap.size+2)):=λw5 r5 h5 f5=>by
   have x0:=hs.newX (b:=w.heap.size) (aD _);have x2:=hs.newX (b:=w.heap.size+2) (by omega);refine⟨by rw[f5.blk _ (by rw[HZ4.out];omega) x0 (by show ¬_=M;omega)];exact HJ.out.1,by rw[f5.blk _ (by rw[HZ4.out];omega) x2 (by show ¬_=M;omega)];exact HJ.out.2,λhx=>?_⟩;have:=f5.new _ hx x2;rw[HZ4.out]at this;omega
  have hd39:d<40:=by omega
  clear hs ho hne hG hb3 hz3 k1 k2 k3 hs3 hM hK hB eb hP hMl s4 fz4 hk4 j2 ho4 hcg hc h40 p2 hd40
  go_enter_defers Tryz.func30,Tryz.ntmps30
  go_wp2;rw[<-hW3,<-hW4]
  refine HC.out.mono ?_;rintro e w5 ⟨r5,h5,f5,⟨o5,n5,hx5,rfl,ho5,hk5⟩|⟨z,o5,hx5,rfl⟩|⟨k9,out,hx5,he9⟩⟩
  ·obtain⟨j1,j3,jx⟩:=HBk.out w5 r5 h5 f5;have cB:w5.cell? ⟨w.heap.size+1+1,0,none⟩=some (jV 0):=jc 0 j3;have fB:w5.frozen? ⟨w.heap.size+1+1,0,none⟩=false:=ea j3 0;have HX5:Hid (iq X.fs g (d+1) o body r.s= .ok ((none,o5),r5.s)):=hx5;obtain⟨W5,hW5⟩:=aB (w5.setCell ⟨w.heap.size+1+1,0,none⟩ (jV 0));have h5':St X.w0 X.P X.fv W5 r5 (d+1):=by rw[hW5];exact h5.setL jx (by have:=HGl.out;omega)
   have i1:W5.heap[w.heap.size]?=some (jC #[ptr X.P] 57):=by rw[hW5,aG _ _ _ _ (by show w.heap.size≠w.heap.size+1+1;omega)];exact j1
   have i3:W5.heap[w.heap.size+1+1]?=some (jC #[jV 0] 2):=by rw[hW5];exact AV j3
   have f5':Fz X.P (λb=>b=M) w r W5 r5:=by rw[hW5];exact(HF4.out.trans f5).setL (by omega)
   have HFn:Hid (_/\_/\_/\_/\_):=sA h5' f5' i1 i3 (by have:=HGl.out;omega) (by have:=HGl.out;omega);clear h5 f5 hx5 ho5 hk5 j1 j3 jx h5' i1 i3 f5';go_wp2;rw[<-hW5]
   refine bP (f:=55) (args:=#[ptr w.heap.size,ptr (w.heap.size+1+1)]) (by simp) (by simp[go_sem]) ?_
   obtain⟨a1,a2,a3,a4,a5⟩:=HFn.out;refine(GM w.heap.size (w.heap.size+1+1) X.P d (by omega) W5 a1 a2 a3).mono ?_;rintro e u' w6 ⟨rfl,rfl,rfl⟩;refine⟨_,Mm _ _ (w.heap.size+1+1) _ rfl a4,?_⟩;rw[<-HG.out,HCG.out,ft HX5.out];exact⟨r5,a5.1,a5.2,.inl ⟨0,rfl,rfl⟩⟩
  ·obtain⟨j1,j3,jx⟩:=HBk.out w5 r5 h5 f5;obtain⟨a1,a2,a3,a4,a5⟩:=sA h5 (HF4.out.trans f5) j1 j3 (by have:=HGl.out;omega) (by have:=HGl.out;omega);refine bP (f:=55) (args:=#[ptr w.heap.size,ptr (w.heap.size+1+1)]) (by simp) (by simp[go_sem]) ?_
   have j6:(w5.setCell (jB X.P 4) (jV (d:Int))).heap[w.heap.size+1+1]?=some (jC #[jV 0] 2):=by rw[aG _ _ _ _ (by show w.heap.size+1+1≠X.P;have:=HGl.out;omega)];exact j3
   refine(GN w.heap.size (w.heap.size+1+1) X.P d (by omega) w5 z _ (jc 0 j6) (ea j6 0) a1 a2 a3).mono ?_;rintro e u' w6 ⟨rfl,rfl,rfl⟩;refine⟨_,Mm _ _ (w.heap.size+1+1) _ rfl (jc 0 (AV j6)),?_⟩;rw[<-HG.out,HCG.out,ft hx5];exact⟨r5,a5.1.setL jx (by have:=HGl.out;omega),a5.2.setL (by omega),.inl ⟨z,rfl,rfl⟩⟩
  ·obtain⟨j1,j3,jx⟩:=HBk.out w5 r5 h5 f5;obtain⟨a1,a2,a3,a4,a5⟩:=sA h5 (HF4.out.trans f5) j1 j3 (by have:=HGl.out;omega) (by have:=HGl.out;omega);obtain⟨hout,older,rfl,hold⟩:=he9;refine bP (f:=55) (args:=#[ptr w.heap.size,ptr (w.heap.size+1+1)]) (by simp) (by simp[go_sem]) ?_
   refine(KT w.heap.size (w.heap.size+1+1) X.P d (by omega) w5 k9 older a1 a2 a3).mono ?_;rintro e u' w6 ⟨rfl,rfl,rfl⟩;show G _ _;rw[<-HG.out,HCG.out,gS hx5];refine⟨r5,a5.1,a5.2,.inr ⟨k9,out,rfl,hout,_,rfl,λy hy=>?_⟩⟩;rcases aY.1 hy with rfl|hy
   ·rfl
   ·exact hold y hy
theorem H_:Tryz.prog.underlying 58=some (.map 9 69):=by kernel_rfl
theorem Ia(w:jW):(zeroValue 69).run Tryz.prog w= .ok (.agg #[jS,.nilFunc]) w:=by kernel_rfl
theorem Aw{α b c:Type}(x:ae α)(f:α->ae b)(h:b->ae c):au (au x f) h=au x λa=>au (f a) h:=by
 funext s
 unfold au;cases x s with
 |error e=>rfl
 |ok p=>rfl
theorem Eh(fs:By->Option eR)(g d:Nat)(o:Own)(a n:Int)(nm b:By)(l r xs:Tr)(h:fs nm=some F):eM fs (g+1) d o (nd 5 a n nm b l r xs)=au (nA fs g d o xs) λc=>au (fK fs g d ((F.ps.map (·.1)).zip c).reverse F.body) λz=>ar (z,none):=by
 rw[ij];simp[h];congr 1
 funext c
 unfold fK;by_cases e:40<=d
 ·rw[if_pos e,if_pos e];rfl
 ·rw[if_neg e,if_neg e,Aw];rfl
theorem Uv(fs:By->Option eR)(g d:Nat)(o:Own)(x t:Tr):nA fs (g+1) d o (cc x t)=au (eM fs g d o x) λv=>au (nA fs g d o t) λa=>ar (v::a):=by rw[qz]
theorem SA(fs:By->Option eR)(g d:Nat)(o:Own):nA fs (g+1) d o ce=ar []:=by rw[qz]
theorem Uw(fs:By->Option eR)(d:Nat)(o:Own)(t:Tr)(s:aa):nA fs 0 d o t s= .error (99,s.out):=rfl
structure Cb (X:Cx) (g:Nat) (nm:By) (F:eR) (q9:jO) (cp kb:Nat) (cb:Array Value):Prop where
 fs:X.fs nm=some F
 fn:∃Mf nf f,X.fv= .map (some Mf)/\kB X.w0 Mf nf f/\f nm=some (.agg #[jL q9 F.ps.length cp,.func (.func kb) #[] cb])
 row:∀(i:Nat)(p:By×Int),F.ps[i]?=some p->∃g9 cs,q9=some (jA g9)/\X.w0.heap[g9]?=some (.cells cs 144)/\cs[i*2]?=some (str p.1)
 few:∀p∈F.ps,p.1.length<=1000000
 body:∀g',g'<=g->IG X g' F.body (.func (.func kb) #[] cb)
 ent:kj kb
theorem SB{α:Type}(x:ae (List α)):au x (λa=>ar ([]++a))=x:=by
 funext s
 unfold au;cases x s with
 |error e=>rfl
 |ok p=>rfl
theorem yT{α b:Type}:∀(ns:List α)(c:List b)(a:α)(v:b),ns[c.length]?=some a->ns.zip (c++[v])=ns.zip c++[(a,v)]
 |[],c,a,v,h=>by simp at h
 |n::ns,[],a,v,h=>by
  have e:n=a:=by simpa using h
  subst e;simp
 |n::ns,w::c,a,v,h=>by
  have:=yT ns c a v (by simpa using h);simp[this]
theorem jw.keepsE{E:Nat->Prop}{a:Rs}{o:Own}(h:jw w b n r.ab o)(c:St X.w0 X.P X.fv w r d)(e:Fz X.P E w r w' a)(g:¬E b):jw w' b n a.ab o:=by
 have i:=h.notX c;obtain⟨f,h1,h2⟩:=h;exact⟨f,h1.kept (e.blk b h1.lt i g),λnm=>(h2 nm).mono e.pre⟩
theorem Ax{a:Nat}{c:jW}{d r2:Rs}(h:Fz P iL w r w1 d)(g:Fz P (λb=>b=a) w1 d c r2)(e:w.heap.size<=a):Fz P iL w r c r2:=by
 have f:=(h.no (E:=λb=>b=a)).trans g;exact⟨f.os,f.tape,f.output,f.size,λb i j _=>f.blk b i j (by show ¬b=a;omega),f.pre,f.new⟩
structure Ux (X:Cx) (F:eR) (xs:List Tr) (W3:jW) (r0:Rs) (d M m M' g:Nat) (o:Own) (wr:jW) (i:Nat):Prop where
 at':∃(g':Nat)(r':Rs)(vs:List Vl),vs.length=i/\St X.w0 X.P X.fv wr r' d/\Fz X.P (λb=>b=M') W3 r0 wr r'/\jw wr M m r'.ab o/\jw wr M' i r'.ab ((F.ps.map (·.1)).zip vs).reverse/\g'<=g/\nA X.fs g d o (chain xs) r0.s=au (nA X.fs g' d o (chain (xs.drop i))) (λrest=>ar (vs++rest)) r'.s
theorem go_call(hP:nS X){bx ba gr:Nat}{n:Int}{op:By}{r:Tr}{B:jE}{q9:jO}{cp:Nat}(hF:Cb X g nm F q9 cp kb cb)(G4:nm.length<=1000000)(C9:X.w0.heap[bp]?=some (jC #[ptr X.P] 57))(F7:mA X.w0 bx 5 a n nm op)(D0:X.w0.heap[ba]?=some (jC #[jL (some (jA gr)) B.length B.length] 297))(E0:X.w0.heap[gr]?=some (.cells B.toArray 245))(E:B.length=xs.length)(D2:F.ps.length=xs.length)(h6:xs.length<=1000000)
  (U:∀(i:Nat)(u:jU),B[i]?=some u->∃kf cf,u= .func (.func kf) #[] cf) (hE:∀(i:Nat)(x:Tr)(u:jU),xs[i]?=some x->B[i]?=some u->∀g',g'<=g->mh X g' x u):mh X (g+1) (nd 5 a n nm op l r (chain xs)) (.func (.func 229) #[] #[ptr bp,ptr bx,ptr ba]):=by
 intro w q d M m o hs ho V;rw[Eh (h:=hF.fs)]at V⊢;obtain⟨b,H6,H3,H1,B8,B7⟩:=F7;obtain⟨Mf,nf,f,D8,A6,B3⟩:=hF.fn;obtain⟨ys,A8⟩:∃ys:ByteArray,ys=⟨nm.toArray⟩:=⟨_,rfl⟩;have O:Hid (∀W r,St X.w0 X.P X.fv W r d->W.cell? (jA bp)=some (ptr X.P)/\W.cell? (jA ba)=some (jL (some (jA gr)) B.length B.length)/\W.heap[gr]?=some (.cells B.toArray 245)):=λW r h=>⟨jc 0 (h.old C9 hP (by decide)),jc 0 (h.old D0 hP (by decide)),h.old E0 hP (by decide)⟩;obtain⟨j,B1⟩:=aB (w.alloc R0);have t:St X.w0 X.P X.fv j q d:=by rw[B1];exact hs.below (eL w R0)
 have c1:j.cell? (jA bp)=some (ptr X.P):=jc 0 (t.old C9 hP (by decide));have c2:j.cell? (jA X.P)=some (.map (some Mf)):=by rw[<-D8];exact jc 0 t.pb
 have c3:j.cell? (jA bx)=some (ptr b):=jc 0 (t.old B8 hP (by decide));have c4:j.cell? (jB b 3)=some (jT ys):=by rw[A8];exact jc 3 (t.old B7 hP (by decide))
 have A2:∀W r,St X.w0 X.P X.fv W r d->(Instr.lookup 58 (.map (some Mf)) (jT ys) false).run Tryz.prog W= .ok (.agg #[jL q9 F.ps.length cp,.func (.func kb) #[] cb]) W:=λW r h=>by
  have V:Mf≠X.P:=λe=>by
   obtain⟨es,G0,ho⟩:=A6.obj;obtain⟨ds,hd⟩:=hP;rw[e,hd]at ho;cases ho
  have:=(A6.kept (w':=W) (h.kp Mf A6.lt V)).look H_ (Ia W) ys (by rw[A8];simpa[ByteArray.size] using G4);rw[this,A8];simp[B3]
 obtain⟨np,A5⟩:=aB F.ps.length;have l1:=A2 j.drew q (t.below (aJ _ _).drew);have l2:=A2 (j.alloc (jC #[jS,.nilFunc] 69)).drew q (t.below (eL j _).drew);rw[<-A5]at l1 l2;have c5:j.cell? (jA ba)=some (jL (some (jA gr)) B.length B.length):=(O.out j q t).2.1;have z5:ba<j.heap.size:=aV j _ c5;obtain⟨nu,H⟩:=aB B.length;have N:Hid (nu=B.length/\nu=xs.length/\nu=F.ps.length):=⟨H,by rw[H];exact E,by rw[H,E,D2]⟩;have G7:nu<=1000000:=by rw[H,E];exact h6
 rw[<-H]at c5;have z1:bp<j.heap.size:=aV j _ c1;have z2:X.P<j.heap.size:=aV j _ c2;have z3:bx<j.heap.size:=aV j _ c3;have z4:b<j.heap.size:=aV j _ c4;have HS:Hid (St X.w0 X.P X.fv w q d):=hs;have F2:Hid (St X.w0 X.P X.fv j q d):=t;have HO:Hid (jw w M m q.ab o):=ho;have E2:Hid (∀out,au (nA X.fs g d o (chain xs)) (λA=>au (fK X.fs g d ((F.ps.map (·.1)).zip A).reverse F.body) λz=>ar ((z,none):Vl)) q.s≠.error (99,out)):=V;refine⟨229,_,rfl,Gc,?_⟩;show aA 229 #[.map (some M),ptr bp,ptr bx,ptr ba] w _;generalize hG:EP X w q d (au (nA X.fs g d o (chain xs)) (λA=>au (fK X.fs g d ((F.ps.map (·.1)).zip A).reverse F.body) λz=>ar ((z,none):Vl)) q.s)=G;have HG:Hid (EP X w q d (au (nA X.fs g d o (chain xs)) (λA=>au (fK X.fs g d ((F.ps.map (·.1)).zip A).reverse F.body) λz=>ar ((z,none):Vl)) q.s)=G):=hG;have F4:Hid (np=F.ps.length):=A5;have HP:Hid (nS X):=hP;have A7:Hid (Cb X g nm F q9 cp kb cb):=hF;have G6:Hid (∀(i:Nat)(u:jU),B[i]?=some u->∃kf cf,u= .func (.func kf) #[] cf):=U;have F6:Hid (∀(i:Nat)(x:Tr)(u:jU),xs[i]?=some x->B[i]?=some u->∀g',g'<=g->mh X g' x u):=hE;have H4:∀W:jW,(Instr.makeMap 71 (some (jV (nu:Int)))).run Tryz.prog W= .ok (.map (some W.heap.size)) (W.alloc (.map #[] 0)):=λW=>by simp[Instr.makeMap,go_sem]
 clear U hE H E D2 h6;clear hs ho V hG A2 A6 B3 C9 D0 E0 B8 B7 hP D8 A8 A5 hF t;go_enter Tryz.func229,Tryz.ntmps229
 go_upto_region 1 with fail
 have A4:Hid (j=w.alloc R0):=B1;rw[<-B1];clear B1
 go_cut [6] (λv6 wx=>v6=ptr j.heap.size/\wx=(j.alloc (jC #[jL q9 np cp,.func (.func kb) #[] cb] 69)).drew)
 case first=>
  go_region
  all_goals (go_wp2_with fail;go_meet;exact⟨rfl,rfl⟩)
 case rest=>
  obtain⟨rfl,rfl⟩:=hcut;clear l1 l2 c2 c3 c4 z2 z3 z4
  go_wp2_with fail
  obtain⟨W3,J⟩:=aB (((j.alloc (jC #[jL q9 np cp,.func (.func kb) #[] cb] 69)).alloc (.map #[] 0)).drew);have A0:az j W3:=by rw[J];exact(lU _ _ _).drew
  have E1:W3.heap.size=j.heap.size+2:=by rw[J];simp
  have i6:W3.heap[j.heap.size]?=some (jC #[jL q9 np cp,.func (.func kb) #[] cb] 69):=by rw[J];exact IC _ _ _
  have C4:kB W3 (j.heap.size+1) 0 (λ_=>none):=by
   have:=kB.made (j.alloc (jC #[jL q9 np cp,.func (.func kb) #[] cb] 69));have h2:kB ((j.alloc (jC #[jL q9 np cp,.func (.func kb) #[] cb] 69)).alloc (.map #[] 0)) (j.heap.size+1) 0 (λ_=>none):=by simpa using this
   rw[J];exact h2.kept rfl
  have F1:St X.w0 X.P X.fv W3 q d:=F2.out.below A0;have Q:j.heap.size=w.heap.size+1:=by rw[A4.out];simp
  have G5:X.w0.heap.size<=w.heap.size:=HS.out.le;have F5:M<w.heap.size:=by obtain⟨f,h1,_⟩:=HO.out;exact h1.lt
  rw[<-J];clear J;obtain⟨B6,D7⟩:=aB j.heap.size;rw[<-D7]at E1 i6 C4 Q⊢;have A9:Hid (∀W k,Fz X.P (λb=>b=B6+1) W3 q W k->W.heap[B6]?=some (jC #[jL q9 np cp,.func (.func kb) #[] cb] 69)/\W.heap[w.heap.size]?=some R0/\¬Xs X.P k w.heap.size):=λW k hf=>by
   have x6:=HS.out.newX (b:=B6) (by omega);have x0:=HS.out.newX (b:=w.heap.size) (aD _);refine⟨by rw[hf.blk B6 (by omega) x6 (by show ¬B6=B6+1;omega)];exact i6,?_,λC=>?_⟩
   ·rw[hf.blk w.heap.size (by omega) x0 (by show ¬w.heap.size=B6+1;omega),A0.block _ (by omega),A4.out];exact heap_alloc_last _ _
   ·have:=hf.new _ C x0;omega
  have C6:Hid (B6=w.heap.size+1):=Q;have I:Hid (X.w0.heap.size<=B6+1/\M≠B6+1):=⟨by omega,by omega⟩;have S:Hid (Fz X.P iL (w.alloc R0) q W3 q):=by show Fz _ _ _ _ _ _;rw[<-A4.out];exact Fz.below A0
  have B5:Hid (∀out,nA X.fs g d o (chain xs) q.s≠.error (99,out)):=(fP E2.out).1;have E4:Hid (Ux X F xs W3 q d M m (B6+1) g o W3 0):=⟨⟨g,q,[],rfl,F1,Fz.refl _ _ _ _,(HO.out.below (eL w R0)).below (by rw[<-A4.out];exact A0),⟨_,C4,λnm=>by rw[List.zip_nil_right];exact⟨jS,rfl,rfl⟩⟩,aD _,by rw[List.drop_zero,SB]⟩⟩;clear A0 E1 i6 C4 F1 Q G5 F5 D7 c1 c5 z1 z5
  go_loopw [24] (λv wr=>∃i:Nat,i<=nu/\v=jV i/\Hid (Ux X F xs W3 q d M m (B6+1) g o wr i)) (λv _=>nu-(intOf v).toNat)
  case atStart=>exact⟨0,aQ _,rfl,E4⟩
  case round=>
   obtain⟨i,H5,rfl,HI⟩:=hrel;obtain⟨g',k,A,C2,q1,q2,q3,q4,q5,q6⟩:=HI.out.at';obtain⟨L,G1⟩:∃L,g'=L+1:=by
    cases g' with
    |zero=>exact absurd q6 (λe=>B5.out _ (e.trans (gS (Uw _ _ _ _ _))))
    |succ L=>exact⟨L,rfl⟩
   subst G1;have K:Hid (A.length=i/\St X.w0 X.P X.fv wr k d/\Fz X.P (λb=>b=B6+1) W3 q wr k/\jw wr M m k.ab o/\jw wr (B6+1) i k.ab ((F.ps.map (·.1)).zip A).reverse/\L<=g):=⟨C2,q1,q2,q3,q4,by omega⟩;have HE:Hid (nA X.fs g d o (chain xs) q.s=au (nA X.fs (L+1) d o (chain (xs.drop i))) (λrest=>ar (A++rest)) k.s):=q6;by_cases C1:i<nu
   ·obtain⟨x,C⟩:∃x,xs[i]?=some x:=⟨xs[i]'(by rw[<-N.out.2.1];exact C1),aI _⟩;obtain⟨u,hu⟩:∃u,B[i]?=some u:=⟨B[i]'(by rw[<-N.out.1];exact C1),aI _⟩;obtain⟨pp,B2⟩:∃pp,F.ps[i]?=some pp:=⟨F.ps[i]'(by rw[<-N.out.2.2];exact C1),aI _⟩;obtain⟨kf,cf,rfl⟩:=G6.out i u hu;obtain⟨yp,B9⟩:∃yp:ByteArray,yp=⟨pp.1.toArray⟩:=⟨_,rfl⟩;obtain⟨F3,H2,F8,B4,Y⟩:=A7.out.row i pp B2;subst F8;have E8:Hid (∀W r,St X.w0 X.P X.fv W r d->W.cell? (jB F3 (i*2))=some (jT yp)):=λW r h=>by rw[B9];exact eo (h.old B4 HP.out (by decide)) Y
    have e1:=E8.out wr k q1;have cu:wr.cell? (jB gr i)=some (.func (.func kf) #[] cf):=eo (O.out wr k q1).2.2 (by simpa using hu);have e6:=eo (i:=0) (A9.out wr k q2).1 rfl;have D:Hid (nA X.fs g d o (chain xs) q.s=au (eM X.fs L d o x) (λv=>au (nA X.fs L d o (chain (xs.drop (i+1)))) λD4=>ar (A++(v::D4))) k.s):=by
     show _=_;rw[HE.out,MZ C,Uv,Aw];congr 1
     funext v
     rw[Aw];rfl
    have hN:=(fP (λout=>by rw[<-D.out];exact B5.out out)).1;have C7:=F6.out i x _ C hu L (by omega);obtain⟨k3,E5,Z,E6,-⟩:=C7 wr k d M m o q1 q3 hN;injection Z with Z _ e4;injection Z with Z;subst Z;subst e4;have HC:Hid (∀W,az wr W->aA kf (#[.map (some M)]++cf) W (EP X W k d (eM X.fs L d o x k.s))):=λW D3=>by
     obtain⟨k3,E5,Z,_,G2⟩:=C7 W k d M m o (q1.below D3) (q3.below D3) hN;injection Z with Z _ e4;injection Z with Z;subst Z;subst e4;exact G2
    have G8:=kj.xq E6;have C3:Hid (yp=⟨pp.1.toArray⟩/\pp.1.length<=1000000/\(F.ps.map (·.1))[i]?=some pp.1):=⟨B9,A7.out.few pp (aM B2),by rw[bw,B2];rfl⟩;have A5:(i:Int)<(np:Int):=by rw[F4.out,<-N.out.2.2];omega
    have G9:i<np:=by omega
    clear C2 q1 q2 q3 q4 q5 q6 C hu B2 B9 B4 Y hN C7 E6
    go_wp2_with fail
    go_region_with
     (first
      |(refine(HC.out _ (by repeat first|exact aJ _ _|refine bF ?_)).mono ?_;rintro e w1 ⟨r1,h1,hf,⟨y,p,ll,c,C,rfl,hq⟩|⟨k9,out,C,A3⟩⟩;rotate_left;exact(by obtain⟨_,C8,rfl,_⟩:=id A3;refine⟨rfl,?_⟩;rw[<-HG.out,gS (show nA X.fs g d o (chain xs) q.s= .error (k9,out) by rw[D.out,gS C])];exact⟨r1,h1,nT (Ax S.out (K.out.2.2.1.trans ((Fz.below (by repeat first|exact aJ _ _|refine bF ?_)).trans hf).no) (by have:=I.out;have:=C6.out;simp;omega)),.inr ⟨k9,out,rfl,A3⟩⟩);have T:Fz X.P iL wr k w1 r1:=(Fz.below (by repeat first|exact aJ _ _|refine bF ?_)).trans hf;have D9:=K.out.2.2.2.2.1.keeps K.out.2.1 T;have D1:=K.out.2.2.2.1.keeps K.out.2.1 T;have D6:=Cl D9 h1 I.out.1 (by omega) pp.1 C3.out.2.1 y p ll c hq;rw[<-C3.out.1]at D6;obtain⟨w9,H8,E7,E9,C0⟩:=D6;have F9:Hid (Ux X F xs W3 q d M m (B6+1) g o w9 (i+1)):=⟨⟨L,r1,A++[y],by rw[bh,K.out.1];rfl,E9,(K.out.2.2.1.trans T.no).trans C0,D1.keepsE h1 C0 (by show ¬M=B6+1;exact I.out.2),by rw[yT _ A pp.1 y (by rw[K.out.1];exact C3.out.2.2),List.reverse_append];exact E7,K.out.2.2.2.2.2,by rw[D.out,ft C];congr 1;funext D4;simp⟩⟩;have t1:=E8.out w1 r1 h1;have t6:=eo (i:=0) (A9.out w1 r1 (K.out.2.2.1.trans T.no)).1 rfl;clear h1 hf C hq T D9 D1 E7 E9 C0))
    all_goals
     go_wp2;exact⟨⟨i+1,by omega,by go_num,F9⟩,by simp[intOf];omega⟩
   ·obtain rfl:i=nu:=by omega
    have D:Hid (nA X.fs g d o (chain xs) q.s= .ok (A,k.s)):=by
     show _=_;rw[HE.out,bg (by rw[<-N.out.2.1];exact aD _)];show au (nA X.fs (L+1) d o ce) _ k.s=_;rw[SA];show Except.ok (A++[],k.s)=_;rw[bT]
    have hN:=(fP ((fP E2.out).2 A k.s D.out)).1;have F0:=uD HP.out (A7.out.body g (aD _)) A7.out.ent q9 np cp wr k d (B6+1) i 3000000 ((F.ps.map (·.1)).zip A).reverse q1 q4 I.out.1 (by have:=q1.few;omega) (by omega) hN;have E3:Hid (aA 30 #[ptr X.P,.agg #[jL q9 np cp,.func (.func kb) #[] cb],.map (some (B6+1))] wr (CP X wr k d (B6+1) (fK X.fs g d ((F.ps.map (·.1)).zip A).reverse F.body k.s))):=F0;obtain⟨c1,-,-⟩:=O.out wr k q1;have H0:=eo (i:=0) (A9.out wr k q2).1 rfl;have H7:=eo (i:=1) (A9.out wr k q2).1 rfl;clear C2 q1 q2 q3 q4 q5 q6 hN F0
    go_wp2_with(go_at_call 30;fail)
    refine E3.out.mono ?_;rintro e w1 ⟨r1,h1,hf,⟨n1,C,rfl⟩|⟨k9,out,C,A3⟩⟩
    rotate_left
    ·obtain⟨_,C8,rfl,_⟩:=id A3;refine⟨rfl,?_⟩;rw[<-HG.out,ft D.out,gS C];exact⟨r1,h1,nT (Ax S.out (K.out.2.2.1.trans hf) (by have:=I.out;have:=C6.out;simp;omega)),.inr ⟨k9,out,rfl,A3⟩⟩
    have C5:Hid (St X.w0 X.P X.fv w1 r1 d/\Fz X.P iL (w.alloc R0) q w1 r1):=⟨h1,Ax S.out (K.out.2.2.1.trans hf) (by have:=I.out;have:=C6.out;simp;omega)⟩;have G3:Hid (fK X.fs g d ((F.ps.map (·.1)).zip A).reverse F.body k.s= .ok (n1,r1.s)):=C;have hk:=(fZ HS.out C5.out.2).1;clear h1 hf C
    go_wp2_with(go_at_call 196;fail)
    refine(gu _ _).mono ?_;rintro e w2 ⟨rfl,B0⟩;have A1:=lx B0 hk;have b1:=jc 0 A1;have b2:=jc 1 A1;have b3:=ea A1 0;have b4:=ea A1 1;have D5:Hid (St X.w0 X.P X.fv w2 r1 d/\Fz X.P iL (w.alloc R0) q w2 r1):=⟨C5.out.1.below B0,C5.out.2.trans (Fz.below B0)⟩;clear hk B0 A1;go_wp2;obtain⟨e1,e2⟩:=j_ (y:=(n1,none)) (p:=none) (l:=0) (c:=0) HS.out D5.out.1 D5.out.2 rfl
    refine bodyPost_ret (jH Tryz.results229 _ _ w.heap.size _ _ rfl e1) rfl ?_;rw[<-HG.out,ft D.out,ft G3.out];exact e2
theorem gz.nil{v:jU}(h:gz w P .nil v):False:=by unfold gz at h;exact h
theorem gz.form{v:jU}(b:fw t)(h:gz w P t v):∃k d,v= .func (.func k) #[] d/\kj k:=by
 obtain⟨c,a,n,nm,e,l,r,g,rfl⟩:=b;rw[gz]at h;rcases h with⟨_,bx,rfl,_⟩|⟨_,bx,rfl,_⟩|⟨_,bx,bl,f,vl,vr,rfl,_⟩|⟨_,bl,vl,rfl,_⟩|⟨_,i,bx,j,g,m,rfl,_⟩|⟨_,bl,vl,rfl,_⟩|⟨_,bl,vl,rfl,_⟩|⟨_,bl,f,vl,vr,rfl,_⟩|⟨_,i,rfl,_⟩
 ·exact⟨_,_,rfl,FX⟩
 ·exact⟨_,_,rfl,FQ⟩
 ·split
  ·exact⟨_,_,rfl,FY⟩
  ·split
   ·exact⟨_,_,rfl,FZ⟩
   ·exact⟨_,_,rfl,F_⟩
 ·split
  ·exact⟨_,_,rfl,Ga⟩
  ·exact⟨_,_,rfl,Gb⟩
 ·exact⟨_,_,rfl,Gc⟩
 ·exact⟨_,_,rfl,FR⟩
 ·exact⟨_,_,rfl,FT⟩
 ·exact⟨_,_,rfl,FU⟩
 ·exact⟨_,_,rfl,FV⟩
theorem ji(h:t= .nil\/fw t){v:jU}(hc:gz w P t v):fw t:=by
 rcases h with rfl|h
 ·exact hc.nil.elim
 ·exact h
theorem uA{fs:By->Option eR}:∀(xs:List Tr)(a:jE),gz w P (chain xs) (.tuple a.toArray)->fD (chain xs)->lC fs (chain xs)->
  a.length=xs.length/\∀(i:Nat)(x:Tr)(u:jU),xs[i]?=some x->a[i]?=some u->fw x/\fD x/\gz w P x u/\lC fs x
 |[],a,h,_,_=>by
  unfold chain at h;rw[gz]at h;have:a=[]:=by simpa using h
  subst this;exact⟨rfl,λi x u b=>by simp at b⟩
 |x::xs,a,h,c,hk=>by
  unfold chain at h c hk;rw[gz]at h;rw[fD]at c;rw[lC]at hk;obtain⟨y,ys',e,h1,h2⟩:=h;have d:a=y::ys':=by simpa using e
  subst d;obtain⟨f,g⟩:=uA xs ys' h2 c.2.2 hk.2;refine⟨by simp[f],λi j u b k=>?_⟩;cases i with
  |zero=>
   simp only[bD,bm]at b k;subst b k;exact⟨c.1,c.2.1,h1,hk.1⟩
  |succ i=>
   simp only[bL]at b k;exact g i j u b k
theorem wW{fs:By->Option eR}:∀(t:Tr)(j:jE),fV t->kL w P t j->oK fs t->
  ∃xs,t=chain xs/\j.length=xs.length/\∀(i:Nat)(x:Tr)(u:jU),xs[i]?=some x->j[i]?=some u->∃l n,fV (cc x l)/\kL w P (cc x l) (u::n)/\oK fs (cc x l)
 |t,j,hg,h,hk=>by
  have m:=hg;unfold fV at hg;split at hg
  ·rename_i c a nm B v A el g;have s:=h;have k:=hk;rw[kL]at h;rw[oK]at hk;obtain⟨u,b,rfl,z,_⟩:=h;obtain⟨_,_,_,_,_,_,_,_,_,_,y⟩:=hg;obtain⟨xs,e,r,p⟩:=wW g b y z hk.2.2.2.2.2;refine⟨_::xs,by rw[e];rfl,by simp[r],λi o q d f=>?_⟩;cases i with
   |zero=>
    simp only[bD,bm]at d f;subst d f;exact⟨g,b,m,s,k⟩
   |succ i=>
    simp only[bL]at d f;exact p i o q d f
  ·rw[kL]at h;subst h;exact⟨[],rfl,rfl,λi x u d=>by simp at d⟩
  ·exact hg.elim
theorem Es{x:Tr}{b:jE}(d:fV (cc x t))(h:kL w P (cc x t) (u::b)):∃f cf,u= .func (.func f) #[] cf:=by
 obtain⟨c,a,nm,g,v,i,el,rfl,_⟩:=km d;rw[kL]at h;obtain⟨j,k,e,_,h⟩:=h;injection e with e _;subst e;rcases h with⟨_,l,m,n,o,p,rfl,_⟩|⟨_,m,q,r,s,y,p,z,A,B,C,D,E,ts,F,rfl,_⟩|⟨_,m,q,G,p,s,z,B,D,ts,rfl,_⟩|⟨_,m,p,rfl,_⟩|⟨_,G,m,p,rfl,_⟩|⟨_,m,p,rfl,_⟩|⟨_,m,n,p,rfl,_⟩
 all_goals exact⟨_,_,rfl⟩
structure SN (X:Cx) (nm:By) (F:eR):Prop where
 go:∃(q9:jO)(cp kb:Nat)(cb:Array Value),(∃Mf nf f,X.fv= .map (some Mf)/\kB X.w0 Mf nf f/\f nm=some (.agg #[jL q9 F.ps.length cp,.func (.func kb) #[] cb]))/\(∀(i:Nat)(p:By×Int),F.ps[i]?=some p->∃g9 cs,q9=some (jA g9)/\X.w0.heap[g9]?=some (.cells cs 144)/\cs[i*2]?=some (str p.1))/\pK X.w0 X.P F.body (.func (.func kb) #[] cb)
 few:∀p∈F.ps,p.1.length<=1000000
 good:qF F
 ok:oK X.fs F.body
abbrev Js(X:Cx)(g:Nat):Prop:=∀t v,fw t->fD t->gz X.w0 X.P t v->lC X.fs t->mh X g t v
abbrev iR(X:Cx)(g:Nat):Prop:=∀x t u a,fV (cc x t)->kL X.w0 X.P (cc x t) (u::a)->oK X.fs (cc x t)->GK X g x u
abbrev NM(X:Cx)(g:Nat):Prop:=∀t v,fV t->qw t<=1000000->pK X.w0 X.P t v->oK X.fs t->IG X g t v
theorem pG(b:nS X)(c:∀g',g'<=g->iR X g'):NM X g:=λt v d hc e hk=>by
 obtain⟨a,p,f,ts,rfl,h1,h2,h,j⟩:=e;obtain⟨xs,rfl,k,l⟩:=wW t ts d j hk;rw[ig]at hc;refine go_block b h1 h2 h k hc (λi u m=>?_) (λi x u n m g' o=>?_)
 ·obtain⟨x,n⟩:∃x,xs[i]?=some x:=⟨xs[i]'(by rw[<-k];exact(aK.1 m).1),aI _⟩;obtain⟨q,r,s,w,_⟩:=l i x u n m;exact Es s w
 ·obtain⟨q,r,s,w,y⟩:=l i x u n m;exact c g' o x q u r s w y
theorem Jt(f:nS X)(hF:∀nm F,X.fs nm=some F->SN X nm F)(Q:∀g',g'<=g->Js X g')(hS:∀g',g'<=g->iR X g'):Js X (g+1):=λt v hn L hc hk=>by
 obtain⟨c,a,n,nm,op,l,r,xg,rfl⟩:=hn;have o:=Q g (aD _);rw[fD]at L;rw[lC]at hk;rw[gz]at hc;obtain⟨_,_,_,_,w,T,gl,M,gg,xs,G,y⟩:=L;obtain⟨A,q,P,V,Z⟩:=hk;rcases hc with⟨rfl,bx,rfl,b⟩|⟨rfl,bx,rfl,b⟩|⟨rfl,bx,bl,br,vl,vr,rfl,b,d,j,m,B⟩|⟨rfl,bl,vl,rfl,b,d⟩|⟨rfl,bp,bx,ba,gq,W,rfl,b,d,j,m,B⟩|⟨rfl,bl,vl,rfl,b,d⟩|⟨rfl,bl,vl,rfl,b,d⟩|⟨rfl,bl,br,vl,vr,rfl,b,d,j,m⟩|⟨rfl,bp,rfl,b⟩
 ·exact go_num f b
 ·exact go_name f b A
 ·have p:=o l vl (ji w m) gl m q;have D:=o r vr (ji T B) M B P;split
  ·rename_i h;exact go_and f h d j p D
  ·split
   ·rename_i h;exact go_or f h d j p D
   ·rename_i h1 h2;exact go_two f h1 h2 b d j p D
 ·have p:=o l vl (ji w d) gl d q;split
  ·rename_i h;exact go_neg f h b p
  ·rename_i h;exact go_not f h b p
 ·obtain⟨F,N,s⟩:=Z rfl;subst G;rw[ig]at s;obtain⟨O,U⟩:=uA xs W B gg V;have R:=hF nm F N;obtain⟨q9,cp,kb,cb,f1,f2,S⟩:=R.go;have ek:kj kb:=by
   obtain⟨_,_,_,_,e,_⟩:=S;injection e with e _ _;injection e with e;subst e;exact BD
  refine go_call f (q9:=q9) (cp:=cp) (kb:=kb) (cb:=cb) ⟨N,f1,f2,R.few,λg' z=>pG f (λE h=>hS E (by omega)) F.body _ R.good.1 R.good.2.1 S R.ok,ek⟩ A b d j m O s y (λi u C=>?_) (λi x u I C g' z=>?_)
  ·obtain⟨x,I⟩:∃x,xs[i]?=some x:=⟨xs[i]'(by rw[<-O];exact(aK.1 C).1),aI _⟩;obtain⟨H,_,J,_⟩:=U i x u I C;obtain⟨k,K,e,_⟩:=J.form H;exact⟨k,K,e⟩
  ·obtain⟨H,Y,J,d4⟩:=U i x u I C;exact Q g' z x u H Y J d4
 ·exact go_new f b (o l vl (ji w d) gl d q)
 ·exact go_len f b (o l vl (ji w d) gl d q)
 ·exact go_item f b d (o l vl (ji w j) gl j q) (o r vr (ji T m) M m P)
 ·exact go_input f b
theorem Ju(b:nS X)(d:∀g',g'<=g->Js X g')(f:∀g',g'<=g->iR X g'):iR X (g+1):=λx t u i j hc hk=>by
 obtain⟨c,a,nm,k,v,l,el,rfl,_,_,m,n,o,p,ax,q,r,s,_⟩:=km j;have w:=d g (aD _);have y:∀g',g'<=g->NM X g':=λg' h=>pG b (λz A=>f z (by omega));rw[oK]at hk;rw[kL]at hc;obtain⟨B,C,D,E,F,_⟩:=hk;obtain⟨G,H,e,_,hc⟩:=hc;injection e with e _;subst e;rcases hc with⟨rfl,I,J,K,L,M,rfl,N,O,P,Q,S⟩|⟨rfl,J,T,U,V,W,M,Y,Z,i,j,f,z,ts,A,rfl,N,O,P,Q,G,H,I,U,A0,A1,A2,A3,A4,A5⟩|⟨rfl,J,T,T,M,V,Y,i,f,ts,rfl,N,O,P,Q,G,H,I,U,A0⟩|⟨rfl,J,M,rfl,N,O⟩|⟨rfl,T,J,M,rfl,N,O,P⟩|⟨rfl,J,M,rfl,N,O⟩|⟨T,J,K,M,rfl,N,O,P⟩
 ·exact go_put3 b B P N O (w k L (ji m Q) n Q C) (w v M (ji o S) p S D)
 ·exact go_if4 b N O P (w v M (ji o Q) p Q D) (y g (aD _) l V ax q ⟨Y,i,f,ts,G,H,I,U,A0⟩ E) (y g (aD _) el W r s ⟨Z,j,z,A,A1,A2,A3,A4,A5⟩ F)
 ·have k:=ji o Q;obtain⟨m,n,rfl,r⟩:=Q.form k;subst G;exact go_while5 b N O P (λg' h=>d g' h v _ k p Q D) (λg' h=>y g' h l _ ax q ⟨Y,i,f,ts,rfl,H,I,U,A0⟩ E) r BD
 ·exact go_ret6 b N (w v M (ji o O) p O D)
 ·exact go_print7 b N O (w v M (ji o P) p P D)
 ·exact go_do8 b N (w v M (ji o O) p O D)
 ·exact go_set1 b T B O N (w v M (ji o P) p P D)
theorem qP(a:nS X)(b:∀nm F,X.fs nm=some F->SN X nm F):∀g:Nat,∀g',g'<=g->Js X g'/\iR X g'
 |0,g',h=>by
  obtain rfl:g'=0:=by omega
  exact⟨λt v _ _ _ _ w r d c n o _ _ e=>absurd rfl (e r.s.out),λx t u f _ _ _ w r d c n i o _ _ _ _ _ e=>absurd rfl (e r.s.out)⟩
 |g+1,g',h=>by
  by_cases j:g'<=g
  ·exact qP a b g g' j
  ·obtain rfl:g'=g+1:=by omega
   exact⟨Jt a b (λg' h=>(qP a b g g' h).1) (λg' h=>(qP a b g g' h).2),Ju a (λg' h=>(qP a b g g' h).1) (λg' h=>(qP a b g g' h).2)⟩
theorem Jv(a:nS X)(b:∀nm F,X.fs nm=some F->SN X nm F)(g:Nat):NM X g:=pG a λg' h=>(qP a b g g' h).2
theorem Gl(w:jW):(Instr.typeAssert .nilIface 20 61 true).run Tryz.prog w= .ok (.tuple #[jV 0,.bool false]) w:=by kernel_rfl
theorem Gn(k:Int)(w:jW):(Instr.typeAssert (.iface 61 (jV k)) 20 61 true).run Tryz.prog w= .ok (.tuple #[jV k,.bool true]) w:=by kernel_rfl
theorem tC(a B6:Nat)(w:jW):CallsD Tryz.prog 28 #[ptr a,ptr B6] .returning w λe b w'=>e=jR (.tuple #[])/\b= .returning/\w'=w:=by
 have c:=Gl;refine callsD_of_wpS Tryz.func28 rfl λd cs f=>?_;rw[Tryz.ntmps28,JM];apply wpS_seq;apply wpS_region;simp[wpOpsS,go_sem,recoverD,f,Exit.thenS,c]
 apply wpS_seq;apply wpS_region;simp[wpOpsS,go_sem,Exit.thenS]
 refine wpS_cond (t:=false) (by simp[Act.eval]) ?_;simp only[bI,if_false];refine wpS_of_wp (wp_skip ?_);cases d
 simp_all [bodyPostS,results,Tryz.results28,Exit.thenS]
theorem vW(a B6 P:Nat)(k:Int)(b:List PanicEntry)(p:jO)(l c:Nat)(w:jW)(h1:w.cell? (jA a)=some (ptr P))(h2:w.cell? (jB P 2)=some (jL p l c)){y z:jU}(d:w.heap[B6]?=some (jC #[x,y,z] 29)):
  CallsD Tryz.prog 28 #[ptr a,ptr B6] (.panicking ({v:= .iface 61 (jV k),recovered:=false}::b)) w λe f w'=>e=jR (.tuple #[])/\f= .panicking ({v:= .iface 61 (jV k),recovered:=true}::b)/\w'=((w.setCell (jA B6) (jV k)).setCell (jB B6 1) (jV 0)).setCell (jB B6 2) (jL p l c):=by
 have g:=Gn;have h:=jc 0 d;have j:=jc 1 d;have m:=jc 2 d;have n:=ea d 0;have o:=ea d 1;have q:=ea d 2;refine callsD_of_wpS Tryz.func28 rfl λr cs s=>?_;rw[Tryz.ntmps28,JM];apply wpS_seq;apply wpS_region;simp[wpOpsS,go_sem,recoverD,s,Exit.thenS,g]
 apply wpS_seq;apply wpS_region;simp[wpOpsS,go_sem,Exit.thenS]
 refine wpS_cond (t:=true) (by simp[Act.eval]) ?_;simp only[if_true];refine wpS_of_wp ?_;go_wp2
 simp_all [bodyPostS,results,Tryz.results28,Exit.thenS]
end Go.Proofs.YtnfhpdbbfejioaaGreatDoor
